/-
  Contracts: pairs of letters that are given out without an end; the first difference; written by genE5.py.
-/
import Derived.Test.YtdemgialagjomaaE3
import Derived.Test.YtdemgialagjomaaD6
import Derived.Test.YtdemgialagjomaaTill2
import Derived.OwnWalkIn
import Derived.TacticsInMore
import Derived.LoopNIn
import Derived.LoopIn
import Derived.Sort.LoopGhostIn
import Derived.Shelf.RegionOpen
namespace Go.Proofs.Ytdemgialagjomaa
open Go.RowKit Go.Shelf
attribute [local go_sem] Oper.semAt_some

theorem setGrownQ (W : World) (b o : Nat) (v : Value) : W.grownBy (W.setCell ⟨b, o, none⟩ v) (some b) :=
  ⟨rfl, rfl, rfl, by simp [World.setCell], fun k _ hk => Below.heap_setCell _ _ _ k (fun e => hk (by rw [e]))⟩
theorem fwCallQ {n : Nat} {P : Program} {f : FuncId} {args : Array Value} {w : World} {R : Ending → World → Prop} (h : Calls P f args w R) : FW.fn f ∧ (FW.depth.isSome = true → 1 ≤ n) ∧ CallsIn FW (n - 1) P f args w R :=
  ⟨trivial, (fun h => (by cases h)), callsIn_wide.2 h⟩

/-- The two boxes of an iterator. -/
structure TwoB (W : World) (Bs Bt : Nat) (x y a b : Wd) : Prop where
  zs : Bs < W.heap.size
  zt : Bt < W.heap.size
  c0 : W.cell? ⟨Bs, 0, none⟩ = some (.string (bs x))
  c1 : W.cell? ⟨Bs, 1, none⟩ = some (.string (bs y))
  d0 : W.cell? ⟨Bt, 0, none⟩ = some (.string (bs a))
  d1 : W.cell? ⟨Bt, 1, none⟩ = some (.string (bs b))
theorem TwoB.on {W w1 : World} {Bs Bt : Nat} {x y a b : Wd} (H : TwoB W Bs Bt x y a b) (hb : Below W.heap.size W w1) : TwoB w1 Bs Bt x y a b :=
  ⟨Nat.lt_of_lt_of_le H.zs hb.size, Nat.lt_of_lt_of_le H.zt hb.size, cellThru hb H.zs H.c0, cellThru hb H.zs H.c1, cellThru hb H.zt H.d0, cellThru hb H.zt H.d1⟩
theorem TwoB.keep {W w1 : World} {Bs Bt n1 : Nat} {r : Option Nat} {x y a b : Wd} (H : TwoB W Bs Bt x y a b) (hk : KeepX n1 (fun b => b = Bs ∨ b = Bt) r W w1) (h1 : some Bs ≠ r) (h2 : some Bt ≠ r) : TwoB w1 Bs Bt x y a b := by
  have e1 := hk.2 Bs (.inr (.inl rfl)) H.zs h1
  have e2 := hk.2 Bt (.inr (.inr rfl)) H.zt h2
  exact ⟨Nat.lt_of_lt_of_le H.zs hk.1, Nat.lt_of_lt_of_le H.zt hk.1, (World.cell?_of_block e1).trans H.c0, (World.cell?_of_block e1).trans H.c1, (World.cell?_of_block e2).trans H.d0, (World.cell?_of_block e2).trans H.d1⟩

theorem pairMake (x y a b : Wd) (w : World) :
    Calls Try.prog 25 #[sqV x y, sqV a b] w fun e w' => e = .returned (.func (.func 27) #[] #[.pointer (some ⟨w.heap.size, 0, none⟩), .pointer (some ⟨w.heap.size + 1, 0, none⟩)]) ∧ (w.alloc (.cells #[.string (bs x), .string (bs y)] 32)).alloc (.cells #[.string (bs a), .string (bs b)] 32) = w' := by
  have hmf : ∀ (fn : Fn) (first cap : Array Value) (w : World), (Instr.makeFunc fn first cap).run Try.prog w = .ok (.func fn first cap) w := fun _ _ _ _ => rfl
  go_enter Try.func25, Try.ntmps25
  go_wp2
  go_ret
  exact ⟨rfl, rfl⟩

set_option maxRecDepth 8000 in
set_option maxHeartbeats 4000000 in
theorem pairSeq (n : Nat) (x y a b : Wd) (Bs Bt N : Nat) (hN2 : N ≤ 1000000) (w : World) (h1 : 0 < y.length) (h2 : x.length + y.length ≤ 64) (h3 : 0 < b.length) (h4 : a.length + b.length ≤ 64) (HT : TwoB w Bs Bt x y a b) :
    SeqTill2 n Try.prog 27 #[.pointer (some ⟨Bs, 0, none⟩), .pointer (some ⟨Bt, 0, none⟩)] (fun k => #[.int .u8 ((atL x y k).toNat : Int), .int .u8 ((atL a b k).toNat : Int)]) (fun _ => True) N w (fun b => b = Bs ∨ b = Bt) := by
  intro l row J Jx W hW hJ hJx hN hrow hpr hY h0
  have HT1 := HT.on hW
  clear HT
  have HA := Lib.hid (fun (k : Nat) (hk : k ≤ 1000000) w => implAt x y k (k : Int) rfl w hk h1 h2)
  have HB := Lib.hid (fun (k : Nat) (hk : k ≤ 1000000) w => implAt a b k (k : Int) rfl w hk h3 h4)
  change Hid (∀ (k : Nat) (_ : k ≤ 1000000) w, Calls Try.prog 28 #[sqV x y, .int .i64 (k : Int)] w fun e w' => e = .returned (.int .u8 ((atL x y k).toNat : Int)) ∧ Below w.heap.size w w') at HA
  change Hid (∀ (k : Nat) (_ : k ≤ 1000000) w, Calls Try.prog 28 #[sqV a b, .int .i64 (k : Int)] w fun e w' => e = .returned (.int .u8 ((atL a b k).toNat : Int)) ∧ Below w.heap.size w w') at HB
  have HJ := Lib.hid hJ
  have HN := Lib.hid hN
  have HR := Lib.hid hrow
  have HY := Lib.hid hY
  have H0 := Lib.hid h0
  have HTT := Lib.hid HT1
  have hnr : Hid (∀ k X, J k X → some Bs ≠ row X ∧ some Bt ≠ row X) := Lib.hid (fun k X h => ⟨hpr k X Bs h (.inl rfl), hpr k X Bt h (.inr rfl)⟩)
  clear hJ hJx hN hrow hpr hY h0 HT1 h1 h2 h3 h4
  refine callsIn_of_wp Try.func27 rfl trivial ?_ rfl
  simp only [Try.ntmps27, List.size_toArray, List.length_cons, List.length_nil, Nat.reduceAdd, Nat.reduceSub, Array.replicate_succ, Array.replicate_zero, List.push_toArray, List.append_toArray, List.nil_append, List.cons_append]
  gi_wp2
  gi_loopg [4] N (fun gk q wr => ∃ k : Nat, q = .int .i64 k ∧ Hid (J k wr ∧ N ≤ gk + k) ∧ Hid (TwoB wr Bs Bt x y a b))
  case atStart => exact ⟨0, rfl, Lib.hid ⟨H0.out, by omega⟩, HTT⟩
  case round =>
    obtain ⟨k, rfl, H, HTr⟩ := hrel
    have hkN := HN.out k wr H.out.1
    have HAk := Lib.hid (HA.out k (by omega))
    have HBk := Lib.hid (HB.out k (by omega))
    have w1 : IntKind.i64.wrap ((k : Int) + 1) = (k : Int) + 1 := IntWalk.i64_in _ (by omega)
    obtain ⟨zs, zt, c0, c1, d0, d1⟩ := HTr.out
    gi_wp2_with fail
    refine wpIn_region_any (by kernel_rfl) ?_
    try (change wpAnyIn _ _ _ _ _ _ _ _ _ (World.drew _))
    refine wpAnyIn_take (i := 0) (v := ?_) rfl rfl (by kernel_rfl) (by kernel_rfl) (by kernel_rfl) (fun _ _ _ h => h) ⟨Or.inl ⟨by kernel_rfl, ?_⟩, ?_⟩ ?_
    rotate_left
    · intro w; first | (go_simp; done) | (go_simp; with_reducible rfl)
    · intro w; first | rfl | (go_simp; done)
    refine wpAnyIn_take (i := 2) (v := ?_) rfl rfl (by kernel_rfl) (by kernel_rfl) (by kernel_rfl) (fun _ _ _ h => h) ⟨Or.inl ⟨by kernel_rfl, ?_⟩, ?_⟩ ?_
    rotate_left
    · intro w; first | (go_simp; done) | (go_simp; with_reducible rfl)
    · intro w; first | rfl | (go_simp; done)
    refine wpAnyIn_take (i := 5) (v := ?_) rfl rfl (by kernel_rfl) (by kernel_rfl) (by kernel_rfl) (fun _ _ _ h => h) ⟨Or.inl ⟨by kernel_rfl, ?_⟩, ?_⟩ ?_
    rotate_left
    · intro w; first | (go_simp; done) | (go_simp; with_reducible rfl)
    · intro w; first | rfl | (go_simp; done)
    refine wpAnyIn_ready (rs := [1, 4]) (by kernel_rfl) (by simp) ?_
    refine AllReadyIn.cons rfl (fun K hK => ?_) (AllReadyIn.cons rfl (fun K hK => ?_) (AllReadyIn.nil))
    · go_simp
      refine hK _ _ ?_
      clear hK K
      refine wpAnyIn_ready (rs := [3, 4]) (by kernel_rfl) (by simp) ?_
      refine AllReadyIn.cons rfl (fun K hK => ?_) (AllReadyIn.cons rfl (fun K hK => ?_) (AllReadyIn.nil))
      · go_simp
        refine fwCallQ ((HAk.out _).mono ?_)
        rintro e w2 ⟨rfl, hb2⟩
        have T2 := HTr.out.on (show Below wr.heap.size wr w2 from (by (repeat' (first | (with_reducible exact Below.refl _ _) | (with_reducible assumption) | (with_reducible refine belowNext ?_ (by with_reducible assumption)) | (with_reducible refine belowAlloc ?_ _) | (with_reducible refine Below.drew ?_) | (with_reducible refine below_drewN ?_ _) | (with_reducible refine Below.setCell ?_ ?_ _) | go_size | (with_reducible refine sizeOf' ?_) | (with_reducible refine sizeAdd ?_) | (dsimp only; first | (with_reducible refine sizeOf' ?_) | (with_reducible refine sizeAdd ?_))))))
        clear c0 c1 d0 d1 zs zt
        obtain ⟨zs, zt, c0, c1, d0, d1⟩ := id T2
        gi_wp2_with fail
        refine wpAnyIn_ready (rs := [4]) (by kernel_rfl) (by simp) ?_
        refine AllReadyIn.cons rfl (fun K hK => ?_) (AllReadyIn.nil)
        go_simp
        refine hK _ _ ?_
        clear hK K
        refine wpAnyIn_ready (rs := [6]) (by kernel_rfl) (by simp) ?_
        refine AllReadyIn.cons rfl (fun K hK => ?_) (AllReadyIn.nil)
        go_simp
        refine fwCallQ ((HBk.out _).mono ?_)
        rintro e w3 ⟨rfl, hb3⟩
        have B3 : Below wr.heap.size wr w3 := by
          (repeat' (first | (with_reducible exact Below.refl _ _) | (with_reducible assumption) | (with_reducible refine belowNext ?_ (by with_reducible assumption)) | (with_reducible refine belowAlloc ?_ _) | (with_reducible refine Below.drew ?_) | (with_reducible refine below_drewN ?_ _) | (with_reducible refine Below.setCell ?_ ?_ _) | go_size | (with_reducible refine sizeOf' ?_) | (with_reducible refine sizeAdd ?_) | (dsimp only; first | (with_reducible refine sizeOf' ?_) | (with_reducible refine sizeAdd ?_))))
        have T3 := HTr.out.on B3
        have J3 := (HJ.out k wr w3 none H.out.1 (grown_of_below B3) (fun b e => by cases e)).1
        obtain ⟨fn, tmps, assign, body, hy, hR⟩ := HY.out k w3 trivial J3
        gi_wp2_with fail
        refine wpAnyIn_ready (rs := [7]) (by kernel_rfl) (by simp) ?_
        refine AllReadyIn.cons rfl (fun K hK => ?_) (AllReadyIn.nil)
        go_simp
        refine ⟨(fun h => (by cases h)), ?_⟩
        refine hR.mono ?_
        clear hy hR
        rintro e W' (⟨rfl, hJ', hk, hrw⟩ | ⟨rfl, hJx'⟩)
        · have hn := hnr.out k w3 J3
          have T4 := Lib.hid (T3.keep hk hn.1 hn.2)
          have JJ := Lib.hid hJ'
          clear hk hrw hJ' hn
          gi_wp2_with fail
          refine wpAnyIn_done (by kernel_rfl) ?_ _
          gi_wp2
          gi_roundg (gk - 1)
          case measure => have := H.out.2; omega
          case rel => exact ⟨k + 1, by go_num, Lib.hid ⟨JJ.out, by have := H.out.2; omega⟩, T4⟩
        · gi_wp2_with fail
          refine wpAnyIn_done (by kernel_rfl) ?_ _
          gi_wp2
          go_end0
          exact ⟨⟨_, rfl⟩, .inr ⟨k + 1, hJx'⟩⟩
      · go_simp
        refine hK _ _ ?_
        clear hK K
        refine wpAnyIn_ready (rs := [3]) (by kernel_rfl) (by simp) ?_
        refine AllReadyIn.cons rfl (fun K hK => ?_) (AllReadyIn.nil)
        go_simp
        refine fwCallQ ((HAk.out _).mono ?_)
        rintro e w2 ⟨rfl, hb2⟩
        have T2 := HTr.out.on (show Below wr.heap.size wr w2 from (by (repeat' (first | (with_reducible exact Below.refl _ _) | (with_reducible assumption) | (with_reducible refine belowNext ?_ (by with_reducible assumption)) | (with_reducible refine belowAlloc ?_ _) | (with_reducible refine Below.drew ?_) | (with_reducible refine below_drewN ?_ _) | (with_reducible refine Below.setCell ?_ ?_ _) | go_size | (with_reducible refine sizeOf' ?_) | (with_reducible refine sizeAdd ?_) | (dsimp only; first | (with_reducible refine sizeOf' ?_) | (with_reducible refine sizeAdd ?_))))))
        clear c0 c1 d0 d1 zs zt
        obtain ⟨zs, zt, c0, c1, d0, d1⟩ := id T2
        gi_wp2_with fail
        refine wpAnyIn_ready (rs := [6]) (by kernel_rfl) (by simp) ?_
        refine AllReadyIn.cons rfl (fun K hK => ?_) (AllReadyIn.nil)
        go_simp
        refine fwCallQ ((HBk.out _).mono ?_)
        rintro e w3 ⟨rfl, hb3⟩
        have B3 : Below wr.heap.size wr w3 := by
          (repeat' (first | (with_reducible exact Below.refl _ _) | (with_reducible assumption) | (with_reducible refine belowNext ?_ (by with_reducible assumption)) | (with_reducible refine belowAlloc ?_ _) | (with_reducible refine Below.drew ?_) | (with_reducible refine below_drewN ?_ _) | (with_reducible refine Below.setCell ?_ ?_ _) | go_size | (with_reducible refine sizeOf' ?_) | (with_reducible refine sizeAdd ?_) | (dsimp only; first | (with_reducible refine sizeOf' ?_) | (with_reducible refine sizeAdd ?_))))
        have T3 := HTr.out.on B3
        have J3 := (HJ.out k wr w3 none H.out.1 (grown_of_below B3) (fun b e => by cases e)).1
        obtain ⟨fn, tmps, assign, body, hy, hR⟩ := HY.out k w3 trivial J3
        gi_wp2_with fail
        refine wpAnyIn_ready (rs := [7]) (by kernel_rfl) (by simp) ?_
        refine AllReadyIn.cons rfl (fun K hK => ?_) (AllReadyIn.nil)
        go_simp
        refine ⟨(fun h => (by cases h)), ?_⟩
        refine hR.mono ?_
        clear hy hR
        rintro e W' (⟨rfl, hJ', hk, hrw⟩ | ⟨rfl, hJx'⟩)
        · have hn := hnr.out k w3 J3
          have T4 := Lib.hid (T3.keep hk hn.1 hn.2)
          have JJ := Lib.hid hJ'
          clear hk hrw hJ' hn
          gi_wp2_with fail
          refine wpAnyIn_done (by kernel_rfl) ?_ _
          gi_wp2
          gi_roundg (gk - 1)
          case measure => have := H.out.2; omega
          case rel => exact ⟨k + 1, by go_num, Lib.hid ⟨JJ.out, by have := H.out.2; omega⟩, T4⟩
        · gi_wp2_with fail
          refine wpAnyIn_done (by kernel_rfl) ?_ _
          gi_wp2
          go_end0
          exact ⟨⟨_, rfl⟩, .inr ⟨k + 1, hJx'⟩⟩
    · go_simp
      refine hK _ _ ?_
      clear hK K
      refine wpAnyIn_ready (rs := [1]) (by kernel_rfl) (by simp) ?_
      refine AllReadyIn.cons rfl (fun K hK => ?_) (AllReadyIn.nil)
      go_simp
      refine hK _ _ ?_
      clear hK K
      refine wpAnyIn_ready (rs := [3]) (by kernel_rfl) (by simp) ?_
      refine AllReadyIn.cons rfl (fun K hK => ?_) (AllReadyIn.nil)
      go_simp
      refine fwCallQ ((HAk.out _).mono ?_)
      rintro e w2 ⟨rfl, hb2⟩
      have T2 := HTr.out.on (show Below wr.heap.size wr w2 from (by (repeat' (first | (with_reducible exact Below.refl _ _) | (with_reducible assumption) | (with_reducible refine belowNext ?_ (by with_reducible assumption)) | (with_reducible refine belowAlloc ?_ _) | (with_reducible refine Below.drew ?_) | (with_reducible refine below_drewN ?_ _) | (with_reducible refine Below.setCell ?_ ?_ _) | go_size | (with_reducible refine sizeOf' ?_) | (with_reducible refine sizeAdd ?_) | (dsimp only; first | (with_reducible refine sizeOf' ?_) | (with_reducible refine sizeAdd ?_))))))
      clear c0 c1 d0 d1 zs zt
      obtain ⟨zs, zt, c0, c1, d0, d1⟩ := id T2
      gi_wp2_with fail
      refine wpAnyIn_ready (rs := [6]) (by kernel_rfl) (by simp) ?_
      refine AllReadyIn.cons rfl (fun K hK => ?_) (AllReadyIn.nil)
      go_simp
      refine fwCallQ ((HBk.out _).mono ?_)
      rintro e w3 ⟨rfl, hb3⟩
      have B3 : Below wr.heap.size wr w3 := by
        (repeat' (first | (with_reducible exact Below.refl _ _) | (with_reducible assumption) | (with_reducible refine belowNext ?_ (by with_reducible assumption)) | (with_reducible refine belowAlloc ?_ _) | (with_reducible refine Below.drew ?_) | (with_reducible refine below_drewN ?_ _) | (with_reducible refine Below.setCell ?_ ?_ _) | go_size | (with_reducible refine sizeOf' ?_) | (with_reducible refine sizeAdd ?_) | (dsimp only; first | (with_reducible refine sizeOf' ?_) | (with_reducible refine sizeAdd ?_))))
      have T3 := HTr.out.on B3
      have J3 := (HJ.out k wr w3 none H.out.1 (grown_of_below B3) (fun b e => by cases e)).1
      obtain ⟨fn, tmps, assign, body, hy, hR⟩ := HY.out k w3 trivial J3
      gi_wp2_with fail
      refine wpAnyIn_ready (rs := [7]) (by kernel_rfl) (by simp) ?_
      refine AllReadyIn.cons rfl (fun K hK => ?_) (AllReadyIn.nil)
      go_simp
      refine ⟨(fun h => (by cases h)), ?_⟩
      refine hR.mono ?_
      clear hy hR
      rintro e W' (⟨rfl, hJ', hk, hrw⟩ | ⟨rfl, hJx'⟩)
      · have hn := hnr.out k w3 J3
        have T4 := Lib.hid (T3.keep hk hn.1 hn.2)
        have JJ := Lib.hid hJ'
        clear hk hrw hJ' hn
        gi_wp2_with fail
        refine wpAnyIn_done (by kernel_rfl) ?_ _
        gi_wp2
        gi_roundg (gk - 1)
        case measure => have := H.out.2; omega
        case rel => exact ⟨k + 1, by go_num, Lib.hid ⟨JJ.out, by have := H.out.2; omega⟩, T4⟩
      · gi_wp2_with fail
        refine wpAnyIn_done (by kernel_rfl) ?_ _
        gi_wp2
        go_end0
        exact ⟨⟨_, rfl⟩, .inr ⟨k + 1, hJx'⟩⟩
end Go.Proofs.Ytdemgialagjomaa

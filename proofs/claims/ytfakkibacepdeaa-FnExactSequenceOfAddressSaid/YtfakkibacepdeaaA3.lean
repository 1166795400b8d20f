/-
  Contracts: the sequence of an address, as the program makes it.
-/
import Derived.Test.YtfakkibacepdeaaA2
import Derived.Test.YtfakkibacepdeaaS4
import Derived.Deep.LoopGhost
namespace Go.Proofs.Ytfakkibacepdeaa
open Go.RowKit

/-- What SequenceOfAddress answers. -/
def addrR (l : List Int) : Wd := if isAddr l then repN (addrW l (l.length - 1)) (l.getD (l.length - 1) 0 - 1).toNat ++ [42] else []
def addrC (l : List Int) : Int := if isAddr l then 0 else 2
/-- The result's cell, empty, kept. -/
structure SqB (w W : World) : Prop where
  B : Below w.heap.size w W
  z : w.heap.size < W.heap.size
  c0 : W.cell? ⟨w.heap.size, 0, none⟩ = some (.string ⟨#[]⟩)
  c1 : W.cell? ⟨w.heap.size, 1, none⟩ = some (.string ⟨#[]⟩)
  f0 : W.frozen? ⟨w.heap.size, 0, none⟩ = false
  f1 : W.frozen? ⟨w.heap.size, 1, none⟩ = false
theorem SqB.on {w W w1 : World} (H : SqB w W) (hb : Below W.heap.size W w1) : SqB w w1 :=
  ⟨belowNext H.B hb, Nat.lt_of_lt_of_le H.z hb.size, cellThru hb H.z H.c0, cellThru hb H.z H.c1, frozThru hb H.z H.f0, frozThru hb H.z H.f1⟩
theorem SqB.start (w : World) : SqB w (w.alloc (.cells #[.string ⟨#[]⟩, .string ⟨#[]⟩] 66)) :=
  ⟨belowAlloc (Below.refl _ _) _, by simp, by simp [go_sem], by simp [go_sem], by simp [go_sem], by simp [go_sem]⟩
theorem belowDrewN (W : World) (j : Nat) : Below W.heap.size W (W.drewN j) := below_drewN (Below.refl _ _) j

set_option maxRecDepth 100000 in
set_option maxHeartbeats 2000000 in
theorem implSeqAddr (A : Option Addr) (cap : Nat) (l : List Int) (w : World) (hr : IntRow w w.heap.size A l) (hm : l.length ≤ 1048576) (hcap : l.length ≤ cap) :
    Calls Try.prog 64 #[.slice A l.length cap] w fun e w' => e = .returned (.tuple #[sqV [] (addrR l), .int .i64 (addrC l)]) ∧ Below w.heap.size w w' := by
  have HA := Lib.hid (fun (W : World) (hB : Below w.heap.size w W) => implAddr A cap l W ((hr.below hB).more hB.size) hm)
  cases ha : isAddr l
  · have e1 : addrR l = [] := by unfold addrR; rw [ha]; rfl
    have e2 : addrC l = 2 := by unfold addrC; rw [ha]; rfl
    rw [e1, e2]
    rw [ha] at HA
    clear e1 e2 ha hr
    go_enter Try.func64, Try.ntmps64
    go_wp2_with fail
    have K0 := SqB.start w
    refine (HA.out _ K0.B).mono ?_
    rintro e w1 ⟨rfl, hw1⟩
    obtain ⟨j, rfl⟩ := hw1.out
    have K1 := K0.on (belowDrewN _ j)
    generalize (w.alloc (.cells #[.string ⟨#[]⟩, .string ⟨#[]⟩] 66)).drewN j = w1 at *
    obtain ⟨B1, z1, c0, c1, f0, f1⟩ := id K1
    go_wp2
    refine bodyPost_ret (v := .tuple #[sqV [] [], .int .i64 2]) (by simp [results, Try.results64, go_sem, sqV, bs, c0, c1]) rfl ⟨rfl, ?_⟩
    first | exact B1 | exact (B1.setCell (Nat.le_refl _) _).setCell (Nat.le_refl _) _
  · obtain ⟨h1, h2, h3, hv⟩ := addr_yes ha
    obtain ⟨n, hn⟩ : ∃ n, l.length = n + 1 := ⟨l.length - 1, by omega⟩
    obtain ⟨b, off, rfl, hb, hc⟩ := row_at hr (by omega)
    obtain ⟨x, hx⟩ : ∃ x : Nat, l.getD n 0 = ((x + 1 : Nat) : Int) := ⟨(l.getD n 0).toNat - 1, by have := hv n (by omega); omega⟩
    have hx40 : x ≤ 39 := by have := hv n (by omega); omega
    have e1 : addrR l = repN (addrW l n) x ++ [42] := by
      unfold addrR
      rw [ha, if_pos rfl, hn, Nat.add_sub_cancel, hx, show (((x + 1 : Nat) : Int) - 1).toNat = x by omega]
    have e2 : addrC l = 0 := by unfold addrC; rw [ha]; rfl
    rw [e1, e2]
    rw [ha] at HA
    have HV : Hid (∀ k, k < n → ∃ m : Nat, l.getD k 0 = (m : Int) ∧ 1 ≤ m ∧ m ≤ 40) := Lib.hid (fun k hk => ⟨(l.getD k 0).toNat, by have := hv k (by omega); omega, by have := hv k (by omega); omega, by have := hv k (by omega); omega⟩)
    have HRg : Hid (∀ k, k ≤ n → 1 ≤ (addrW l k).length ∧ (addrW l k).length ≤ 40) := Lib.hid (fun k hk => addrW_range ha (by omega))
    have HC : Hid (∀ (W : World), Below w.heap.size w W → ∀ i, i ≤ n → W.cell? ⟨b, off + i, none⟩ = some (.int .i64 (l.getD i 0))) := Lib.hid (fun W hB i hi => (hB.cell (p := ⟨b, off + i, none⟩) hb).trans (hc i (by omega)))
    have HX := Lib.hid hx
    rw [hn] at hcap HA ⊢
    have hnc : n ≤ cap := by omega
    have hn20 : n ≤ 19 := by omega
    have hnc1 : n ≤ n + 1 := by omega
    have wn : wrap64 (n : Int) = (n : Int) := by unfold wrap64; omega
    have wn2 : IntKind.i64.wrap (n : Int) = (n : Int) := IntWalk.i64_in _ (by omega)
    clear e1 e2 ha hr hc hv h1 h2 h3 hx hn
    go_enter Try.func64, Try.ntmps64
    go_wp2_with fail
    have K0 := SqB.start w
    refine (HA.out _ K0.B).mono ?_
    rintro e w1 ⟨rfl, hw1⟩
    obtain ⟨j, rfl⟩ := hw1.out
    have K1 := Lib.hid (K0.on (belowDrewN _ j))
    clear K0 hw1
    generalize (w.alloc (.cells #[.string ⟨#[]⟩, .string ⟨#[]⟩] 66)).drewN j = w1 at *
    go_wp2_with fail
    go_loopg [4, 19] n (fun g s4 s19 wx => ∃ k : Nat, k + g = n ∧ s19 = .int .i64 k ∧ s4 = .string (bs (addrW l k)) ∧ Hid (SqB w wx))
    case atStart => exact ⟨0, by omega, rfl, rfl, K1⟩
    case round =>
      clear K1
      obtain ⟨k, hkg, rfl, rfl, HK⟩ := hrel
      cases gk with
      | zero =>
        obtain rfl : k = n := by omega
        have hli : ¬ ((k : Int) < (k : Int)) := by omega
        have c := HC.out wr HK.out.B k (Nat.le_refl _)
        rw [HX.out] at c
        have wx : IntKind.i64.wrap (((x + 1 : Nat) : Int) - 1) = (x : Int) := (IntWalk.i64_in _ (by omega)).trans (by omega)
        have wx2 : wrap64 (((x + 1 : Nat) : Int) - 1) = (x : Int) := by unfold wrap64; omega
        have HRp := Lib.hid (fun W => implRep (addrW l k) x W (HRg.out k (Nat.le_refl _)).1 (HRg.out k (Nat.le_refl _)).2 (by omega))
        have hln := repN_len (addrW l k) x
        obtain ⟨R, hR⟩ : ∃ R, repN (addrW l k) x = R := ⟨_, rfl⟩
        rw [hR] at hln
        have HRe := Lib.hid hR
        rw [hR] at HRp
        clear hR
        have hcat : ∀ W, (binOp .add 9 (.string (bs R)) (.string ⟨#[42]⟩)).run Try.prog W = .ok (.string (bs (R ++ [42]))) W := fun W => catS R [42] (by rw [hln]; simp; omega) W
        have hcat2 : ∀ W, (Op.stringOp .add (bs R) ⟨#[42]⟩).run Try.prog W = .ok (.string (bs (R ++ [42]))) W := fun W => catO R [42] (by rw [hln]; simp; omega) W
        generalize ((x + 1 : Nat) : Int) = xi at *
        clear hkg hln
        go_wp2_with fail
        refine (HRp.out _).mono ?_
        rintro e w5 ⟨rfl, hb5⟩
        obtain ⟨B5, z5, c0, c1, f0, f1⟩ := HK.out.on hb5
        clear c hb5
        go_wp2
        refine bodyPost_ret (v := .tuple #[sqV [] (R ++ [42]), .int .i64 0]) (by simp [results, Try.results64, go_sem, sqV, bs, c0, c1]) rfl ⟨by rw [← HRe.out], ?_⟩
        first | exact B5 | exact (B5.setCell (Nat.le_refl _) _).setCell (Nat.le_refl _) _
      | succ g =>
        have hlt : (k : Int) < (n : Int) := by omega
        have hltN : k < n := by omega
        obtain ⟨m, hm1, hm2, hm3⟩ := HV.out k hltN
        have c := HC.out wr HK.out.B k (by omega)
        rw [hm1] at c
        obtain ⟨q, rfl⟩ : ∃ q, m = q + 1 := ⟨m - 1, by omega⟩
        have wq : IntKind.i64.wrap (((q + 1 : Nat) : Int) - 1) = (q : Int) := (IntWalk.i64_in _ (by omega)).trans (by omega)
        have wq2 : wrap64 (((q + 1 : Nat) : Int) - 1) = (q : Int) := by unfold wrap64; omega
        have HRp := Lib.hid (fun W => implRep (addrW l k) (q + 1) W (HRg.out k (by omega)).1 (HRg.out k (by omega)).2 (by omega))
        have hln := repN_len (addrW l k) (q + 1)
        have HFl : Hid (addrW l (k + 1) = (repN (addrW l k) (q + 1)).take q ++ [othL ((repN (addrW l k) (q + 1)).getD q 0)]) := Lib.hid (by
          simp only [addrW, flipL]
          rw [hm1, show (((q + 1 : Nat) : Int)).toNat = q + 1 by omega, hln, Nat.add_sub_cancel])
        generalize repN (addrW l k) (q + 1) = R at *
        have hto := fun W => toS R q (q : Int) (by omega) rfl W
        have hix := fun W => idxS R q (q : Int) (by omega) rfl W
        have HOt := Lib.hid (fun W => implOther (R.getD q 0) W)
        generalize R.getD q 0 = ch at *
        have hcat := fun W => catS (R.take q) [othL ch] (by rw [List.length_take, hln]; simp; omega) W
        have hcat2 := fun W => catO (R.take q) [othL ch] (by rw [List.length_take, hln]; simp; omega) W
        generalize R.take q = RT at *
        generalize addrW l k = V at *
        generalize ((q + 1 : Nat) : Int) = mi at *
        clear hm1 hm2 hln
        go_wp2_with fail
        refine (HRp.out _).mono ?_
        rintro e w5 ⟨rfl, hb5⟩
        have K5 := Lib.hid (HK.out.on hb5)
        clear c hb5 HK
        go_wp2_with fail
        refine wp_region_any (by kernel_rfl) ?_
        try (change wpAny _ _ _ _ _ _ _ (World.drew _))
        refine wpAny_take (i := 0) (v := ?_) rfl (by kernel_rfl) (by kernel_rfl) (by kernel_rfl) (fun _ _ _ h => h) (Or.inl ⟨by kernel_rfl, ?_⟩) ?_
        rotate_left
        · intro w; first | (go_simp; done) | (go_simp; with_reducible rfl)
        refine wpAny_take (i := 1) (v := ?_) rfl (by kernel_rfl) (by kernel_rfl) (by kernel_rfl) (fun _ _ _ h => h) (Or.inl ⟨by kernel_rfl, ?_⟩) ?_
        rotate_left
        · intro w; first | (go_simp; done) | (go_simp; with_reducible rfl)
        refine wpAny_take (i := 2) (v := ?_) rfl (by kernel_rfl) (by kernel_rfl) (by kernel_rfl) (fun _ _ _ h => h) (Or.inl ⟨by kernel_rfl, ?_⟩) ?_
        rotate_left
        · intro w; first | (go_simp; done) | (go_simp; with_reducible rfl)
        refine wpAny_take (i := 3) (v := ?_) rfl (by kernel_rfl) (by kernel_rfl) (by kernel_rfl) (fun _ _ _ h => h) (Or.inl ⟨by kernel_rfl, ?_⟩) ?_
        rotate_left
        · intro w; first | (go_simp; done) | (go_simp; with_reducible rfl)
        refine wpAny_take (i := 4) (v := ?_) rfl (by kernel_rfl) (by kernel_rfl) (by kernel_rfl) (fun _ _ _ h => h) (Or.inl ⟨by kernel_rfl, ?_⟩) ?_
        rotate_left
        · intro w; first | (go_simp; done) | (go_simp; with_reducible rfl)
        refine wpAny_take (i := 5) (v := ?_) rfl (by kernel_rfl) (by kernel_rfl) (by kernel_rfl) (fun _ _ _ h => h) (Or.inl ⟨by kernel_rfl, ?_⟩) ?_
        rotate_left
        · intro w; first | (go_simp; done) | (go_simp; with_reducible rfl)
        refine wpAny_take (i := 6) (v := ?_) rfl (by kernel_rfl) (by kernel_rfl) (by kernel_rfl) (fun _ _ _ h => h) (Or.inl ⟨by kernel_rfl, ?_⟩) ?_
        rotate_left
        · intro w; first | (go_simp; done) | (go_simp; with_reducible rfl)
        refine wpAny_take (i := 7) (v := ?_) rfl (by kernel_rfl) (by kernel_rfl) (by kernel_rfl) (fun _ _ _ h => h) (Or.inl ⟨by kernel_rfl, ?_⟩) ?_
        rotate_left
        · intro w; first | (go_simp; done) | (go_simp; with_reducible rfl)
        refine wpAny_ready (rs := [8]) (by kernel_rfl) (by simp) ?_
        refine AllReady.cons rfl (fun K hK => ?_) AllReady.nil
        go_simp
        go_wp2_with (go_at_call 131; (with_reducible refine (HOt.out _).mono ?_); rintro e w6 ⟨rfl, rfl⟩)
        refine wpAny_take (i := 9) (v := ?_) rfl (by kernel_rfl) (by kernel_rfl) (by kernel_rfl) (fun _ _ _ h => h) (Or.inl ⟨by kernel_rfl, ?_⟩) ?_
        rotate_left
        · intro w; first | (go_simp; done) | (go_simp; with_reducible rfl)
        refine wpAny_take (i := 10) (v := ?_) rfl (by kernel_rfl) (by kernel_rfl) (by kernel_rfl) (fun _ _ _ h => h) (Or.inl ⟨by kernel_rfl, ?_⟩) ?_
        rotate_left
        · intro w; first | (go_simp; done) | (go_simp; with_reducible rfl)
        refine wpAny_done (by kernel_rfl) ?_ _
        go_wp2
        go_roundg g
        case measure => omega
        case rel => exact ⟨k + 1, by omega, by go_num, by rw [HFl.out], Lib.hid (K5.out.on (Below.refl _ _).drew)⟩
end Go.Proofs.Ytfakkibacepdeaa

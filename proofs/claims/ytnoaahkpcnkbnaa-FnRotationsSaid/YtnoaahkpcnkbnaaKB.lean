/-
  Contracts: whether no angle is in two sets, on both sides; written by genK4.py.
  Contracts: doubles of a set, lists that are equal; conditions 2 and 3, on the program's side; written by genK5.py.
-/
import Derived.Test.YtnoaahkpcnkbnaaKA
import Derived.Test.YtnoaahkpcnkbnaaW38
namespace Go.Proofs.Ytnoaahkpcnkbnaa
open Go.RowKit

/-- Four cells, in every world of a region. -/
structure C4 (w : World) (p1 p2 p3 p4 : Addr) (v1 v2 v3 v4 : Value) (W : World) : Prop where
  B : Below w.heap.size w W
  z1 : p1.block < W.heap.size
  z2 : p2.block < W.heap.size
  z3 : p3.block < W.heap.size
  z4 : p4.block < W.heap.size
  x1 : W.cell? p1 = some v1
  x2 : W.cell? p2 = some v2
  x3 : W.cell? p3 = some v3
  x4 : W.cell? p4 = some v4
theorem C4.on {w W W1 : World} {p1 p2 p3 p4 : Addr} {v1 v2 v3 v4 : Value} (H : C4 w p1 p2 p3 p4 v1 v2 v3 v4 W) (hb : Below W.heap.size W W1) : C4 w p1 p2 p3 p4 v1 v2 v3 v4 W1 := by
  have hs := hb.size
  have := H.z1; have := H.z2; have := H.z3; have := H.z4
  exact ⟨belowNext H.B hb, by omega, by omega, by omega, by omega, (hb.cell H.z1).trans H.x1, (hb.cell H.z2).trans H.x2, (hb.cell H.z3).trans H.x3, (hb.cell H.z4).trans H.x4⟩

/-- No angle is in two sets. -/
def ApP (ls : List (List (Int × Int))) : Prop := ∀ i k j, k < i → i < ls.length → j < (gA ls i).length → cA (gA ls i) j ∉ gA ls k
theorem flatS_len : ∀ ls : List (List (Int × Int)), ls.flatten.length = totL ls
  | [] => rfl
  | l :: ls => by simp only [List.flatten_cons, List.length_append, totL, flatS_len ls]
theorem split_at {ls : List (List (Int × Int))} {k j : Nat} {x : Int × Int} (hk : k < ls.length) (hj : (gA ls k)[j]? = some x) : ∃ r, ls.flatten = ((ls.take k).flatten ++ (gA ls k).take j) ++ x :: r := by
  have e1 : ls = ls.take k ++ gA ls k :: ls.drop (k + 1) := by
    have := gA_some hk
    obtain ⟨h, e⟩ := List.getElem?_eq_some_iff.1 this
    rw [← e, ← List.drop_eq_getElem_cons h, List.take_append_drop]
  have e2 : gA ls k = (gA ls k).take j ++ x :: (gA ls k).drop (j + 1) := by
    obtain ⟨h, e⟩ := List.getElem?_eq_some_iff.1 hj
    rw [← e, ← List.drop_eq_getElem_cons h, List.take_append_drop]
  refine ⟨(gA ls k).drop (j + 1) ++ (ls.drop (k + 1)).flatten, ?_⟩
  conv => lhs; rw [e1]
  rw [List.flatten_append, List.flatten_cons]
  conv => lhs; rw [e2]
  simp only [List.append_assoc, List.cons_append]
theorem ap_iff {ls : List (List (Int × Int))} (h : ∀ l ∈ ls, l.Nodup) : ls.flatten.Nodup ↔ ApP ls := by
  unfold List.Nodup
  rw [List.pairwise_flatten]
  constructor
  · rintro ⟨-, h2⟩ i k j hki hi hj hm
    have := (List.pairwise_iff_getElem.1 h2) k i (by omega) hi hki
    have e1 : ls[k]'(by omega) = gA ls k := by
      have := gA_some (ls := ls) (i := k) (by omega)
      exact (List.getElem?_eq_some_iff.1 this).2
    have e2 : ls[i] = gA ls i := (List.getElem?_eq_some_iff.1 (gA_some hi)).2
    rw [e1, e2] at this
    exact this _ hm _ (cA_mem hj) rfl
  · intro h2
    refine ⟨h, List.pairwise_iff_getElem.2 fun k i hk hi hki x hx y hy e => ?_⟩
    subst e
    have e1 : ls[k] = gA ls k := (List.getElem?_eq_some_iff.1 (gA_some hk)).2
    have e2 : ls[i] = gA ls i := (List.getElem?_eq_some_iff.1 (gA_some hi)).2
    rw [e1] at hx
    rw [e2] at hy
    obtain ⟨j, hj, e⟩ := List.getElem_of_mem hy
    have := h2 i k j hki hi hj
    rw [cA_of (List.getElem?_eq_getElem hj), e] at this
    exact this hx

/-- What holds when the angles O have been met: J: the block of the map. -/
structure ApI (w : World) (J : Nat) (O : List (Int × Int)) (W : World) : Prop where
  nd : O.Nodup
  mp : W.ownsMap Try.prog 32 (plainElem Try.prog 4) J O.length (sD O)
  B : Below w.heap.size w W
  lo : w.heap.size ≤ J
theorem nodup_snoc {O : List (Int × Int)} {x : Int × Int} (h : O.Nodup) (hx : x ∉ O) : (O ++ [x]).Nodup := by
  rw [List.nodup_append]
  refine ⟨h, by simp, ?_⟩
  intro a ha b hb e
  rw [List.mem_singleton] at hb
  rw [e, hb] at ha
  exact hx ha

set_option maxRecDepth 100000 in
set_option maxHeartbeats 2000000 in
theorem implApart (A : Option Addr) (n cap : Nat) (ls : List (List (Int × Int))) (w : World) (hr : SetsRow w w.heap.size A ls) (hn : ls.length = n) (hm : n ≤ 1100000) (ht : totL ls ≤ 1100000) (ha : ∀ l ∈ ls, allAng l = true) :
    Calls Try.prog 48 #[.slice A n cap] w (ResYesQ w ls.flatten.Nodup) := by
  have HR := Lib.hid hr
  have HN := Lib.hid hn
  have HTt := Lib.hid ht
  have HAll := Lib.hid ha
  have HFa : Hid (∀ x ∈ ls.flatten, isAng x.1 x.2 = true) := Lib.hid (fun x hx => by
    obtain ⟨l, hl, hx⟩ := List.mem_flatten.1 hx
    exact allAng_mem (ha l hl) hx)
  have hmm := @run_makeMap Try.prog
  clear hr hn ht ha
  go_enter Try.func48, Try.ntmps48
  go_wp2_with fail
  have HS : Hid (ApI w w.heap.size [] (w.alloc (.map #[] 0))) := Lib.hid ⟨List.nodup_nil, World.ownsMap_made _ _ _ _, belowAlloc (Below.refl _ _) _, Nat.le_refl _⟩
  obtain ⟨J, hJ⟩ : ∃ J, w.heap.size = J := ⟨_, rfl⟩
  rw [hJ] at HS
  have HJ := Lib.hid hJ
  clear hJ hmm
  go_wp2_with fail
  try rw [HJ.out]
  go_loopg [5, 7, 11] n (fun g _ _ i wr => ∃ k : Nat, k + g = n ∧ i = .int .i64 k ∧ Hid (ApI w J (ls.take k).flatten wr))
  case atStart => exact ⟨0, by omega, rfl, by simpa using HS⟩
  case round =>
    clear HS
    obtain ⟨k, hkg, rfl, HI⟩ := hrel
    cases gk with
    | zero =>
      obtain rfl : k = n := by omega
      have e : ls.take k = ls := List.take_of_length_le (by have := HN.out; omega)
      rw [e] at HI
      clear e hkg
      go_wp2
      go_ret
      exact ⟨⟨true, rfl, Lib.hid ⟨fun _ => HI.out.nd, fun _ => rfl⟩⟩, HI.out.B⟩
    | succ g =>
      have hkl : k < ls.length := by have := HN.out; omega
      have hkn : k < n := by omega
      obtain ⟨b, off, rfl, hbb, hc⟩ := HR.out.form hkl
      obtain ⟨Ai, ci, x0, hrow⟩ := hc k hkl
      have x0 := cellThru HI.out.B hbb x0
      have hbw : b < wr.heap.size := Nat.lt_of_lt_of_le hbb HI.out.B.size
      have hle := len_tot hkl
      have hTt := HTt.out
      have HRow := Lib.hid hrow
      obtain ⟨len, hlen⟩ : ∃ len, (gA ls k).length = len := ⟨_, rfl⟩
      rw [hlen] at x0 hle
      have HLn := Lib.hid hlen
      have hlm : len ≤ 1100000 := by omega
      have HKG := Lib.hid hkg
      clear hc hrow hlen hle hTt hkg
      go_wp2
      go_loopg [7, 17] len (fun g5 _ i wx => ∃ j : Nat, j + g5 = len ∧ i = .int .i64 j ∧ Hid (ApI w J ((ls.take k).flatten ++ (gA ls k).take j) wx))
      case atStart => exact ⟨0, by omega, rfl, by simpa using HI⟩
      case round =>
        clear HI x0 hbw
        obtain ⟨j, hjg, rfl, HI⟩ := hrel
        cases gk with
        | zero =>
          obtain rfl : j = len := by omega
          have HI2 : Hid (ApI w J (ls.take (k + 1)).flatten wr) := Lib.hid (by
            have h := HI.out
            rw [← HLn.out, List.take_length] at h
            have e : (ls.take (k + 1)).flatten = (ls.take k).flatten ++ gA ls k := by
              rw [List.take_add_one, gA_some hkl, Option.toList_some, List.flatten_append]
              simp
            rw [e]; exact h)
          clear hjg HI
          go_wp2
          go_roundg g
          case measure => omega
          case rel => exact ⟨k + 1, by have := HKG.out; omega, by go_num, HI2⟩
        | succ g5 =>
          have hjl : j < (gA ls k).length := by have := HLn.out; omega
          have hjn : j < len := by omega
          obtain ⟨⟨p, q⟩, hq⟩ : ∃ q, (gA ls k)[j]? = some q := ⟨_, List.getElem?_eq_getElem hjl⟩
          obtain ⟨b0, o0, rfl, hb0, hc0⟩ := HRow.out (by intro h; rw [h] at hq; cases hq)
          obtain ⟨u0, u1⟩ := hc0 j p q hq
          have u0 := cellThru HI.out.B hb0 u0
          have u1 := cellThru HI.out.B hb0 u1
          obtain ⟨r, hsp⟩ := split_at hkl hq
          have hp : isAng p q = true := HFa.out (p, q) (by rw [hsp]; simp)
          have hO1 : ((ls.take k).flatten ++ (gA ls k).take j).length ≤ totL ls := by
            have := congrArg List.length hsp
            rw [flatS_len, List.length_append] at this
            omega
          have hOa : ∀ x ∈ (ls.take k).flatten ++ (gA ls k).take j, isAng x.1 x.2 = true := fun x hx => HFa.out x (by rw [hsp]; exact List.mem_append_left _ hx)
          have HNd : Hid ((p, q) ∈ (ls.take k).flatten ++ (gA ls k).take j → ¬ ls.flatten.Nodup) := Lib.hid (fun hm hnd => by
            rw [hsp, List.nodup_append] at hnd
            exact hnd.2.2 _ hm _ List.mem_cons_self rfl)
          have HNx : Hid ((ls.take k).flatten ++ (gA ls k).take (j + 1) = ((ls.take k).flatten ++ (gA ls k).take j) ++ [(p, q)]) := Lib.hid (by
            rw [List.take_add_one, hq, Option.toList_some, List.append_assoc])
          have hTt := HTt.out
          generalize (ls.take k).flatten ++ (gA ls k).take j = O at *
          have hpr : Red (p, q) := isAng_yes hp
          have HK := Lib.hid (angKeyS p q (red_wfS hpr).1 (red_wfS hpr).2)
          have HC := Lib.hid (sD_at (p := (p, q)) hOa hp)
          have HLm : Hid (O.length < maxLen) := Lib.hid (by unfold maxLen; omega)
          have hJw : J < wr.heap.size := HI.out.mp.lt
          have hlo := HI.out.lo
          have HM1 := Lib.hid (HI.out.mp.alloc (.cells #[.int .i64 p, .int .i64 q] 32))
          have hb0w : b0 < wr.heap.size := Nat.lt_of_lt_of_le hb0 HI.out.B.size
          obtain ⟨t, ht⟩ : ∃ t, decide ((p, q) ∈ O) = t := ⟨_, rfl⟩
          rw [ht] at HC
          have HT := Lib.hid ht
          have HJG := Lib.hid hjg
          clear ht hq hc0 hjl hsp hp hpr hO1 hOa hTt hjg
          cases t
          · have hnm : (p, q) ∉ O := of_decide_eq_false HT.out
            have HN := Lib.hid hnm
            clear hnm HT
            go_wp2_with (first
              | (at_lookup; refine wpList_lookup_own_boolS _ rfl _ _ 73 rfl 32 4 angLawS Try.underlying73 Try.underlying4 (zeroBoolS _) J O.length _ rfl HM1.out _ _ rfl HK.out _ HC.out ?_)
              | (at_mapUpdate; refine wpList_mapUpdate_own _ rfl _ _ _ 73 rfl 32 4 angLawS Try.underlying73 _ J O.length _ rfl HM1.out HLm.out _ _ _ rfl rfl HK.out _ [] (plainElem_bool Try.underlying4 true) ?_; intro w6 hm6 hg6; have HM6 := Lib.hid (And.intro hm6 hg6); clear hm6 hg6))
            have B6 : Below w.heap.size w w6 := (belowAlloc HI.out.B _).grown HM6.out.2 (belowAlloc HI.out.B _).size (fun j hj => by have := Option.some.inj hj; omega)
            have e1 : (O ++ [((p, q) : Int × Int)]).length = O.length + 1 := by simp
            have HI7 : Hid (ApI w J ((ls.take k).flatten ++ (gA ls k).take (j + 1)) w6) := Lib.hid (by
              rw [HNx.out]
              exact ⟨nodup_snoc HI.out.nd HN.out, by rw [e1, sD_snoc]; exact HM6.out.1, B6, hlo⟩)
            clear B6 HM6 HM1 HI HN u0 u1 e1
            go_roundg g5
            case measure => omega
            case rel => exact ⟨j + 1, by have := HJG.out; omega, by go_num, HI7⟩
          · have HNo := Lib.hid (HNd.out (of_decide_eq_true HT.out))
            clear HT
            go_wp2_with (at_lookup; refine wpList_lookup_own_boolS _ rfl _ _ 73 rfl 32 4 angLawS Try.underlying73 Try.underlying4 (zeroBoolS _) J O.length _ rfl HM1.out _ _ rfl HK.out _ HC.out ?_)
            go_ret
            exact ⟨⟨false, rfl, Lib.hid ⟨fun h => (by cases h), fun h => absurd h HNo.out⟩⟩, belowAlloc HI.out.B _⟩

def dblL (l : List (Int × Int)) : List (Int × Int) := l.map dbl
theorem dblL_at {l : List (Int × Int)} {k : Nat} (h : k < l.length) : (dblL l)[k]? = some (dA l k) := by
  unfold dblL dA
  rw [List.getElem?_map, cA_some h]
  rfl
theorem dblL_len (l : List (Int × Int)) : (dblL l).length = l.length := by simp [dblL]
theorem dblL_ang {l : List (Int × Int)} (ha : allAng l = true) : allAng (dblL l) = true := by
  unfold allAng
  rw [List.all_eq_true]
  intro x hx
  unfold dblL at hx
  obtain ⟨y, hy, rfl⟩ := List.mem_map.1 hx
  have h : Red y := isAng_yes (allAng_mem ha hy)
  have := dbl_red h
  unfold isAng
  exact decide_eq_true this
theorem ownSuccK {W : World} {e : TypeId} {size : Nat} {v : Value} {n : Nat} {xs : List Value} {lo : Nat} (h : W.ownsRow lo e size v (n + 1) xs) : ∃ g c, v = .slice (some ⟨g, 0, none⟩) (n + 1) c := by
  obtain ⟨g, c, hv, _⟩ := h.form (by omega)
  exact ⟨g, c, hv⟩

set_option maxRecDepth 100000 in
set_option maxHeartbeats 2000000 in
theorem implDoubles (A : Option Addr) (len cap : Nat) (l : List (Int × Int)) (w : World) (hr : AngRow w w.heap.size A l) (hl : l.length = len) (hm : len ≤ 1000000) (ha : allAng l = true) :
    Calls Try.prog 55 #[.slice A len cap] w fun e w' => ∃ A' cap', e = .returned (.slice A' (insAll (dblL l)).length cap') ∧ AngOwn w' w.heap.size A' (insAll (dblL l)) ∧ Below w.heap.size w w' := by
  obtain ⟨i0, hi, hz0, hz1, hz2⟩ := infoAg_parts infoAg
  have HR := Lib.hid hr
  have HL := Lib.hid hl
  have HA := Lib.hid ha
  clear hr hl ha
  go_enter Try.func55, Try.ntmps55
  go_wp2
  go_loopg [3, 5, 10] len (fun g s3 _ i wr => ∃ (k : Nat) (A' : Option Addr) (cap' : Nat), k + g = len ∧ i = .int .i64 k ∧ s3 = .slice A' k cap' ∧ Hid (wr.ownsRow w.heap.size 32 2 (.slice A' k cap') k (flatA ((dblL l).take k))) ∧ Hid (Below w.heap.size w wr))
  case atStart => exact ⟨0, none, 0, by omega, rfl, rfl, Lib.hid (World.ownsRow_nil _ _ _ _), Lib.hid (Below.refl _ _)⟩
  case round =>
    obtain ⟨k, A', cap', hkg, rfl, rfl, HW, HB⟩ := hrel
    cases gk with
    | zero =>
      obtain rfl : k = len := by omega
      have e2 : (dblL l).take k = dblL l := List.take_of_length_le (by rw [dblL_len]; have := HL.out; omega)
      rw [e2] at HW
      have HOw := Lib.hid (ownA_of (by rw [dblL_len]; exact HL.out) HW.out)
      have HS := Lib.hid (fun W (hr : AngRow W W.heap.size A' (dblL l)) => implSortA A' k cap' (dblL l) W hr (by rw [dblL_len]; exact HL.out) (by omega) (insAll (dblL l)) 0 (.inl ⟨dblL_ang HA.out, rfl, rfl⟩))
      obtain ⟨R, hR⟩ : ∃ R, insAll (dblL l) = R := ⟨_, rfl⟩
      have HRe := Lib.hid hR
      rw [hR] at HS
      clear HW e2 hkg hR
      go_wp2_with fail
      refine (HS.out _ HOw.out.row).mono ?_
      rintro e w1 ⟨A2, c2, rfl, ho, hb1⟩
      have HO := Lib.hid (ho.loS (lo' := w.heap.size) HB.out.size)
      have HB1 := Lib.hid (belowNext HB.out hb1)
      clear ho hb1 HB HOw
      go_wp2
      go_ret
      exact ⟨A2, c2, by rw [HRe.out]; rfl, by rw [HRe.out]; exact HO.out, HB1.out⟩
    | succ g =>
      have hkl : k < l.length := by have := HL.out; omega
      have hkn : k < len := by omega
      obtain ⟨b, off, rfl, hbb, hcells⟩ := HR.out (by rintro rfl; simp at hkl)
      obtain ⟨u0, u1⟩ := hcells k _ _ (cA_some hkl)
      have u0 := cellThru HB.out hbb u0
      have u1 := cellThru HB.out hbb u1
      have hbw : b < wr.heap.size := Nat.lt_of_lt_of_le hbb HB.out.size
      have hp := isAng_yes (cA_ang HA.out hkl)
      have HD : Hid (∀ w, Calls Try.prog 25 #[ang (cA l k).1 (cA l k).2] w fun e w' => e = .returned (ang (dA l k).1 (dA l k).2) ∧ Below w.heap.size w w') := Lib.hid (fun w => implDbl (cA l k).1 (cA l k).2 w (by omega) (by omega) (by omega) (by omega))
      have HE : Hid (flatA ((dblL l).take k) ++ [.int .i64 (dA l k).1, .int .i64 (dA l k).2] = flatA ((dblL l).take (k + 1))) := Lib.hid (by
        rw [List.take_add_one, dblL_at hkl, Option.toList_some, flatA_app]
        rfl)
      have HW1 := Lib.hid (fun W (hB : Below wr.heap.size wr W) => ownKeepA HW.out hB)
      have HKG := Lib.hid hkg
      clear hcells hp HW hkg hkl
      generalize (cA l k).1 = n at *
      generalize (cA l k).2 = d at *
      generalize (dA l k).1 = X at *
      generalize (dA l k).2 = Y at *
      go_wp2_with fail
      refine (HD.out _).mono ?_
      rintro e w2 ⟨rfl, hb2⟩
      have B02 : Below wr.heap.size wr w2 := by
        (repeat' (first | (with_reducible exact Below.refl _ _) | (with_reducible assumption) | (with_reducible refine belowNext ?_ (by with_reducible assumption)) | (with_reducible refine belowAlloc ?_ _) | (with_reducible refine Below.drew ?_) | (with_reducible refine below_drewN ?_ _) | (with_reducible refine Below.setCell ?_ ?_ _) | go_size | (with_reducible refine sizeOf' ?_) | (with_reducible refine sizeAdd ?_) | (dsimp only; first | (with_reducible refine sizeOf' ?_) | (with_reducible refine sizeAdd ?_))))
      have B2 := belowNext HB.out B02
      have HO2 := Lib.hid (HW1.out _ B02)
      clear hb2 HW1
      go_wp2_with (at_builtin; refine wpList_append_own _ rfl _ _ 26 rfl w.heap.size 32 i0 (.agg #[.int .i64 0, .int .i64 0]) 2 16 Try.underlying26 hi hz0 hz1 hz2 rfl (by decide) _ _ _ rfl (World.ownsRow.alloc (w := w2) HO2.out _) ⟨w2.heap.size, 0, none⟩ 1 1 [.int .i64 X, .int .i64 Y] rfl rfl ?c1 ?c2 ?c3 ?c4 ?c5 ?_)
      case c1 => exact cell_two_new _ _ _ _
      case c2 => intro u hu; simp at hu; rcases hu with rfl | rfl <;> rfl
      case c3 => unfold maxLen; omega
      case c4 => omega
      case c5 => have := B2.size; simp; omega
      intro v' w3 hown' hgrow _
      rw [HE.out] at hown'
      obtain ⟨gn, capn, rfl⟩ := ownSuccK hown'
      have B3 : Below w.heap.size w w3 := by
        have hb0 : Below w.heap.size w (w2.alloc (.cells #[.int .i64 X, .int .i64 Y] 32)) := belowAlloc B2 _
        refine hb0.grown hgrow hb0.size (fun r e => ?_)
        rcases HO2.out.2 with ⟨hv, _⟩ | ⟨g0, c0, cur, hv, hv2, _⟩
        · rw [hv] at e; simp [Value.ownBlock] at e
        · rw [hv] at e; simp [Value.ownBlock] at e; omega
      have HO3 := Lib.hid hown'
      have HB3 := Lib.hid B3
      clear hown' hgrow HO2 B3 B2 B02 HB HE u0 u1
      go_wp2
      go_roundg g
      case measure => omega
      case rel => exact ⟨k + 1, _, _, by have := HKG.out; omega, by go_num, rfl, HO3, HB3⟩

theorem list_cA {l m : List (Int × Int)} (hl : l.length = m.length) (h : ∀ i, i < l.length → cA l i = cA m i) : l = m := by
  refine List.ext_getElem hl fun i h1 h2 => ?_
  have := h i h1
  rw [cA_of (List.getElem?_eq_getElem h1), cA_of (List.getElem?_eq_getElem h2)] at this
  exact this

set_option maxHeartbeats 2000000 in
theorem implEqual (A : Option Addr) (len cap : Nat) (l : List (Int × Int)) (B : Option Addr) (len2 cap2 : Nat) (m : List (Int × Int)) (w : World) (hr : AngRow w w.heap.size A l) (hl : l.length = len) (hm : len ≤ 1000000000) (hr2 : AngRow w w.heap.size B m) (hl2 : m.length = len2) :
    Calls Try.prog 54 #[.slice A len cap, .slice B len2 cap2] w (ResYesQ w (l = m)) := by
  have HR := Lib.hid hr
  have HR2 := Lib.hid hr2
  have HL := Lib.hid hl
  have HL2 := Lib.hid hl2
  clear hr hl hr2 hl2
  by_cases he : len = len2
  · subst he
    go_enter Try.func54, Try.ntmps54
    go_wp2_with fail
    go_loopg [5, 13] len (fun g _ i wr => ∃ k : Nat, k + g = len ∧ i = .int .i64 k ∧ Hid (∀ j, j < k → cA l j = cA m j) ∧ ∃ q, wr = w.drewN q)
    case atStart => exact ⟨0, by omega, rfl, Lib.hid (fun j h => absurd h (by omega)), 0, rfl⟩
    case round =>
      obtain ⟨k, hkg, rfl, HY, q, rfl⟩ := hrel
      cases gk with
      | zero =>
        obtain rfl : k = len := by omega
        have HQ : Hid (l = m) := Lib.hid (list_cA (by rw [HL.out, HL2.out]) (fun i hi => HY.out i (by have := HL.out; omega)))
        clear hkg
        go_wp2
        go_ret
        exact ⟨⟨true, rfl, Lib.hid ⟨fun _ => HQ.out, fun _ => rfl⟩⟩, by (repeat' (first | (with_reducible exact Below.refl _ _) | (with_reducible assumption) | (with_reducible refine belowNext ?_ (by with_reducible assumption)) | (with_reducible refine belowAlloc ?_ _) | (with_reducible refine Below.drew ?_) | (with_reducible refine below_drewN ?_ _) | (with_reducible refine Below.setCell ?_ ?_ _) | go_size | (with_reducible refine sizeOf' ?_) | (with_reducible refine sizeAdd ?_) | (dsimp only; first | (with_reducible refine sizeOf' ?_) | (with_reducible refine sizeAdd ?_))))⟩
      | succ g =>
        have hkl : k < l.length := by have := HL.out; omega
        have hkm : k < m.length := by have := HL2.out; omega
        have hkn : k < len := by omega
        obtain ⟨b, off, rfl, hbb, hc⟩ := HR.out (by rintro rfl; simp at hkl)
        obtain ⟨b2, off2, rfl, hbb2, hc2⟩ := HR2.out (by rintro rfl; simp at hkm)
        obtain ⟨x0, x1⟩ := hc k _ _ (cA_some hkl)
        obtain ⟨y0, y1⟩ := hc2 k _ _ (cA_some hkm)
        have Q1 := fun W => neqlQ (cA l k).1 (cA l k).2 (cA m k).1 (cA m k).2 W
        have HE : Hid (eqA (cA l k).1 (cA l k).2 (cA m k).1 (cA m k).2 = true ↔ cA l k = cA m k) := Lib.hid (eqA_iff4 ..)
        have HKG := Lib.hid hkg
        clear hc hc2 hkg
        cases hq : eqA (cA l k).1 (cA l k).2 (cA m k).1 (cA m k).2
        · rw [hq] at Q1
          simp only [Bool.not_false] at Q1
          have HNo : Hid (¬ l = m) := Lib.hid (fun e => by
            have := HE.out.2 (by rw [e])
            rw [hq] at this; cases this)
          clear hq hkl hkm
          generalize (cA l k).1 = n at *
          generalize (cA l k).2 = d at *
          generalize (cA m k).1 = n' at *
          generalize (cA m k).2 = d' at *
          go_wp2_with fail
          go_quiet (fail)
          go_wp2
          go_ret
          exact ⟨⟨false, rfl, Lib.hid ⟨fun h => (by cases h), fun h => absurd h HNo.out⟩⟩, by (repeat' (first | (with_reducible exact Below.refl _ _) | (with_reducible assumption) | (with_reducible refine belowNext ?_ (by with_reducible assumption)) | (with_reducible refine belowAlloc ?_ _) | (with_reducible refine Below.drew ?_) | (with_reducible refine below_drewN ?_ _) | (with_reducible refine Below.setCell ?_ ?_ _) | go_size | (with_reducible refine sizeOf' ?_) | (with_reducible refine sizeAdd ?_) | (dsimp only; first | (with_reducible refine sizeOf' ?_) | (with_reducible refine sizeAdd ?_))))⟩
        · rw [hq] at Q1
          simp only [Bool.not_true] at Q1
          have HQ := Lib.hid (HE.out.1 hq)
          clear hq hkl hkm
          generalize (cA l k).1 = n at *
          generalize (cA l k).2 = d at *
          generalize (cA m k).1 = n' at *
          generalize (cA m k).2 = d' at *
          go_wp2_with fail
          go_quiet (fail)
          go_wp2
          go_roundg g
          case measure => omega
          case rel =>
            refine ⟨k + 1, by have := HKG.out; omega, by go_num, Lib.hid (fun j hj => ?_), _, rfl⟩
            by_cases e : j = k
            · subst e; exact HQ.out
            · exact HY.out j (by omega)
  · have d1 : ((len : Int) == (len2 : Int)) = false := by simp; omega
    have d2 : ¬ (len : Int) = (len2 : Int) := by omega
    have HNo : Hid (¬ l = m) := Lib.hid (fun e => he (by rw [← HL.out, ← HL2.out, e]))
    go_enter Try.func54, Try.ntmps54
    go_wp2
    go_ret
    exact ⟨⟨false, rfl, Lib.hid ⟨fun h => (by cases h), fun h => absurd h HNo.out⟩⟩, Below.refl _ _⟩

set_option maxHeartbeats 2000000 in
theorem implNext (b off n cap i j : Nat) (v : Value) (w : World) (hv : w.cell? ⟨b, off + j, none⟩ = some v) (hi : i < n) (hj : (i + 1) % n = j) (hm : n ≤ 1100000) :
    Calls Try.prog 56 #[.slice (some ⟨b, off, none⟩) n cap, .int .i64 i] w fun e w' => e = .returned v ∧ w = w' := by
  obtain ⟨hm1, hm2, hjn⟩ := remQ (a := i + 1) (n := n) (by omega)
  rw [hj] at hm1 hm2 hjn
  have hm1 : ((i : Int) + 1).tmod (n : Int) = (j : Int) := hm1
  have hm2 : ((i : Int) + 1) % (n : Int) = (j : Int) := hm2
  have hjI : (j : Int) < (n : Int) := by omega
  have hwj : IntKind.i64.wrap (j : Int) = (j : Int) := IntWalk.i64_in _ (by omega)
  have hw1 : IntKind.i64.wrap ((i : Int) + 1) = (i : Int) + 1 := IntWalk.i64_in _ (by omega)
  have hln : ¬ (n : Int) = 0 := by omega
  have hln' : ¬ n = 0 := by omega
  clear hj
  go_enter Try.func56, Try.ntmps56
  go_wp2
  go_ret
  exact ⟨rfl, rfl⟩

/-- The set behind the one with the number i. -/
def nxA (ls : List (List (Int × Int))) (i : Nat) : List (Int × Int) := gA ls ((i + 1) % ls.length)
/-- Condition 2 as the program asks it; condition 3 as the program asks it. -/
def DbP (ls : List (List (Int × Int))) : Prop := ∀ i, i < ls.length → insAll (dblL (gA ls i)) = nxA ls i
def TnP (ls : List (List (Int × Int))) : Prop := ∀ i, i < ls.length → ∃ t, Turned (gA ls i) (nxA ls i) t

set_option maxRecDepth 8000 in
set_option maxHeartbeats 2000000 in
theorem implLedOn (A : Option Addr) (n cap : Nat) (ls : List (List (Int × Int))) (w : World) (hr : SetsRow w w.heap.size A ls) (hn : ls.length = n) (hm : n ≤ 1100000) (ht : totL ls ≤ 900000) (ha : ∀ l ∈ ls, allAng l = true) (h0 : ∀ l ∈ ls, 0 < l.length) :
    Calls Try.prog 49 #[.slice A n cap] w (ResYesQ w (DbP ls)) := by
  have HR := Lib.hid hr
  have HN := Lib.hid hn
  have HTt := Lib.hid ht
  have HAll := Lib.hid ha
  have H0 := Lib.hid h0
  clear hr hn ht ha h0
  go_enter Try.func49, Try.ntmps49
  go_wp2
  go_loopg [3, 4, 7] n (fun g _ _ i wr => ∃ k : Nat, k + g = n ∧ i = .int .i64 k ∧ Hid (∀ i, i < k → insAll (dblL (gA ls i)) = nxA ls i) ∧ Hid (Below w.heap.size w wr))
  case atStart => exact ⟨0, by omega, rfl, Lib.hid (fun i h => absurd h (by omega)), Lib.hid (Below.refl _ _)⟩
  case round =>
    obtain ⟨k, hkg, rfl, HY, HB⟩ := hrel
    cases gk with
    | zero =>
      obtain rfl : k = n := by omega
      have HQ : Hid (DbP ls) := Lib.hid (fun i hi => HY.out i (by have := HN.out; omega))
      clear hkg
      go_wp2
      go_ret
      exact ⟨⟨true, rfl, Lib.hid ⟨fun _ => HQ.out, fun _ => rfl⟩⟩, HB.out⟩
    | succ g =>
      have hkl : k < ls.length := by have := HN.out; omega
      have hkn : k < n := by omega
      have hjl : (k + 1) % ls.length < ls.length := Nat.mod_lt _ (by omega)
      have hjn : (k + 1) % n = (k + 1) % ls.length := by rw [HN.out]
      obtain ⟨j, hj⟩ : ∃ j, (k + 1) % ls.length = j := ⟨_, rfl⟩
      have HNx : Hid (nxA ls k = gA ls j) := Lib.hid (by unfold nxA; rw [hj])
      rw [hj] at hjl hjn
      obtain ⟨b, off, rfl, hbb, hc⟩ := HR.out.form hkl
      obtain ⟨Ai, ci, x0, hrow⟩ := hc k hkl
      obtain ⟨Aj, cj, y0, hrow2⟩ := hc j hjl
      have x0 := cellThru HB.out hbb x0
      have HY0 := Lib.hid y0
      have hbw : b < wr.heap.size := Nat.lt_of_lt_of_le hbb HB.out.size
      have hle := len_tot hkl
      have hle2 := len_tot hjl
      have hTt := HTt.out
      have HD := Lib.hid (fun W (hB : Below w.heap.size w W) => implDoubles Ai (gA ls k).length ci (gA ls k) W ((hrow.below hB).more hB.size) rfl (by omega) (HAll.out _ (gA_mem hkl)))
      have HE := Lib.hid (fun W (hB : Below w.heap.size w W) A' cap' (ho : AngRow W W.heap.size A' (insAll (dblL (gA ls k)))) => implEqual A' (insAll (dblL (gA ls k))).length cap' (insAll (dblL (gA ls k))) Aj (gA ls j).length cj (gA ls j) W ho rfl (Nat.le_trans (insAll_len _) (by rw [dblL_len]; omega)) ((hrow2.below hB).more hB.size) rfl)
      have HNe := Lib.hid (fun W (hB : Below w.heap.size w W) => implNext b off n cap k j _ W (cellThru hB hbb y0) hkn hjn hm)
      have hPos := H0.out _ (gA_mem hkl)
      obtain ⟨len, hlen⟩ : ∃ len, (gA ls k).length = len := ⟨_, rfl⟩
      obtain ⟨len2, hlen2⟩ : ∃ len, (gA ls j).length = len := ⟨_, rfl⟩
      have HKG := Lib.hid hkg
      rw [hlen] at HD x0
      rw [hlen2] at HNe HE
      have HNo : Hid (¬ insAll (dblL (gA ls k)) = gA ls j → ¬ DbP ls) := Lib.hid (fun h g => h (by rw [← HNx.out]; exact g k hkl))
      have HYs : Hid (insAll (dblL (gA ls k)) = gA ls j → insAll (dblL (gA ls k)) = nxA ls k) := Lib.hid (fun h => by rw [HNx.out]; exact h)
      generalize hR : insAll (dblL (gA ls k)) = R at *
      have HRe := Lib.hid hR
      clear hc hrow hrow2 hlen hlen2 hle hle2 hTt hkg hj hjn y0 hkl hjl hPos hR
      go_wp2_with fail
      refine (HD.out _ HB.out).mono ?_
      rintro e w1 ⟨A1, c1, rfl, ho1, hb1⟩
      have HB1 := Lib.hid (belowNext HB.out hb1)
      have HO1 := Lib.hid ho1.row
      clear ho1 hb1 HB x0
      go_wp2_with fail
      refine (HNe.out _ HB1.out).mono ?_
      rintro e w2 ⟨rfl, rfl⟩
      go_wp2_with fail
      refine (HE.out _ HB1.out _ _ HO1.out).mono ?_
      rintro e w3 ⟨⟨r, rfl, HRs⟩, hb3⟩
      have HB3 := Lib.hid (belowNext HB1.out hb3)
      clear hb3 HB1 HO1
      cases r
      · have HN2 := Lib.hid (HNo.out (fun h => by have := HRs.out.2 h; cases this))
        go_wp2
        go_ret
        exact ⟨⟨false, rfl, Lib.hid ⟨fun h => (by cases h), fun h => absurd h HN2.out⟩⟩, HB3.out⟩
      · have HY2 := Lib.hid (HYs.out (HRs.out.1 rfl))
        go_wp2
        go_roundg g
        case measure => omega
        case rel =>
          refine ⟨k + 1, by have := HKG.out; omega, by go_num, Lib.hid (fun i hi => ?_), HB3⟩
          by_cases e : i = k
          · subst e; rw [HRe.out]; exact HY2.out
          · exact HY.out i (by omega)
set_option maxRecDepth 8000 in
set_option maxHeartbeats 2000000 in
theorem implKeep (A : Option Addr) (n cap : Nat) (ls : List (List (Int × Int))) (w : World) (hr : SetsRow w w.heap.size A ls) (hn : ls.length = n) (hm : n ≤ 1100000) (ht : totL ls ≤ 900000) (ha : ∀ l ∈ ls, allAng l = true) (h0 : ∀ l ∈ ls, 0 < l.length) :
    Calls Try.prog 50 #[.slice A n cap] w (ResYesQ w (TnP ls)) := by
  have HR := Lib.hid hr
  have HN := Lib.hid hn
  have HTt := Lib.hid ht
  have HAll := Lib.hid ha
  have H0 := Lib.hid h0
  clear hr hn ht ha h0
  go_enter Try.func50, Try.ntmps50
  go_wp2
  go_loopg [3, 4, 5, 6, 9] n (fun g _ _ _ _ i wr => ∃ k : Nat, k + g = n ∧ i = .int .i64 k ∧ Hid (∀ i, i < k → ∃ t, Turned (gA ls i) (nxA ls i) t) ∧ Hid (Below w.heap.size w wr))
  case atStart => exact ⟨0, by omega, rfl, Lib.hid (fun i h => absurd h (by omega)), Lib.hid (Below.refl _ _)⟩
  case round =>
    obtain ⟨k, hkg, rfl, HY, HB⟩ := hrel
    cases gk with
    | zero =>
      obtain rfl : k = n := by omega
      have HQ : Hid (TnP ls) := Lib.hid (fun i hi => HY.out i (by have := HN.out; omega))
      clear hkg
      go_wp2
      go_ret
      exact ⟨⟨true, rfl, Lib.hid ⟨fun _ => HQ.out, fun _ => rfl⟩⟩, HB.out⟩
    | succ g =>
      have hkl : k < ls.length := by have := HN.out; omega
      have hkn : k < n := by omega
      have hjl : (k + 1) % ls.length < ls.length := Nat.mod_lt _ (by omega)
      have hjn : (k + 1) % n = (k + 1) % ls.length := by rw [HN.out]
      obtain ⟨j, hj⟩ : ∃ j, (k + 1) % ls.length = j := ⟨_, rfl⟩
      have HNx : Hid (nxA ls k = gA ls j) := Lib.hid (by unfold nxA; rw [hj])
      rw [hj] at hjl hjn
      obtain ⟨b, off, rfl, hbb, hc⟩ := HR.out.form hkl
      obtain ⟨Ai, ci, x0, hrow⟩ := hc k hkl
      obtain ⟨Aj, cj, y0, hrow2⟩ := hc j hjl
      have x0 := cellThru HB.out hbb x0
      have HY0 := Lib.hid y0
      have hbw : b < wr.heap.size := Nat.lt_of_lt_of_le hbb HB.out.size
      have hle := len_tot hkl
      have hle2 := len_tot hjl
      have hTt := HTt.out
      have HT := Lib.hid (fun W (hB : Below w.heap.size w W) => implTurn Ai (gA ls k).length ci (gA ls k) Aj (gA ls j).length cj (gA ls j) W ((hrow.below hB).more hB.size) rfl (by omega) (HAll.out _ (gA_mem hkl)) ((hrow2.below hB).more hB.size) rfl (by omega) (H0.out _ (gA_mem hkl)))
      have HNe := Lib.hid (fun W (hB : Below w.heap.size w W) => implNext b off n cap k j _ W (cellThru hB hbb y0) hkn hjn hm)
      have hPos := H0.out _ (gA_mem hkl)
      obtain ⟨len, hlen⟩ : ∃ len, (gA ls k).length = len := ⟨_, rfl⟩
      obtain ⟨len2, hlen2⟩ : ∃ len, (gA ls j).length = len := ⟨_, rfl⟩
      have HKG := Lib.hid hkg
      rw [hlen] at HT x0
      rw [hlen2] at HNe HT
      have HNo : Hid ((¬ ∃ t, Turned (gA ls k) (gA ls j) t) → ¬ TnP ls) := Lib.hid (fun h g => h (by rw [← HNx.out]; exact g k hkl))
      have HYs : Hid ((∃ t, Turned (gA ls k) (gA ls j) t) → ∃ t, Turned (gA ls k) (nxA ls k) t) := Lib.hid (fun h => by rw [HNx.out]; exact h)
      clear hc hrow hrow2 hlen hlen2 hle hle2 hTt hkg hj hjn y0 hkl hjl hPos
      go_wp2_with fail
      refine (HNe.out _ HB.out).mono ?_
      rintro e w2 ⟨rfl, rfl⟩
      go_wp2_with fail
      refine (HT.out _ HB.out).mono ?_
      rintro e w3 ⟨⟨t, h1, rfl⟩ | ⟨h1, rfl⟩, hb3⟩
      · have HY2 := Lib.hid (HYs.out ⟨t, h1⟩)
        have HB3 := Lib.hid (belowNext HB.out hb3)
        clear hb3 HB x0 h1
        go_wp2
        go_roundg g
        case measure => omega
        case rel =>
          refine ⟨k + 1, by have := HKG.out; omega, by go_num, Lib.hid (fun i hi => ?_), HB3⟩
          by_cases e : i = k
          · subst e; exact HY2.out
          · exact HY.out i (by omega)
      · have HN2 := Lib.hid (HNo.out h1)
        have HB3 := Lib.hid (belowNext HB.out hb3)
        clear hb3 HB x0 h1
        go_wp2
        go_ret
        exact ⟨⟨false, rfl, Lib.hid ⟨fun h => (by cases h), fun h => absurd h HN2.out⟩⟩, HB3.out⟩
end Go.Proofs.Ytnoaahkpcnkbnaa

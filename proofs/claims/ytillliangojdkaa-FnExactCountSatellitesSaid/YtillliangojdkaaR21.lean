/-
  Contracts: looking an angle up in a list; whether a pair is a satellite, as the program tells it.
-/
import Derived.Test.YtillliangojdkaaR12
import Derived.Test.YtillliangojdkaaR20
import Derived.Test.YtillliangojdkaaW24
import Derived.BigQuiet
namespace Go.Proofs.Ytillliangojdkaa
open Go.RowKit

/-- The angle is in the list. -/
def hasA (l : List (Int × Int)) (n d : Int) : Bool := l.any fun x => eqA n d x.1 x.2
theorem hasA_yes {l : List (Int × Int)} {k : Nat} {n d a b : Int} (h : l[k]? = some (a, b)) (hq : eqA n d a b = true) : hasA l n d = true := by
  unfold hasA
  rw [List.any_eq_true]
  exact ⟨(a, b), List.mem_of_getElem? h, hq⟩
theorem hasA_no {l : List (Int × Int)} {n d : Int} (h : ∀ (i : Nat) (a b : Int), l[i]? = some (a, b) → eqA n d a b = false) : hasA l n d = false := by
  unfold hasA
  rw [List.any_eq_false]
  intro x hx
  obtain ⟨i, hi, e⟩ := List.getElem_of_mem hx
  have := h i x.1 x.2 (by rw [List.getElem?_eq_getElem hi, e])
  simp [this]

set_option maxHeartbeats 1000000 in
theorem idxAn (A : Option Addr) (len cap : Nat) (l : List (Int × Int)) (n d : Int) (w : World) (hr : AngRow w w.heap.size A l) (hl : l.length = len) (hm : len ≤ 1000000000000) :
    Calls Try.prog 111 #[.slice A len cap, ang n d] w fun e w' => (∃ r : Int, e = .returned (.int .i64 r) ∧ -1 ≤ r ∧ r ≤ 1000000000000 ∧ Hid (hasA l n d = decide (0 ≤ r))) ∧ Below w.heap.size w w' := by
  have HR := Lib.hid hr
  have HL := Lib.hid hl
  clear hr hl
  go_enter Try.func111, Try.ntmps111
  go_wp2
  go_loopw [8] (fun i wr => ∃ k : Nat, k ≤ len ∧ i = .int .i64 k ∧ Hid (∀ j, j < k → ∀ a b, l[j]? = some (a, b) → eqA n d a b = false) ∧ ∃ q, wr = (w.alloc (.cells #[.int .i64 n, .int .i64 d] 42)).drewN q) (fun i _ => len - (intOf i).toNat)
  case atStart => exact ⟨0, by omega, rfl, Lib.hid (fun j h => absurd h (by omega)), 0, rfl⟩
  case round =>
    obtain ⟨k, hk, rfl, HY, q, rfl⟩ := hrel
    by_cases hlt : k < len
    · have hkl : k < l.length := by have := HL.out; omega
      obtain ⟨a, b, hnd⟩ : ∃ a b, l[k] = (a, b) := ⟨_, _, rfl⟩
      have hk2 : l[k]? = some (a, b) := by rw [List.getElem?_eq_getElem hkl, hnd]
      have hne : l ≠ [] := by intro h; rw [h] at hkl; simp at hkl
      obtain ⟨g, off, rfl, hbb, hcells⟩ := HR.out hne
      obtain ⟨x0, x1⟩ := hcells k a b hk2
      have HK := Lib.hid hk2
      have Q1 := fun W => eqlAng n d a b W
      clear hnd hcells hk2 hne
      cases hq : eqA n d a b
      · rw [hq] at Q1
        have HQ := Lib.hid hq
        clear hq
        go_wp2_with fail
        go_quiet (fail)
        go_wp2
        go_roundw
        case rel =>
          refine ⟨k + 1, by omega, by go_num, Lib.hid (fun j hj a' b' h' => ?_), _, rfl⟩
          by_cases hjk : j = k
          · subst hjk
            rw [HK.out] at h'
            injection h' with h'
            simp only [Prod.mk.injEq] at h'
            obtain ⟨rfl, rfl⟩ := h'
            exact HQ.out
          · exact HY.out j (by omega) _ _ h'
        case measure => simp [intOf]; omega
      · rw [hq] at Q1
        have HQ := Lib.hid (hasA_yes HK.out hq)
        clear hq
        go_wp2_with fail
        go_quiet (fail)
        go_wp2
        go_ret
        refine ⟨⟨_, rfl, by omega, by omega, Lib.hid (by rw [HQ.out]; exact (decide_eq_true (by omega)).symm)⟩, ?_⟩
        (repeat' (first | (with_reducible exact Below.refl _ _) | (with_reducible assumption) | (with_reducible refine belowNext ?_ (by with_reducible assumption)) | (with_reducible refine belowAlloc ?_ _) | (with_reducible refine Below.drew ?_) | (with_reducible refine below_drewN ?_ _) | (with_reducible refine Below.setCell ?_ ?_ _) | go_size | (with_reducible refine sizeOf' ?_) | (with_reducible refine sizeAdd ?_) | (dsimp only; first | (with_reducible refine sizeOf' ?_) | (with_reducible refine sizeAdd ?_))))
    · obtain rfl : k = len := by omega
      have HQ : Hid (hasA l n d = false) := Lib.hid (hasA_no (fun i a b hi => HY.out i (by
        rcases Nat.lt_or_ge i l.length with h1 | h1
        · have := HL.out; omega
        · rw [List.getElem?_eq_none h1] at hi; cases hi) _ _ hi))
      go_wp2
      go_ret
      refine ⟨⟨_, rfl, by omega, by omega, Lib.hid (by rw [HQ.out]; rfl)⟩, ?_⟩
      (repeat' (first | (with_reducible exact Below.refl _ _) | (with_reducible assumption) | (with_reducible refine belowNext ?_ (by with_reducible assumption)) | (with_reducible refine belowAlloc ?_ _) | (with_reducible refine Below.drew ?_) | (with_reducible refine below_drewN ?_ _) | (with_reducible refine Below.setCell ?_ ?_ _) | go_size | (with_reducible refine sizeOf' ?_) | (with_reducible refine sizeAdd ?_) | (dsimp only; first | (with_reducible refine sizeOf' ?_) | (with_reducible refine sizeAdd ?_))))

set_option maxHeartbeats 1000000 in
theorem hasAn (A : Option Addr) (len cap : Nat) (l : List (Int × Int)) (n d : Int) (w : World) (hr : AngRow w w.heap.size A l) (hl : l.length = len) (hm : len ≤ 1000000000000) :
    Calls Try.prog 101 #[.slice A len cap, ang n d] w fun e w' => e = .returned (.bool (hasA l n d)) ∧ Below w.heap.size w w' := by
  have HI : Hid (∀ W : World, Below w.heap.size w W → Calls Try.prog 111 #[.slice A len cap, ang n d] W fun e w' => (∃ r : Int, e = .returned (.int .i64 r) ∧ -1 ≤ r ∧ r ≤ 1000000000000 ∧ Hid (hasA l n d = decide (0 ≤ r))) ∧ Below W.heap.size W w') :=
    Lib.hid (fun W hB => idxAn A len cap l n d W ((hr.below hB).more hB.size) hl hm)
  clear hr hl
  generalize hasA l n d = R at *
  go_enter Try.func101, Try.ntmps101
  go_wp2_with fail
  refine (HI.out _ (by exact belowAlloc (Below.refl _ _) _)).mono ?_
  rintro e w1 ⟨⟨r, rfl, h1, h2, HR⟩, hb1⟩
  go_wp2
  go_ret
  refine ⟨retB (by rw [HR.out]), ?_⟩
  (repeat' (first | (with_reducible exact Below.refl _ _) | (with_reducible assumption) | (with_reducible refine belowNext ?_ (by with_reducible assumption)) | (with_reducible refine belowAlloc ?_ _) | (with_reducible refine Below.drew ?_) | (with_reducible refine below_drewN ?_ _) | (with_reducible refine Below.setCell ?_ ?_ _) | go_size | (with_reducible refine sizeOf' ?_) | (with_reducible refine sizeAdd ?_) | (dsimp only; first | (with_reducible refine sizeOf' ?_) | (with_reducible refine sizeAdd ?_))))

set_option maxHeartbeats 1000000 in
theorem implSat (a b x y : Int) (w : World) :
    Calls Try.prog 73 #[leafV a b x y] w fun e w' => e = .returned (.bool (hasA (oL a b) x y)) ∧ Below w.heap.size w w' := by
  have HO := Lib.hid (fun w => implOrbitOf a b w)
  have hlen := oL_len a b
  generalize oL a b = l at *
  generalize oC a b = c at *
  obtain ⟨len, hl⟩ : ∃ len, l.length = len := ⟨_, rfl⟩
  rw [hl] at hlen
  have HL := Lib.hid hl
  clear hl
  go_enter Try.func73, Try.ntmps73
  go_wp2_with fail
  refine (HO.out _).mono ?_
  rintro e w1 ⟨A, cap, rfl, ho, hb1⟩
  rw [HL.out]
  have s1 := hb1.size
  simp at s1
  have k2 : w1.cell? ⟨w.heap.size, 2, none⟩ = some (.int .i64 x) := cellThru hb1 (by simp) (by simp [go_sem])
  have k3 : w1.cell? ⟨w.heap.size, 3, none⟩ = some (.int .i64 y) := cellThru hb1 (by simp) (by simp [go_sem])
  have HB := Lib.hid (hasAn A len cap l x y w1 ho.row HL.out hlen)
  have B1 : Below w.heap.size w w1 := by
    (repeat' (first | (with_reducible exact Below.refl _ _) | (with_reducible assumption) | (with_reducible refine belowNext ?_ (by with_reducible assumption)) | (with_reducible refine belowAlloc ?_ _) | (with_reducible refine Below.drew ?_) | (with_reducible refine below_drewN ?_ _) | (with_reducible refine Below.setCell ?_ ?_ _) | go_size | (with_reducible refine sizeOf' ?_) | (with_reducible refine sizeAdd ?_) | (dsimp only; first | (with_reducible refine sizeOf' ?_) | (with_reducible refine sizeAdd ?_))))
  clear ho hb1
  go_wp2_with fail
  refine HB.out.mono ?_
  rintro e w2 ⟨rfl, hb2⟩
  go_wp2
  go_ret
  exact ⟨rfl, belowNext B1 hb2⟩

/-- What IsSatellite answers. -/
def saB (n d : Int) : Bool := if poC n d = 0 then hasA (oL (poP n d).1 (poP n d).2.1) (poP n d).2.2.1 (poP n d).2.2.2 else false
set_option maxHeartbeats 1000000 in
theorem implIsSat (n d : Int) (w : World) :
    Calls Try.prog 40 #[ang n d] w fun e w' => e = .returned (.tuple #[.bool (saB n d), .int .i64 (poC n d)]) ∧ Below w.heap.size w w' := by
  have HP := Lib.hid (fun w => implPairOf n d w)
  by_cases hc : poC n d = 0
  · have e : saB n d = hasA (oL (poP n d).1 (poP n d).2.1) (poP n d).2.2.1 (poP n d).2.2.2 := if_pos hc
    have HS := Lib.hid (fun w => implSat (poP n d).1 (poP n d).2.1 (poP n d).2.2.1 (poP n d).2.2.2 w)
    rw [← e] at HS
    rw [hc] at HP ⊢
    generalize saB n d = R at *
    generalize poP n d = V at *
    obtain ⟨a, b, x, y⟩ := V
    try dsimp only at HP HS
    clear hc e
    go_enter Try.func40, Try.ntmps40
    go_wp2_with fail
    refine (HP.out _).mono ?_
    rintro e w1 ⟨rfl, hb1⟩
    obtain ⟨hc1, hf1⟩ := bcell hb1
    have hz1_0 : w.heap.size < w1.heap.size := by have := hb1.size; first | omega | (simp at this; omega)
    go_wp2_with fail
    refine (HS.out _).mono ?_
    rintro e w2 ⟨rfl, hb2⟩
    obtain ⟨hc2, hf2⟩ := bcell hb2
    have hz2_0 : w.heap.size < w2.heap.size := by have := hb2.size; first | omega | (simp at this; omega)
    go_wp2
    go_ret2
    refine ⟨rfl, ?_⟩
    (repeat' (first | (with_reducible exact Below.refl _ _) | (with_reducible assumption) | (with_reducible refine belowNext ?_ (by with_reducible assumption)) | (with_reducible refine belowAlloc ?_ _) | (with_reducible refine Below.drew ?_) | (with_reducible refine below_drewN ?_ _) | (with_reducible refine Below.setCell ?_ ?_ _) | go_size | (with_reducible refine sizeOf' ?_) | (with_reducible refine sizeAdd ?_) | (dsimp only; first | (with_reducible refine sizeOf' ?_) | (with_reducible refine sizeAdd ?_))))
  · have e : saB n d = false := if_neg hc
    have hcb : (poC n d == 0) = false := beq_eq_false_iff_ne.2 hc
    rw [e]
    generalize poC n d = c at *
    generalize poP n d = V at *
    obtain ⟨a, b, x, y⟩ := V
    try dsimp only at HP
    clear e
    go_enter Try.func40, Try.ntmps40
    go_wp2_with fail
    refine (HP.out _).mono ?_
    rintro e w1 ⟨rfl, hb1⟩
    obtain ⟨hc1, hf1⟩ := bcell hb1
    have hz1_0 : w.heap.size < w1.heap.size := by have := hb1.size; first | omega | (simp at this; omega)
    go_wp2
    go_ret2
    refine ⟨rfl, ?_⟩
    (repeat' (first | (with_reducible exact Below.refl _ _) | (with_reducible assumption) | (with_reducible refine belowNext ?_ (by with_reducible assumption)) | (with_reducible refine belowAlloc ?_ _) | (with_reducible refine Below.drew ?_) | (with_reducible refine below_drewN ?_ _) | (with_reducible refine Below.setCell ?_ ?_ _) | go_size | (with_reducible refine sizeOf' ?_) | (with_reducible refine sizeAdd ?_) | (dsimp only; first | (with_reducible refine sizeOf' ?_) | (with_reducible refine sizeAdd ?_))))
end Go.Proofs.Ytillliangojdkaa

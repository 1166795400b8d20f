/-
  Contracts: IsStarPeriodic, on both sides; the walk of its law.
-/
import Derived.Test.YtomcmjnhfloeeaaDoorLD
import Derived.Test.YtomcmjnhfloeeaaDoorShelfB
import Derived.Lib.IndexLaws
namespace Go.Proofs.YtomcmjnhfloeeaaDoor
open Go.RowKit

/-- There is a star among the first m letters. -/
def starIn (y : Wd) (m : Nat) : Bool := (List.range m).any fun i => y.getD i 0 == 42
theorem starIn_succ (y : Wd) (m : Nat) : starIn y (m + 1) = (starIn y m || (y.getD m 0 == 42)) := by
  simp [starIn, List.range_succ]
theorem starIn_yes {y : Wd} {m i : Nat} (hi : i < m) (h : (y.getD i 0 == 42) = true) : starIn y m = true := by
  unfold starIn
  rw [List.any_eq_true]
  exact ⟨i, List.mem_range.2 hi, h⟩
def starQ (x y : Wd) : Bool := decide (x.length = 0) && ((y.getD (y.length - 1) 0 == 42) && (!(decide (1 < y.length) && !(y.getD 0 0 == 49)) && !starIn y (y.length - 1)))
theorem suf42 {y : Wd} (hy : 0 < y.length) : Lib.hasSuffix y [42] = (y.getD (y.length - 1) 0 == 42) := by
  rw [← Lib.hasSuffix_of_drop]
  have e : y.drop (y.length - 1) = [y.getD (y.length - 1) 0] := by
    have hl : y.length - 1 < y.length := by omega
    rw [List.drop_eq_getElem_cons hl, gd_at y hl]
    have : y.length - 1 + 1 = y.length := by omega
    rw [this, List.drop_length]
  have h1 : decide (([42] : Wd).length ≤ y.length) = true := decide_eq_true (by simp; omega)
  rw [h1, Bool.true_and]
  show (y.drop (y.length - 1) == [42]) = _
  rw [e]
  rw [Bool.eq_iff_iff]
  simp
theorem con42 (y : Wd) (m : Nat) (hm : m ≤ y.length) : decide (0 ≤ Lib.indexByte (y.take m) 42) = starIn y m := by
  cases h : starIn y m
  · apply decide_eq_false
    intro h0
    obtain ⟨o, ho⟩ : ∃ o : Nat, Lib.indexByte (y.take m) 42 = o := ⟨(Lib.indexByte (y.take m) 42).toNat, by omega⟩
    have h1 := (Lib.indexByte_some ho).1
    have hlt : o < (y.take m).length := by
      rcases Nat.lt_or_ge o (y.take m).length with h | h
      · exact h
      · rw [List.getElem?_eq_none h] at h1; cases h1
    rw [List.length_take] at hlt
    rw [List.getElem?_take, if_pos (by omega)] at h1
    have := starIn_yes (y := y) (m := m) (i := o) (by omega) (by rw [List.getD_eq_getElem?_getD, h1]; rfl)
    rw [h] at this; cases this
  · apply decide_eq_true
    unfold starIn at h
    rw [List.any_eq_true] at h
    obtain ⟨i, hi, he⟩ := h
    have hi := List.mem_range.1 hi
    rcases Int.lt_or_le (Lib.indexByte (y.take m) 42) 0 with hn | hn
    · have hge := Lib.indexByte_ge (y.take m) 42
      have h1 := Lib.indexByte_none (show Lib.indexByte (y.take m) 42 = -1 by omega) i
      rw [List.getElem?_take, if_pos hi, List.getElem?_eq_getElem (by omega)] at h1
      rw [gd_at y (show i < y.length by omega)] at he
      exact absurd (by rw [eq_of_beq he]) h1
    · exact hn
theorem pre48 (y : Wd) : Lib.hasPrefix (y.take (y.length - 1)) [48] = (decide (1 < y.length) && (y.getD 0 0 == 48)) := by
  rw [← Lib.hasPrefix_of_take]
  by_cases h : 1 < y.length
  · have h1 : decide (([48] : Wd).length ≤ (y.take (y.length - 1)).length) = true := decide_eq_true (by simp; omega)
    rw [h1, decide_eq_true h, Bool.true_and, Bool.true_and]
    match y, h with
    | a :: b :: l, _ =>
      rw [Bool.eq_iff_iff]
      simp
  · have h1 : decide (([48] : Wd).length ≤ (y.take (y.length - 1)).length) = false := decide_eq_false (by simp; omega)
    rw [h1, decide_eq_false h, Bool.false_and, Bool.false_and]
/-- What the program reckons is the same, for letters. -/
theorem star_same {x y : Wd} (hl : lets y = true) (hy : 0 < y.length) :
    (decide (x.length = 0) && ((y.getD (y.length - 1) 0 == 42) && (!starIn y (y.length - 1) && !(decide (1 < y.length) && (y.getD 0 0 == 48))))) = starQ x y := by
  unfold starQ
  cases decide (x.length = 0)
  · rfl
  cases (y.getD (y.length - 1) 0 == 42)
  · rfl
  by_cases h1 : 1 < y.length
  · rw [decide_eq_true h1]
    have h3 : isLet (y.getD 0 0) = true := by
      unfold lets at hl
      rw [List.all_eq_true] at hl
      rw [gd_at y hy]; exact hl _ (List.getElem_mem hy)
    unfold isLet at h3
    cases e1 : (y.getD 0 0 == 48)
    · cases e2 : (y.getD 0 0 == 49)
      · have e3 : (y.getD 0 0 == 42) = true := by rw [e1, e2] at h3; simpa using h3
        rw [starIn_yes (i := 0) (by omega) e3]; rfl
      · cases starIn y (y.length - 1) <;> rfl
    · have e2 : (y.getD 0 0 == 49) = false := by rw [eq_of_beq e1]; rfl
      rw [e2]
      cases starIn y (y.length - 1) <;> rfl
  · rw [decide_eq_false h1]
    cases starIn y (y.length - 1) <;> rfl

theorem bs_mk (l : Wd) : (⟨l.toArray⟩ : ByteArray) = bs l := rfl

set_option maxHeartbeats 2000000 in
theorem implStar (x y : Wd) (w : World) (hl : lets y = true) (hy : 0 < y.length) (hxy : x.length + y.length ≤ 64) :
    Calls Tryd.prog 50 #[sqV x y] w fun e w' => e = .returned (.bool (starQ x y)) ∧ Below w.heap.size w w' := by
  have hS := star_same (x := x) hl hy
  have HC : Hid (∀ w, Calls Tryd.prog 71 #[.string (bs y), .string ⟨#[42]⟩] w fun e w' => e = .returned (.tuple #[.string (bs (Lib.trimSuffix y [42])), .bool (y.getD (y.length - 1) 0 == 42)]) ∧ w' = w) := Lib.hid (fun w => by
    have h := Tryd.strings_CutSuffix (bs y) ⟨#[42]⟩ w (by rw [bs_size]; omega)
    rw [bs_data] at h
    rw [← suf42 hy]
    exact h)
  obtain ⟨x1, x2, x3, x4⟩ := emp_facts x
  have hx : decide (x.length = 0) = !decide (0 < x.length) := by
    by_cases h : x.length = 0
    · rw [decide_eq_true h, decide_eq_false (show ¬ 0 < x.length by omega)]; rfl
    · rw [decide_eq_false h, decide_eq_true (show 0 < x.length by omega)]; rfl
  rw [hx] at hS
  have R0 := keepQ0 (w := w) (x := x) (y := y) (T := 25)
  cases h0 : decide (0 < x.length)
  · rw [h0] at x2 x3 x4 hS
    cases h1 : (y.getD (y.length - 1) 0 == 42)
    · rw [h1] at hS HC
      rw [← hS]
      generalize Lib.trimSuffix y [42] = F at *
      clear hS hx h0 h1 hxy hy hl
      go_enter Tryd.func50, Tryd.ntmps50
      go_wp2_with fail
      refine (HC.out _).mono ?_
      rintro e w2 ⟨rfl, rfl⟩
      go_wp2
      go_ret
      refine ⟨rfl, ?_⟩
      (repeat' (first | (with_reducible exact Below.refl _ _) | (with_reducible assumption) | (with_reducible refine belowNext ?_ (by with_reducible assumption)) | (with_reducible refine belowAlloc ?_ _) | (with_reducible refine Below.drew ?_) | (with_reducible refine below_drewN ?_ _) | (with_reducible refine Below.setCell ?_ ?_ _) | go_size | (with_reducible refine sizeOf' ?_) | (with_reducible refine sizeAdd ?_) | (dsimp only; first | (with_reducible refine sizeOf' ?_) | (with_reducible refine sizeAdd ?_))))
    · rw [h1] at hS HC
      have ef : Lib.trimSuffix y [42] = y.take (y.length - 1) := by
        unfold Lib.trimSuffix
        rw [suf42 hy, h1]; rfl
      rw [ef] at HC
      have HD : Hid (∀ w, Calls Tryd.prog 72 #[.string (bs (y.take (y.length - 1))), .string ⟨#[42]⟩] w fun e w' => e = .returned (.bool (starIn y (y.length - 1))) ∧ w' = w) := Lib.hid (fun w => by
        have h := Tryd.strings_Contains_one (bs (y.take (y.length - 1))) 42 w
        rw [bs_data, con42 y _ (by omega)] at h
        exact h)
      have HE : Hid (∀ w, Calls Tryd.prog 73 #[.string (bs (y.take (y.length - 1))), .string ⟨#[48]⟩] w fun e w' => e = .returned (.bool (decide (1 < y.length) && (y.getD 0 0 == 48))) ∧ w' = w) := Lib.hid (fun w => by
        have h := Tryd.strings_HasPrefix (bs (y.take (y.length - 1))) ⟨#[48]⟩ w
        rw [bs_data] at h
        rw [← pre48]
        exact h)
      rw [← hS]
      generalize y.take (y.length - 1) = F at *
      generalize (decide (1 < y.length) && (y.getD 0 0 == 48)) = b3 at *
      cases h2 : starIn y (y.length - 1)
      · rw [h2] at HD
        clear hS hx h0 h1 hxy hy hl ef h2
        go_enter Tryd.func50, Tryd.ntmps50
        go_wp2_with fail
        refine (HC.out _).mono ?_
        rintro e w2 ⟨rfl, rfl⟩
        go_wp2_with fail
        refine (HD.out _).mono ?_
        rintro e w3 ⟨rfl, rfl⟩
        go_wp2_with fail
        refine (HE.out _).mono ?_
        rintro e w4 ⟨rfl, rfl⟩
        go_wp2
        go_ret
        refine ⟨by cases b3 <;> rfl, ?_⟩
        (repeat' (first | (with_reducible exact Below.refl _ _) | (with_reducible assumption) | (with_reducible refine belowNext ?_ (by with_reducible assumption)) | (with_reducible refine belowAlloc ?_ _) | (with_reducible refine Below.drew ?_) | (with_reducible refine below_drewN ?_ _) | (with_reducible refine Below.setCell ?_ ?_ _) | go_size | (with_reducible refine sizeOf' ?_) | (with_reducible refine sizeAdd ?_) | (dsimp only; first | (with_reducible refine sizeOf' ?_) | (with_reducible refine sizeAdd ?_))))
      · rw [h2] at HD
        clear hS hx h0 h1 hxy hy hl ef h2
        go_enter Tryd.func50, Tryd.ntmps50
        go_wp2_with fail
        refine (HC.out _).mono ?_
        rintro e w2 ⟨rfl, rfl⟩
        go_wp2_with fail
        refine (HD.out _).mono ?_
        rintro e w3 ⟨rfl, rfl⟩
        go_wp2
        go_ret
        refine ⟨rfl, ?_⟩
        (repeat' (first | (with_reducible exact Below.refl _ _) | (with_reducible assumption) | (with_reducible refine belowNext ?_ (by with_reducible assumption)) | (with_reducible refine belowAlloc ?_ _) | (with_reducible refine Below.drew ?_) | (with_reducible refine below_drewN ?_ _) | (with_reducible refine Below.setCell ?_ ?_ _) | go_size | (with_reducible refine sizeOf' ?_) | (with_reducible refine sizeAdd ?_) | (dsimp only; first | (with_reducible refine sizeOf' ?_) | (with_reducible refine sizeAdd ?_))))
  · rw [h0] at x2 x3 x4 hS
    rw [← hS]
    generalize (y.getD (y.length - 1) 0 == 42) = b at *
    generalize Lib.trimSuffix y [42] = F at *
    clear hS hx h0 hxy hy hl
    go_enter Tryd.func50, Tryd.ntmps50
    go_wp2_with fail
    refine (HC.out _).mono ?_
    rintro e w2 ⟨rfl, rfl⟩
    go_wp2
    go_ret
    refine ⟨rfl, ?_⟩
    (repeat' (first | (with_reducible exact Below.refl _ _) | (with_reducible assumption) | (with_reducible refine belowNext ?_ (by with_reducible assumption)) | (with_reducible refine belowAlloc ?_ _) | (with_reducible refine Below.drew ?_) | (with_reducible refine below_drewN ?_ _) | (with_reducible refine Below.setCell ?_ ?_ _) | go_size | (with_reducible refine sizeOf' ?_) | (with_reducible refine sizeAdd ?_) | (dsimp only; first | (with_reducible refine sizeOf' ?_) | (with_reducible refine sizeAdd ?_))))
end Go.Proofs.YtomcmjnhfloeeaaDoor

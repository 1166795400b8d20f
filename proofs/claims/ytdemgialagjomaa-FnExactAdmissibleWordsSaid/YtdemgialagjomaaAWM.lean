/-
  Plain mathematics: the star-periodic words of a period, as both sides tell them.
-/
import Derived.Test.YtdemgialagjomaaEG
namespace Go.Proofs.Ytdemgialagjomaa
open Go.RowKit

/-- The words that begin with 1 and have m letters more, each other one twice as long a list. -/
def lvlW : Nat → List Wd
  | 0 => [[49]]
  | m + 1 => (lvlW m).flatMap fun w => [w ++ [48], w ++ [49]]
/-- The letters of a number, m of them, the first one for the greatest power. -/
def bitsW : Nat → Nat → Wd
  | 0, _ => []
  | m + 1, k => bitsW m (k / 2) ++ [if k % 2 = 0 then 48 else 49]
theorem lvl_all : ((List.range 9).all fun m => lvlW m == (List.range (2 ^ m)).map fun k => 49 :: bitsW m k) = true := by decide +kernel
theorem lvl_bits {m : Nat} (h : m ≤ 8) : lvlW m = (List.range (2 ^ m)).map fun k => 49 :: bitsW m k := by
  have := List.all_eq_true.mp lvl_all m (List.mem_range.mpr (by omega))
  exact eq_of_beq this
/-- The words of a period. -/
def starW (n : Nat) : List Wd := if n = 1 then [[42]] else (lvlW (n - 2)).map fun w => w ++ [42]
theorem star_all : ((List.range 11).all fun n => n == 0 || (starW n).all fun y => isSeq [] y && (oneStar y && y.length == n)) = true := by decide +kernel
theorem star_ok {n : Nat} (h1 : 1 ≤ n) (h2 : n ≤ 10) {y : Wd} (hy : y ∈ starW n) : isSeq [] y = true ∧ (∀ k, 1 ≤ k → k < y.length → rhoN [] y k ≠ 0) ∧ y.length = n := by
  have h := List.all_eq_true.mp star_all n (List.mem_range.mpr (by omega))
  rw [Bool.or_eq_true] at h
  rcases h with h | h
  · simp at h; omega
  · have := List.all_eq_true.mp h y hy
    simp only [Bool.and_eq_true, beq_iff_eq] at this
    exact ⟨this.1, star_rhoG this.1 this.2.1, this.2.2⟩
theorem lvl_len (m : Nat) : ∀ w ∈ lvlW m, w.length = m + 1 := by
  induction m with
  | zero => intro w hw; simp [lvlW] at hw; subst hw; rfl
  | succ m ih =>
    intro w hw
    simp only [lvlW, List.mem_flatMap] at hw
    obtain ⟨v, hv, hw⟩ := hw
    have := ih v hv
    simp at hw
    rcases hw with rfl | rfl <;> simp [this]
theorem lvl_count (m : Nat) : (lvlW m).length = 2 ^ m := by
  induction m with
  | zero => rfl
  | succ m ih =>
    have : ∀ l : List Wd, (l.flatMap fun w => [w ++ [48], w ++ [49]]).length = 2 * l.length := by
      intro l
      induction l with
      | nil => rfl
      | cons a l ih => simp only [List.flatMap_cons, List.length_append, List.length_cons, List.length_nil, ih]; omega
    show ((lvlW m).flatMap _).length = _
    rw [this, ih, Nat.pow_succ]; omega
/-- The good ones. -/
noncomputable def goodL (l : List Wd) : List Wd := l.filter fun y => @decide (GoodN [] y) (Classical.propDecidable _)
theorem good_next {l : List Wd} {k : Nat} {y : Wd} (h : l[k]? = some y) {r : Bool} (hr : r = true ↔ GoodN [] y) : goodL (l.take (k + 1)) = goodL (l.take k) ++ (if r then [y] else []) := by
  unfold goodL
  rw [List.take_add_one, h, Option.toList_some, List.filter_append]
  congr 1
  cases r
  · rw [List.filter_cons_of_neg (by rw [@decide_eq_true_eq _ (Classical.propDecidable _)]; intro g; have := hr.mpr g; cases this)]
    rfl
  · rw [List.filter_cons_of_pos (by rw [@decide_eq_true_eq _ (Classical.propDecidable _)]; exact hr.mp rfl)]
    rfl
theorem good_len (l : List Wd) : (goodL l).length ≤ l.length := List.length_filter_le _ _
end Go.Proofs.Ytdemgialagjomaa

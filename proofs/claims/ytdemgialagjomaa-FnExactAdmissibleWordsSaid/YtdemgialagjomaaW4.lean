/-
  Contracts: angles from numbers, doubles, sums.
-/
import Derived.Test.YtdemgialagjomaaW3
namespace Go.Proofs.Ytdemgialagjomaa
open Go.RowKit

/-- An angle and a code. -/
abbrev res3 (x y c : Int) : Value := .tuple #[ang x y, .int .i64 c]
theorem ret3 {x y c x' y' c' : Int} (h1 : x = x') (h2 : y = y') (h3 : c = c') : Ending.returned (res3 x y c) = .returned (res3 x' y' c') := by rw [h1, h2, h3]
theorem retA {x y x' y' : Int} (h1 : x = x') (h2 : y = y') : Ending.returned (ang x y) = .returned (ang x' y') := by rw [h1, h2]

/-- The range of AngleOf. -/
def ofOk (n d : Int) : Bool := decide (-1000000000 ≤ n ∧ n ≤ 1000000000 ∧ 1 ≤ d ∧ d ≤ 1000000000)
def ofN (n d : Int) : Int := if ofOk n d then toldN (redN n d) (redD n d) else 0
def ofD (n d : Int) : Int := if ofOk n d then toldD (redD n d) else 0
def ofC (n d : Int) : Int := if ofOk n d then toldC (redD n d) else 2
theorem of_yes {n d : Int} (h : ofOk n d = true) : ofN n d = toldN (redN n d) (redD n d) ∧ ofD n d = toldD (redD n d) ∧ ofC n d = toldC (redD n d) := by
  unfold ofN ofD ofC; simp [h]
theorem of_no {n d : Int} (h : ofOk n d = false) : ofN n d = 0 ∧ ofD n d = 0 ∧ ofC n d = 2 := by
  unfold ofN ofD ofC; simp [h]
theorem of_cases (n d : Int) : (ofOk n d = false ∧ (n < -1000000000 ∨ (-1000000000 ≤ n ∧ 1000000000 < n) ∨ (-1000000000 ≤ n ∧ n ≤ 1000000000 ∧ d < 1) ∨ (-1000000000 ≤ n ∧ n ≤ 1000000000 ∧ 1 ≤ d ∧ 1000000000 < d))) ∨
    (ofOk n d = true ∧ -1000000000 ≤ n ∧ n ≤ 1000000000 ∧ 1 ≤ d ∧ d ≤ 1000000000) := by
  by_cases h : -1000000000 ≤ n ∧ n ≤ 1000000000 ∧ 1 ≤ d ∧ d ≤ 1000000000
  · exact .inr ⟨by unfold ofOk; simpa using h, h⟩
  · refine .inl ⟨by unfold ofOk; simpa using h, by omega⟩

def dblN (n d : Int) : Int := if isAng n d then redN (2 * n) d else 0
def dblD (n d : Int) : Int := if isAng n d then redD (2 * n) d else 0
def dblC (n d : Int) : Int := if isAng n d then 0 else 1
theorem dbl_yes {n d : Int} (h : isAng n d = true) : dblN n d = redN (2 * n) d ∧ dblD n d = redD (2 * n) d ∧ dblC n d = 0 := by
  unfold dblN dblD dblC; simp [h]
theorem dbl_no {n d : Int} (h : isAng n d = false) : dblN n d = 0 ∧ dblD n d = 0 ∧ dblC n d = 1 := by
  unfold dblN dblD dblC; simp [h]

end Go.Proofs.Ytdemgialagjomaa

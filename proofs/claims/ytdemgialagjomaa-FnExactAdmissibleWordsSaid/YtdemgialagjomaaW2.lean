/-
  Contracts: what is an angle; angles from numbers.
-/
import Derived.Test.YtdemgialagjomaaW1
namespace Go.Proofs.Ytdemgialagjomaa
open Go.RowKit

theorem isAng_cases (n d : Int) : (isAng n d = false ∧ (d < 1 ∨ (1 ≤ d ∧ 8191 < d) ∨ (1 ≤ d ∧ d ≤ 8191 ∧ n < 0) ∨ (1 ≤ d ∧ d ≤ 8191 ∧ 0 ≤ n ∧ d ≤ n))) ∨
    (1 ≤ d ∧ d ≤ 8191 ∧ 0 ≤ n ∧ n < d ∧ isAng n d = (gcdI n d == 1)) := by
  by_cases h : 1 ≤ d ∧ d ≤ 8191 ∧ 0 ≤ n ∧ n < d
  · refine .inr ⟨h.1, h.2.1, h.2.2.1, h.2.2.2, ?_⟩
    unfold isAng
    rw [Bool.eq_iff_iff]
    simp [h]
  · refine .inl ⟨?_, by omega⟩
    unfold isAng
    simp
    omega

end Go.Proofs.Ytdemgialagjomaa

/-
  Contracts: the specification's IsSequence; what the laws on sequences call.
-/
import Derived.Test.YtdemgialagjomaaD1
import Derived.Deep.RegionHeld3
namespace Go.Proofs.Ytdemgialagjomaa
open Go.RowKit

theorem emp_facts' (y : Wd) : (bs y).toList = y ∧ y.isEmpty = !decide (0 < y.length) ∧ (y == []) = !decide (0 < y.length) ∧ (y = []) = (decide (0 < y.length) = false) := by
  refine ⟨bs_toList y, ?_, ?_, ?_⟩
  · cases y <;> simp
  · cases y <;> simp
  · cases y <;> simp

/-- What the laws leave for: sizes up to 2^20. -/
def szQ (x y : Wd) : Int := if x.length + y.length ≤ 1048576 then 1048576 - (x.length : Int) - (y.length : Int) else -1
theorem szQ_cases (x y : Wd) : (szQ x y = -1) ∨ (0 ≤ szQ x y ∧ x.length + y.length ≤ 1048576) := by
  unfold szQ
  split
  · exact .inr ⟨by omega, by assumption⟩
  · exact .inl rfl
end Go.Proofs.Ytdemgialagjomaa

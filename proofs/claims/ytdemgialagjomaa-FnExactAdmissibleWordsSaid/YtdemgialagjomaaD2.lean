/-
  Contracts: IsSequence, on both sides; what the laws on sequences call.
-/
import Derived.Test.YtdemgialagjomaaD1
import Derived.Deep.RegionWith
import Derived.Deep.RegionHeld3
namespace Go.Proofs.Ytdemgialagjomaa
open Go.RowKit

theorem emp_facts (y : Wd) : (bs y).toList = y ∧ y.isEmpty = !decide (0 < y.length) ∧ (y == []) = !decide (0 < y.length) ∧ (y = []) = (decide (0 < y.length) = false) := by
  refine ⟨bs_toList y, ?_, ?_, ?_⟩
  · cases y <;> simp
  · cases y <;> simp
  · cases y <;> simp

end Go.Proofs.Ytdemgialagjomaa

/-
  Contracts: the shortest period of a word; sequences told in the one way (the program's).
-/
import Derived.Test.YtdemgialagjomaaS1
import Derived.Test.YtdemgialagjomaaShelf
import Derived.Test.YtdemgialagjomaaW1
import Derived.IntWalk
import Derived.Deep.RegionHeld3
namespace Go.Proofs.Ytdemgialagjomaa
open Go.RowKit

theorem sp_yes {l : Wd} {k : Nat} (h : l.length % k = 0) (h2 : perB l k = true) (f : Nat) : spFrom l (f + 1) k = k := by simp [spFrom, h, h2]
theorem sp_no {l : Wd} {k : Nat} (h : ¬ (l.length % k = 0 ∧ perB l k = true)) (f : Nat) : spFrom l (f + 1) k = spFrom l f (k + 1) := by
  simp only [spFrom]; rw [if_neg h]

end Go.Proofs.Ytdemgialagjomaa

/-
  Contracts: crossings on the model's side; DoLeavesCross; its law.
-/
import Derived.Test.YtnciiodgkanpjaaV4
namespace Go.Proofs.Ytnciiodgkanpjaa
open Go.RowKit

def dlcB (a b c d e f g h : Int) : Bool := (isLf a b c d && isLf e f g h) && crossB a b c d e f g h
def dlcC (a b c d e f g h : Int) : Int := if isLf a b c d && isLf e f g h then 0 else 1
theorem dlc_yes {a b c d e f g h : Int} (hi : (isLf a b c d && isLf e f g h) = true) : dlcB a b c d e f g h = crossB a b c d e f g h ∧ dlcC a b c d e f g h = 0 := by
  unfold dlcB dlcC; rw [hi]; simp
theorem dlc_no {a b c d e f g h : Int} (hi : (isLf a b c d && isLf e f g h) = false) : dlcB a b c d e f g h = false ∧ dlcC a b c d e f g h = 1 := by
  unfold dlcB dlcC; rw [hi]; simp
theorem two_cases (x y : Bool) : (x = false ∧ (x && y) = false) ∨ (x = true ∧ y = false ∧ (x && y) = false) ∨ (x = true ∧ y = true ∧ (x && y) = true) := by cases x <;> cases y <;> simp
theorem allLf2 (a b c d e f g h : Int) : allLf [(a, b, c, d), (e, f, g, h)] = (isLf a b c d && isLf e f g h) := by simp [allLf]

end Go.Proofs.Ytnciiodgkanpjaa

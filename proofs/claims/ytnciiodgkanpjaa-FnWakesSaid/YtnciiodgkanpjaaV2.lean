/-
  Contracts: the leaf between two angles.
-/
import Derived.Test.YtnciiodgkanpjaaV1
namespace Go.Proofs.Ytnciiodgkanpjaa
open Go.RowKit

/-- The ends of the leaf between a/b and c/d, in order. -/
def lfA (a b c d : Int) : Int := if ltA a b c d then a else c
def lfB (a b c d : Int) : Int := if ltA a b c d then b else d
def lfC (a b c d : Int) : Int := if ltA a b c d then c else a
def lfD (a b c d : Int) : Int := if ltA a b c d then d else b
theorem lf_yes {a b c d : Int} (h : ltA a b c d = true) : lfA a b c d = a ∧ lfB a b c d = b ∧ lfC a b c d = c ∧ lfD a b c d = d := by
  unfold lfA lfB lfC lfD; simp [h]
theorem lf_no {a b c d : Int} (h : ltA a b c d = false) : lfA a b c d = c ∧ lfB a b c d = d ∧ lfC a b c d = a ∧ lfD a b c d = b := by
  unfold lfA lfB lfC lfD; simp [h]
theorem retL {a b c d a' b' c' d' : Int} (h1 : a = a') (h2 : b = b') (h3 : c = c') (h4 : d = d') : Ending.returned (leafV a b c d) = .returned (leafV a' b' c' d') := by rw [h1, h2, h3, h4]

/-- Two fractions are different as numbers, or written alike. -/
def apartA (a b c d : Int) : Prop := a * d ≠ c * b ∨ (a = c ∧ b = d)
theorem lf_turn {a b c d : Int} (h : apartA a b c d) : lfA a b c d = lfA c d a b ∧ lfB a b c d = lfB c d a b ∧ lfC a b c d = lfC c d a b ∧ lfD a b c d = lfD c d a b := by
  rcases h with h | ⟨rfl, rfl⟩
  · rcases Int.lt_or_gt_of_ne h with h | h
    · have e1 : ltA a b c d = true := decide_eq_true h
      have e2 : ltA c d a b = false := decide_eq_false (by omega)
      unfold lfA lfB lfC lfD
      simp [e1, e2]
    · have e1 : ltA a b c d = false := decide_eq_false (by omega)
      have e2 : ltA c d a b = true := decide_eq_true h
      unfold lfA lfB lfC lfD
      simp [e1, e2]
  · exact ⟨rfl, rfl, rfl, rfl⟩

end Go.Proofs.Ytnciiodgkanpjaa

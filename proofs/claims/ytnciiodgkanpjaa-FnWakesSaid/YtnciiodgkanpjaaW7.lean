/-
  Contracts: arcs and cyclic orders as the exported functions tell them.
-/
import Derived.Test.YtnciiodgkanpjaaW6
namespace Go.Proofs.Ytnciiodgkanpjaa
open Go.RowKit

/-- Two angles are one. -/
def eqA (a1 a2 b1 b2 : Int) : Bool := (a1 == b1) && (a2 == b2)
def winOk (n d a1 a2 b1 b2 : Int) : Bool := isAng n d && (isAng a1 a2 && isAng b1 b2)
def winB (n d a1 a2 b1 b2 : Int) : Bool := winOk n d a1 a2 b1 b2 && !eqA a1 a2 b1 b2 && arcB n d a1 a2 b1 b2
def winC (n d a1 a2 b1 b2 : Int) : Int := if winOk n d a1 a2 b1 b2 then (if eqA a1 a2 b1 b2 then 5 else 0) else 1
theorem win_no {n d a1 a2 b1 b2 : Int} (h : winOk n d a1 a2 b1 b2 = false) : winB n d a1 a2 b1 b2 = false ∧ winC n d a1 a2 b1 b2 = 1 := by
  unfold winB winC; simp [h]
theorem win_eq {n d a1 a2 b1 b2 : Int} (h : winOk n d a1 a2 b1 b2 = true) (e : eqA a1 a2 b1 b2 = true) : winB n d a1 a2 b1 b2 = false ∧ winC n d a1 a2 b1 b2 = 5 := by
  unfold winB winC; simp [h, e]
theorem win_yes {n d a1 a2 b1 b2 : Int} (h : winOk n d a1 a2 b1 b2 = true) (e : eqA a1 a2 b1 b2 = false) : winB n d a1 a2 b1 b2 = arcB n d a1 a2 b1 b2 ∧ winC n d a1 a2 b1 b2 = 0 := by
  unfold winB winC; simp [h, e]
theorem ret2B {x x' : Bool} {y y' : Int} (h1 : x = x') (h2 : y = y') : Ending.returned (.tuple #[.bool x, .int .i64 y]) = .returned (.tuple #[.bool x', .int .i64 y']) := by rw [h1, h2]
theorem ret2I {x x' y y' : Int} (h1 : x = x') (h2 : y = y') : Ending.returned (.tuple #[.int .i64 x, .int .i64 y]) = .returned (.tuple #[.int .i64 x', .int .i64 y']) := by rw [h1, h2]
theorem is3 (n d a1 a2 b1 b2 : Int) : (isAng n d = false) ∨ (isAng n d = true ∧ isAng a1 a2 = false) ∨ (isAng n d = true ∧ isAng a1 a2 = true ∧ isAng b1 b2 = false) ∨ (isAng n d = true ∧ isAng a1 a2 = true ∧ isAng b1 b2 = true) := by
  cases isAng n d <;> cases isAng a1 a2 <;> cases isAng b1 b2 <;> simp

theorem eqlAng (a1 a2 b1 b2 : Int) (W : World) : (binOp .eql 25 (ang a1 a2) (ang b1 b2)).run Try.prog W = .ok (.bool (eqA a1 a2 b1 b2)) W := by
  by_cases h1 : a1 = b1
  · by_cases h2 : a2 = b2
    · subst h1 h2
      simp [go_sem, eqA]
    · subst h1
      simp [go_sem, eqA, h2]
  · simp [go_sem, eqA, h1]

/-- The cyclic order, and its code. -/
def cycE (n d a1 a2 b1 b2 : Int) : Bool := eqA n d a1 a2 || (eqA a1 a2 b1 b2 || eqA n d b1 b2)
def cycV (n d a1 a2 b1 b2 : Int) : Int := if winOk n d a1 a2 b1 b2 then (if cycE n d a1 a2 b1 b2 then 0 else if arcB a1 a2 n d b1 b2 then 1 else -1) else 0
def cycC (n d a1 a2 b1 b2 : Int) : Int := if winOk n d a1 a2 b1 b2 then 0 else 1
theorem cyc_no {n d a1 a2 b1 b2 : Int} (h : winOk n d a1 a2 b1 b2 = false) : cycV n d a1 a2 b1 b2 = 0 ∧ cycC n d a1 a2 b1 b2 = 1 := by
  unfold cycV cycC; simp [h]
theorem cyc_eq {n d a1 a2 b1 b2 : Int} (h : winOk n d a1 a2 b1 b2 = true) (e : cycE n d a1 a2 b1 b2 = true) : cycV n d a1 a2 b1 b2 = 0 ∧ cycC n d a1 a2 b1 b2 = 0 := by
  unfold cycV cycC; simp [h, e]
theorem cyc_1 {n d a1 a2 b1 b2 : Int} (h : winOk n d a1 a2 b1 b2 = true) (e : cycE n d a1 a2 b1 b2 = false) (f : arcB a1 a2 n d b1 b2 = true) : cycV n d a1 a2 b1 b2 = 1 ∧ cycC n d a1 a2 b1 b2 = 0 := by
  unfold cycV cycC; simp [h, e, f]
theorem cyc_2 {n d a1 a2 b1 b2 : Int} (h : winOk n d a1 a2 b1 b2 = true) (e : cycE n d a1 a2 b1 b2 = false) (f : arcB a1 a2 n d b1 b2 = false) : cycV n d a1 a2 b1 b2 = -1 ∧ cycC n d a1 a2 b1 b2 = 0 := by
  unfold cycV cycC; simp [h, e, f]
theorem cyc_cases (n d a1 a2 b1 b2 : Int) : (cycE n d a1 a2 b1 b2 = true ∧ eqA n d a1 a2 = true) ∨ (cycE n d a1 a2 b1 b2 = true ∧ eqA n d a1 a2 = false ∧ eqA a1 a2 b1 b2 = true) ∨
    (cycE n d a1 a2 b1 b2 = true ∧ eqA n d a1 a2 = false ∧ eqA a1 a2 b1 b2 = false ∧ eqA n d b1 b2 = true) ∨ (cycE n d a1 a2 b1 b2 = false ∧ eqA n d a1 a2 = false ∧ eqA a1 a2 b1 b2 = false ∧ eqA n d b1 b2 = false) := by
  unfold cycE
  cases eqA n d a1 a2 <;> cases eqA a1 a2 b1 b2 <;> cases eqA n d b1 b2 <;> simp

end Go.Proofs.Ytnciiodgkanpjaa

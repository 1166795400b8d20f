/-
  Contracts: the order of angles, arcs.
-/
import Derived.Test.YtdemgialagjomaaW4
import Derived.Deep.RegionHeld3
namespace Go.Proofs.Ytdemgialagjomaa
open Go.RowKit

/-- The order of two integers, as cmp.Compare tells it. -/
def cmpI (x y : Int) : Int := if x < y then -1 else if y < x then 1 else 0
theorem cmpI_neg {x y : Int} (h : x < y) : cmpI x y < 0 := by unfold cmpI; rw [if_pos h]; omega
theorem cmpI_nonneg {x y : Int} (h : ¬ x < y) : 0 ≤ cmpI x y := by unfold cmpI; rw [if_neg h]; split <;> omega
theorem cmpI_range (x y : Int) : -1 ≤ cmpI x y ∧ cmpI x y ≤ 1 := by unfold cmpI; split <;> (try split) <;> omega

/-- The numbers of an angle lie within their bounds. -/
def angOk (n d : Int) : Prop := 1 ≤ d ∧ d ≤ 8191 ∧ 0 ≤ n ∧ n < d
theorem isAng_ok {n d : Int} (h : isAng n d = true) : angOk n d := ⟨(isAng_yes h).1, (isAng_yes h).2.1, (isAng_yes h).2.2.1, (isAng_yes h).2.2.2.1⟩
theorem mul_bound {a b : Int} (ha : 0 ≤ a) (hA : a ≤ 8191) (hb : 0 ≤ b) (hB : b ≤ 8191) : 0 ≤ a * b ∧ a * b ≤ 67092481 :=
  ⟨Int.mul_nonneg ha hb, Int.le_trans (Int.mul_le_mul hA hB hb (by omega)) (by omega)⟩

/-- n/d is less than m/c. -/
def ltA (n d m c : Int) : Bool := decide (n * c < m * d)
/-- x lies in the arc from a to b. -/
def arcB (n d a1 a2 b1 b2 : Int) : Bool := if ltA a1 a2 b1 b2 then ltA a1 a2 n d && ltA n d b1 b2 else ltA a1 a2 n d || ltA n d b1 b2

theorem boxKeep {w W w1 : World} {n d a1 a2 b1 b2 : Int} (hb : Below W.heap.size W w1)
    (h : w.heap.size + 2 < W.heap.size ∧ Below w.heap.size w W ∧ W.cell? ⟨w.heap.size, 0, none⟩ = some (.int .i64 n) ∧ W.cell? ⟨w.heap.size, 1, none⟩ = some (.int .i64 d) ∧
      W.cell? ⟨w.heap.size + 1, 0, none⟩ = some (.int .i64 a1) ∧ W.cell? ⟨w.heap.size + 1, 1, none⟩ = some (.int .i64 a2) ∧ W.cell? ⟨w.heap.size + 1 + 1, 0, none⟩ = some (.int .i64 b1) ∧ W.cell? ⟨w.heap.size + 1 + 1, 1, none⟩ = some (.int .i64 b2)) :
    w.heap.size + 2 < w1.heap.size ∧ Below w.heap.size w w1 ∧ w1.cell? ⟨w.heap.size, 0, none⟩ = some (.int .i64 n) ∧ w1.cell? ⟨w.heap.size, 1, none⟩ = some (.int .i64 d) ∧
      w1.cell? ⟨w.heap.size + 1, 0, none⟩ = some (.int .i64 a1) ∧ w1.cell? ⟨w.heap.size + 1, 1, none⟩ = some (.int .i64 a2) ∧ w1.cell? ⟨w.heap.size + 1 + 1, 0, none⟩ = some (.int .i64 b1) ∧ w1.cell? ⟨w.heap.size + 1 + 1, 1, none⟩ = some (.int .i64 b2) := by
  obtain ⟨hz, hB, h0, h1, h2, h3, h4, h5⟩ := h
  exact ⟨Nat.lt_of_lt_of_le hz hb.size, belowNext hB hb, cellThru hb (by omega) h0, cellThru hb (by omega) h1, cellThru hb (by omega) h2, cellThru hb (by omega) h3, cellThru hb (by omega) h4, cellThru hb (by omega) h5⟩

end Go.Proofs.Ytdemgialagjomaa

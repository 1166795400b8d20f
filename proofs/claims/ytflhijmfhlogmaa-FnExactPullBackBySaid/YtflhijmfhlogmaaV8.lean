/-
  Contracts: lengths of leaves; the walks of the laws of LeafLength and LeafOf.
-/
import Derived.Test.YtflhijmfhlogmaaV7
import Derived.Test.YtflhijmfhlogmaaW14
import Derived.Deep.DeepCutAuto
namespace Go.Proofs.Ytflhijmfhlogmaa
open Go.RowKit

/-- The length, and its code. -/
def llN (a b c d : Int) : Int := if isLf a b c d then disN a b c d else 0
def llD (a b c d : Int) : Int := if isLf a b c d then disD a b c d else 0
def llC (a b c d : Int) : Int := if isLf a b c d then disC a b c d else 1
theorem ll_no {a b c d : Int} (h : isLf a b c d = false) : llN a b c d = 0 ∧ llD a b c d = 0 ∧ llC a b c d = 1 := by
  unfold llN llD llC; simp [h]
theorem ll_yes {a b c d : Int} (h : isLf a b c d = true) : llN a b c d = disN a b c d ∧ llD a b c d = disD a b c d ∧ llC a b c d = disC a b c d := by
  unfold llN llD llC; simp [h]

theorem zThruL {W w1 : World} (hb : Below W.heap.size W w1) : ∀ b, b < W.heap.size → b < w1.heap.size := fun _ h => Nat.lt_of_lt_of_le h hb.size

/-- Two boxed angles, kept. -/
theorem two2 {w W w1 : World} {n d m c : Int} (hb : Below W.heap.size W w1) (h : w.heap.size + 1 < W.heap.size ∧ Below w.heap.size w W ∧ W.cell? ⟨w.heap.size, 0, none⟩ = some (.int .i64 n) ∧ W.cell? ⟨w.heap.size, 1, none⟩ = some (.int .i64 d) ∧ W.cell? ⟨w.heap.size + 1, 0, none⟩ = some (.int .i64 m) ∧ W.cell? ⟨w.heap.size + 1, 1, none⟩ = some (.int .i64 c)) :
    w.heap.size + 1 < w1.heap.size ∧ Below w.heap.size w w1 ∧ w1.cell? ⟨w.heap.size, 0, none⟩ = some (.int .i64 n) ∧ w1.cell? ⟨w.heap.size, 1, none⟩ = some (.int .i64 d) ∧ w1.cell? ⟨w.heap.size + 1, 0, none⟩ = some (.int .i64 m) ∧ w1.cell? ⟨w.heap.size + 1, 1, none⟩ = some (.int .i64 c) := by
  obtain ⟨hz, hB, h0, h1, h2, h3⟩ := h
  exact ⟨Nat.lt_of_lt_of_le hz hb.size, belowNext hB hb, cellThru hb (by omega) h0, cellThru hb (by omega) h1, cellThru hb (by omega) h2, cellThru hb (by omega) h3⟩
end Go.Proofs.Ytflhijmfhlogmaa

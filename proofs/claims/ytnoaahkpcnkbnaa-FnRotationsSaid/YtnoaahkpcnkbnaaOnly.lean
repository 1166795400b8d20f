/-
  Worlds that differ in one block alone.
-/
import Derived.Test.YtnoaahkpcnkbnaaW3
namespace Go.Proofs.Ytnoaahkpcnkbnaa
open Go.RowKit

/-- All blocks but one are as they were. -/
def OnlyB (b : Nat) (w w' : World) : Prop := w'.heap.size = w.heap.size ∧ ∀ i, i ≠ b → w'.heap[i]? = w.heap[i]?
theorem OnlyB.refl (b : Nat) (w : World) : OnlyB b w w := ⟨rfl, fun _ _ => rfl⟩
theorem OnlyB.set {b : Nat} {w w' : World} (h : OnlyB b w w') (o : Nat) (v : Value) : OnlyB b w (w'.setCell ⟨b, o, none⟩ v) := by
  refine ⟨?_, fun i hi => ?_⟩
  · rw [← h.1]; simp [World.setCell]
  · rw [← h.2 i hi]
    unfold World.setCell
    simp only [Array.getElem?_modify]
    rw [if_neg (fun e => hi e.symm)]
theorem OnlyB.cell {b : Nat} {w w' : World} (h : OnlyB b w w') {p : Addr} (hp : p.block ≠ b) : w'.cell? p = w.cell? p := World.cell?_of_block (h.2 _ hp)
theorem OnlyB.frozen {b : Nat} {w w' : World} (h : OnlyB b w w') {p : Addr} (hp : p.block ≠ b) : w'.frozen? p = w.frozen? p := by
  unfold World.frozen?
  rw [h.2 _ hp]
end Go.Proofs.Ytnoaahkpcnkbnaa

/-
  Contracts: ShiftSequence, on both sides; the walk of its law.
-/
import Derived.Test.YtdemgialagjomaaD5
import Derived.Test.YtdemgialagjomaaD7
import Derived.StillTailTactics
namespace Go.Proofs.Ytdemgialagjomaa
open Go.RowKit

/-- The box of a sequence and, behind it, the cell of a result that is still empty. -/
structure BR (w : World) (x y : Wd) (W : World) : Prop where
  lt : w.heap.size + 1 < W.heap.size
  below : Below w.heap.size w W
  b0 : W.cell? ⟨w.heap.size, 0, none⟩ = some (.string (bs x))
  b1 : W.cell? ⟨w.heap.size, 1, none⟩ = some (.string (bs y))
  c0 : W.cell? ⟨w.heap.size + 1, 0, none⟩ = some (.string ⟨#[]⟩)
  c1 : W.cell? ⟨w.heap.size + 1, 1, none⟩ = some (.string ⟨#[]⟩)
  f0 : W.frozen? ⟨w.heap.size + 1, 0, none⟩ = false
  f1 : W.frozen? ⟨w.heap.size + 1, 1, none⟩ = false
theorem BR.next {w W w1 : World} {x y : Wd} (h : BR w x y W) (hb : Below W.heap.size W w1) : BR w x y w1 := by
  have hl := h.lt
  exact ⟨Nat.lt_of_lt_of_le h.lt hb.size, belowNext h.below hb, cellThru hb (by omega) h.b0, cellThru hb (by omega) h.b1, cellThru hb h.lt h.c0, cellThru hb h.lt h.c1, frozThru hb h.lt h.f0, frozThru hb h.lt h.f1⟩
theorem br0 (w : World) (x y : Wd) (T T' : TypeId) : BR w x y ((w.alloc (.cells #[.string (bs x), .string (bs y)] T)).alloc (.cells #[.string ⟨#[]⟩, .string ⟨#[]⟩] T')) :=
  ⟨by simp, belowAlloc (belowAlloc (Below.refl _ _) _) _, by simp [go_sem], by simp [go_sem], by simp [go_sem], by simp [go_sem], by simp [go_sem], by simp [go_sem]⟩

def shX (x y : Wd) : Wd := if isSeq x y = true then x.drop 1 else []
def shY (x y : Wd) : Wd := if isSeq x y = true then (if x.length = 0 then rot1 y else y) else []
def shC (x y : Wd) : Int := if isSeq x y = true then 0 else 1
theorem sh_no {x y : Wd} (h : isSeq x y = false) : shX x y = [] ∧ shY x y = [] ∧ shC x y = 1 := by
  unfold shX shY shC; rw [h]; simp
theorem sh_pre {x y : Wd} (h : isSeq x y = true) (hx : 0 < x.length) : shX x y = x.drop 1 ∧ shY x y = y ∧ shC x y = 0 := by
  unfold shX shY shC
  rw [if_pos h, if_pos h, if_pos h, if_neg (by omega)]
  exact ⟨rfl, rfl, rfl⟩
theorem sh_per {x y : Wd} (h : isSeq x y = true) (hx : x.length = 0) : shX x y = [] ∧ shY x y = rot1 y ∧ shC x y = 0 := by
  unfold shX shY shC
  rw [if_pos h, if_pos h, if_pos h, if_pos hx, List.eq_nil_of_length_eq_zero hx]
  exact ⟨rfl, rfl, rfl⟩

end Go.Proofs.Ytdemgialagjomaa

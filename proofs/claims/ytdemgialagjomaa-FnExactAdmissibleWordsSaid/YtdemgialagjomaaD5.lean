/-
  Contracts: SequenceOf, on both sides; the walk of its law.
-/
import Derived.Test.YtdemgialagjomaaD2
import Derived.Test.YtdemgialagjomaaD3
namespace Go.Proofs.Ytdemgialagjomaa
open Go.RowKit

/-- The cell of a result that is a sequence, still empty. -/
structure ResB (w W : World) : Prop where
  lt : w.heap.size < W.heap.size
  below : Below w.heap.size w W
  c0 : W.cell? ⟨w.heap.size, 0, none⟩ = some (.string ⟨#[]⟩)
  c1 : W.cell? ⟨w.heap.size, 1, none⟩ = some (.string ⟨#[]⟩)
  f0 : W.frozen? ⟨w.heap.size, 0, none⟩ = false
  f1 : W.frozen? ⟨w.heap.size, 1, none⟩ = false
theorem ResB.next {w W w1 : World} (h : ResB w W) (hb : Below W.heap.size W w1) : ResB w w1 :=
  ⟨Nat.lt_of_lt_of_le h.lt hb.size, belowNext h.below hb, cellThru hb h.lt h.c0, cellThru hb h.lt h.c1, frozThru hb h.lt h.f0, frozThru hb h.lt h.f1⟩
theorem resB0 (w : World) (T : TypeId) : ResB w (w.alloc (.cells #[.string ⟨#[]⟩, .string ⟨#[]⟩] T)) :=
  ⟨by simp, belowAlloc (Below.refl _ _) _, by simp [go_sem], by simp [go_sem], by simp [go_sem], by simp [go_sem]⟩

def soS (x y : Wd) : Wd × Wd := if lets x = true ∧ lets y = true ∧ 0 < y.length ∧ x.length + y.length ≤ 64 then canon x y else ([], [])
def soC (x y : Wd) : Int := if lets x = true ∧ lets y = true ∧ 0 < y.length then (if x.length + y.length ≤ 64 then 0 else 3) else 1
theorem so_no {x y : Wd} (h : ¬ (lets x = true ∧ lets y = true ∧ 0 < y.length)) : (soS x y).1 = [] ∧ (soS x y).2 = [] ∧ soC x y = 1 := by
  have : ¬ (lets x = true ∧ lets y = true ∧ 0 < y.length ∧ x.length + y.length ≤ 64) := fun k => h ⟨k.1, k.2.1, k.2.2.1⟩
  unfold soS soC
  rw [if_neg this, if_neg h]
  exact ⟨rfl, rfl, rfl⟩
theorem so_far {x y : Wd} (h : lets x = true ∧ lets y = true ∧ 0 < y.length) (h64 : ¬ x.length + y.length ≤ 64) : (soS x y).1 = [] ∧ (soS x y).2 = [] ∧ soC x y = 3 := by
  have : ¬ (lets x = true ∧ lets y = true ∧ 0 < y.length ∧ x.length + y.length ≤ 64) := fun k => h64 k.2.2.2
  unfold soS soC
  rw [if_neg this, if_pos h, if_neg h64]
  exact ⟨rfl, rfl, rfl⟩
theorem so_yes {x y : Wd} (h : lets x = true ∧ lets y = true ∧ 0 < y.length) (h64 : x.length + y.length ≤ 64) : (soS x y).1 = (canon x y).1 ∧ (soS x y).2 = (canon x y).2 ∧ soC x y = 0 := by
  unfold soS soC
  rw [if_pos ⟨h.1, h.2.1, h.2.2, h64⟩, if_pos h, if_pos h64]
  exact ⟨rfl, rfl, rfl⟩

end Go.Proofs.Ytdemgialagjomaa

/-
  The walks of the exact laws of sums, arcs and orders.
-/
import Derived.Test.YtpladfogajjnnaaW7
import Derived.Deep.DeepCutAuto
namespace Go.Proofs.Ytpladfogajjnnaa
open Go.RowKit

theorem zThru {W w1 : World} (hb : Below W.heap.size W w1) : ∀ b, b < W.heap.size → b < w1.heap.size := fun _ h => Nat.lt_of_lt_of_le h hb.size
theorem storeA {W : World} {g : Nat} {x y X Y : Value} (h0 : W.cell? ⟨g, 0, none⟩ = some x) (h1 : W.cell? ⟨g, 1, none⟩ = some y) :
    ((W.setCell ⟨g, 0, none⟩ X).setCell ⟨g, 1, none⟩ Y).cell? ⟨g, 0, none⟩ = some X ∧ ((W.setCell ⟨g, 0, none⟩ X).setCell ⟨g, 1, none⟩ Y).cell? ⟨g, 1, none⟩ = some Y := by
  have a : (W.setCell ⟨g, 0, none⟩ X).cell? ⟨g, 1, none⟩ = some y := by rw [World.cell?_setCell_other _ _ _ _ (by simp)]; exact h1
  refine ⟨?_, World.cell?_setCell_same _ _ _ a⟩
  rw [World.cell?_setCell_other _ _ _ _ (by simp)]
  exact World.cell?_setCell_same _ _ _ h0

theorem keep2 {w W w1 : World} {n d m c : Int} (hb : Below W.heap.size W w1) (h : w.heap.size + 1 < W.heap.size ∧ Below w.heap.size w W ∧ W.cell? ⟨w.heap.size, 0, none⟩ = some (.int .i64 n) ∧ W.cell? ⟨w.heap.size, 1, none⟩ = some (.int .i64 d) ∧ W.cell? ⟨w.heap.size + 1, 0, none⟩ = some (.int .i64 m) ∧ W.cell? ⟨w.heap.size + 1, 1, none⟩ = some (.int .i64 c)) :
    w.heap.size + 1 < w1.heap.size ∧ Below w.heap.size w w1 ∧ w1.cell? ⟨w.heap.size, 0, none⟩ = some (.int .i64 n) ∧ w1.cell? ⟨w.heap.size, 1, none⟩ = some (.int .i64 d) ∧ w1.cell? ⟨w.heap.size + 1, 0, none⟩ = some (.int .i64 m) ∧ w1.cell? ⟨w.heap.size + 1, 1, none⟩ = some (.int .i64 c) := by
  obtain ⟨hz, hB, h0, h1, h2, h3⟩ := h
  exact ⟨Nat.lt_of_lt_of_le hz hb.size, belowNext hB hb, cellThru hb (by omega) h0, cellThru hb (by omega) h1, cellThru hb (by omega) h2, cellThru hb (by omega) h3⟩
theorem keep2a {w W : World} {n d m c : Int} {o : Obj} (h : w.heap.size + 1 < W.heap.size ∧ Below w.heap.size w W ∧ W.cell? ⟨w.heap.size, 0, none⟩ = some (.int .i64 n) ∧ W.cell? ⟨w.heap.size, 1, none⟩ = some (.int .i64 d) ∧ W.cell? ⟨w.heap.size + 1, 0, none⟩ = some (.int .i64 m) ∧ W.cell? ⟨w.heap.size + 1, 1, none⟩ = some (.int .i64 c)) :
    w.heap.size + 1 < (W.alloc o).heap.size ∧ Below w.heap.size w (W.alloc o) ∧ (W.alloc o).cell? ⟨w.heap.size, 0, none⟩ = some (.int .i64 n) ∧ (W.alloc o).cell? ⟨w.heap.size, 1, none⟩ = some (.int .i64 d) ∧ (W.alloc o).cell? ⟨w.heap.size + 1, 0, none⟩ = some (.int .i64 m) ∧ (W.alloc o).cell? ⟨w.heap.size + 1, 1, none⟩ = some (.int .i64 c) :=
  keep2 (belowAlloc (Below.refl _ _) o) h
theorem keep2s {w W : World} {n d m c : Int} {p : Addr} {u : Value} (hp : w.heap.size + 1 < p.block) (h : w.heap.size + 1 < W.heap.size ∧ Below w.heap.size w W ∧ W.cell? ⟨w.heap.size, 0, none⟩ = some (.int .i64 n) ∧ W.cell? ⟨w.heap.size, 1, none⟩ = some (.int .i64 d) ∧ W.cell? ⟨w.heap.size + 1, 0, none⟩ = some (.int .i64 m) ∧ W.cell? ⟨w.heap.size + 1, 1, none⟩ = some (.int .i64 c)) :
    w.heap.size + 1 < (W.setCell p u).heap.size ∧ Below w.heap.size w (W.setCell p u) ∧ (W.setCell p u).cell? ⟨w.heap.size, 0, none⟩ = some (.int .i64 n) ∧ (W.setCell p u).cell? ⟨w.heap.size, 1, none⟩ = some (.int .i64 d) ∧ (W.setCell p u).cell? ⟨w.heap.size + 1, 0, none⟩ = some (.int .i64 m) ∧ (W.setCell p u).cell? ⟨w.heap.size + 1, 1, none⟩ = some (.int .i64 c) := by
  obtain ⟨hz, hB, h0, h1, h2, h3⟩ := h
  refine ⟨by simpa using hz, hB.setCell (by omega) u, ?_, ?_, ?_, ?_⟩
  · rw [World.cell?_setCell_other _ _ _ _ (fun e => by subst e; simp at hp <;> omega)]; exact h0
  · rw [World.cell?_setCell_other _ _ _ _ (fun e => by subst e; simp at hp <;> omega)]; exact h1
  · rw [World.cell?_setCell_other _ _ _ _ (fun e => by subst e; simp at hp <;> omega)]; exact h2
  · rw [World.cell?_setCell_other _ _ _ _ (fun e => by subst e; simp at hp <;> omega)]; exact h3
theorem keep2d {w W : World} {n d m c : Int} (h : w.heap.size + 1 < W.heap.size ∧ Below w.heap.size w W ∧ W.cell? ⟨w.heap.size, 0, none⟩ = some (.int .i64 n) ∧ W.cell? ⟨w.heap.size, 1, none⟩ = some (.int .i64 d) ∧ W.cell? ⟨w.heap.size + 1, 0, none⟩ = some (.int .i64 m) ∧ W.cell? ⟨w.heap.size + 1, 1, none⟩ = some (.int .i64 c)) :
    w.heap.size + 1 < W.drew.heap.size ∧ Below w.heap.size w W.drew ∧ W.drew.cell? ⟨w.heap.size, 0, none⟩ = some (.int .i64 n) ∧ W.drew.cell? ⟨w.heap.size, 1, none⟩ = some (.int .i64 d) ∧ W.drew.cell? ⟨w.heap.size + 1, 0, none⟩ = some (.int .i64 m) ∧ W.drew.cell? ⟨w.heap.size + 1, 1, none⟩ = some (.int .i64 c) :=
  keep2 (Below.refl _ _).drew h
theorem kept2 {w wc W w1 : World} {n d m c : Int} (hb : Below W.heap.size W w1) (h : w.heap.size + 1 < wc.heap.size ∧ Below wc.heap.size wc W ∧ W.cell? ⟨w.heap.size, 0, none⟩ = some (.int .i64 n) ∧ W.cell? ⟨w.heap.size, 1, none⟩ = some (.int .i64 d) ∧ W.cell? ⟨w.heap.size + 1, 0, none⟩ = some (.int .i64 m) ∧ W.cell? ⟨w.heap.size + 1, 1, none⟩ = some (.int .i64 c)) :
    w.heap.size + 1 < wc.heap.size ∧ Below wc.heap.size wc w1 ∧ w1.cell? ⟨w.heap.size, 0, none⟩ = some (.int .i64 n) ∧ w1.cell? ⟨w.heap.size, 1, none⟩ = some (.int .i64 d) ∧ w1.cell? ⟨w.heap.size + 1, 0, none⟩ = some (.int .i64 m) ∧ w1.cell? ⟨w.heap.size + 1, 1, none⟩ = some (.int .i64 c) := by
  obtain ⟨hz, hB, h0, h1, h2, h3⟩ := h
  have hs := hB.size
  exact ⟨hz, belowNext hB hb, cellThru hb (by omega) h0, cellThru hb (by omega) h1, cellThru hb (by omega) h2, cellThru hb (by omega) h3⟩
theorem kept2a {w wc W : World} {n d m c : Int} {o : Obj} (h : w.heap.size + 1 < wc.heap.size ∧ Below wc.heap.size wc W ∧ W.cell? ⟨w.heap.size, 0, none⟩ = some (.int .i64 n) ∧ W.cell? ⟨w.heap.size, 1, none⟩ = some (.int .i64 d) ∧ W.cell? ⟨w.heap.size + 1, 0, none⟩ = some (.int .i64 m) ∧ W.cell? ⟨w.heap.size + 1, 1, none⟩ = some (.int .i64 c)) :
    w.heap.size + 1 < wc.heap.size ∧ Below wc.heap.size wc (W.alloc o) ∧ (W.alloc o).cell? ⟨w.heap.size, 0, none⟩ = some (.int .i64 n) ∧ (W.alloc o).cell? ⟨w.heap.size, 1, none⟩ = some (.int .i64 d) ∧ (W.alloc o).cell? ⟨w.heap.size + 1, 0, none⟩ = some (.int .i64 m) ∧ (W.alloc o).cell? ⟨w.heap.size + 1, 1, none⟩ = some (.int .i64 c) :=
  kept2 (belowAlloc (Below.refl _ _) o) h
theorem kept2d {w wc W : World} {n d m c : Int} (h : w.heap.size + 1 < wc.heap.size ∧ Below wc.heap.size wc W ∧ W.cell? ⟨w.heap.size, 0, none⟩ = some (.int .i64 n) ∧ W.cell? ⟨w.heap.size, 1, none⟩ = some (.int .i64 d) ∧ W.cell? ⟨w.heap.size + 1, 0, none⟩ = some (.int .i64 m) ∧ W.cell? ⟨w.heap.size + 1, 1, none⟩ = some (.int .i64 c)) :
    w.heap.size + 1 < wc.heap.size ∧ Below wc.heap.size wc W.drew ∧ W.drew.cell? ⟨w.heap.size, 0, none⟩ = some (.int .i64 n) ∧ W.drew.cell? ⟨w.heap.size, 1, none⟩ = some (.int .i64 d) ∧ W.drew.cell? ⟨w.heap.size + 1, 0, none⟩ = some (.int .i64 m) ∧ W.drew.cell? ⟨w.heap.size + 1, 1, none⟩ = some (.int .i64 c) :=
  kept2 (Below.refl _ _).drew h
theorem kept2s {w wc W : World} {n d m c : Int} {p : Addr} {u : Value} (hp : wc.heap.size ≤ p.block) (h : w.heap.size + 1 < wc.heap.size ∧ Below wc.heap.size wc W ∧ W.cell? ⟨w.heap.size, 0, none⟩ = some (.int .i64 n) ∧ W.cell? ⟨w.heap.size, 1, none⟩ = some (.int .i64 d) ∧ W.cell? ⟨w.heap.size + 1, 0, none⟩ = some (.int .i64 m) ∧ W.cell? ⟨w.heap.size + 1, 1, none⟩ = some (.int .i64 c)) :
    w.heap.size + 1 < wc.heap.size ∧ Below wc.heap.size wc (W.setCell p u) ∧ (W.setCell p u).cell? ⟨w.heap.size, 0, none⟩ = some (.int .i64 n) ∧ (W.setCell p u).cell? ⟨w.heap.size, 1, none⟩ = some (.int .i64 d) ∧ (W.setCell p u).cell? ⟨w.heap.size + 1, 0, none⟩ = some (.int .i64 m) ∧ (W.setCell p u).cell? ⟨w.heap.size + 1, 1, none⟩ = some (.int .i64 c) := by
  obtain ⟨hz, hB, h0, h1, h2, h3⟩ := h
  refine ⟨hz, hB.setCell hp u, ?_, ?_, ?_, ?_⟩
  · rw [World.cell?_setCell_other _ _ _ _ (fun e => by subst e; simp at hp <;> omega)]; exact h0
  · rw [World.cell?_setCell_other _ _ _ _ (fun e => by subst e; simp at hp <;> omega)]; exact h1
  · rw [World.cell?_setCell_other _ _ _ _ (fun e => by subst e; simp at hp <;> omega)]; exact h2
  · rw [World.cell?_setCell_other _ _ _ _ (fun e => by subst e; simp at hp <;> omega)]; exact h3
theorem keep3 {w W w1 : World} {n d a1 a2 b1 b2 : Int} (hb : Below W.heap.size W w1) (h : w.heap.size + 2 < W.heap.size ∧ Below w.heap.size w W ∧ W.cell? ⟨w.heap.size, 0, none⟩ = some (.int .i64 n) ∧ W.cell? ⟨w.heap.size, 1, none⟩ = some (.int .i64 d) ∧ W.cell? ⟨w.heap.size + 1, 0, none⟩ = some (.int .i64 a1) ∧ W.cell? ⟨w.heap.size + 1, 1, none⟩ = some (.int .i64 a2) ∧ W.cell? ⟨w.heap.size + 1 + 1, 0, none⟩ = some (.int .i64 b1) ∧ W.cell? ⟨w.heap.size + 1 + 1, 1, none⟩ = some (.int .i64 b2)) :
    w.heap.size + 2 < w1.heap.size ∧ Below w.heap.size w w1 ∧ w1.cell? ⟨w.heap.size, 0, none⟩ = some (.int .i64 n) ∧ w1.cell? ⟨w.heap.size, 1, none⟩ = some (.int .i64 d) ∧ w1.cell? ⟨w.heap.size + 1, 0, none⟩ = some (.int .i64 a1) ∧ w1.cell? ⟨w.heap.size + 1, 1, none⟩ = some (.int .i64 a2) ∧ w1.cell? ⟨w.heap.size + 1 + 1, 0, none⟩ = some (.int .i64 b1) ∧ w1.cell? ⟨w.heap.size + 1 + 1, 1, none⟩ = some (.int .i64 b2) := by
  obtain ⟨hz, hB, h0, h1, h2, h3, h4, h5⟩ := h
  exact ⟨Nat.lt_of_lt_of_le hz hb.size, belowNext hB hb, cellThru hb (by omega) h0, cellThru hb (by omega) h1, cellThru hb (by omega) h2, cellThru hb (by omega) h3, cellThru hb (by omega) h4, cellThru hb (by omega) h5⟩
theorem keep3a {w W : World} {n d a1 a2 b1 b2 : Int} {o : Obj} (h : w.heap.size + 2 < W.heap.size ∧ Below w.heap.size w W ∧ W.cell? ⟨w.heap.size, 0, none⟩ = some (.int .i64 n) ∧ W.cell? ⟨w.heap.size, 1, none⟩ = some (.int .i64 d) ∧ W.cell? ⟨w.heap.size + 1, 0, none⟩ = some (.int .i64 a1) ∧ W.cell? ⟨w.heap.size + 1, 1, none⟩ = some (.int .i64 a2) ∧ W.cell? ⟨w.heap.size + 1 + 1, 0, none⟩ = some (.int .i64 b1) ∧ W.cell? ⟨w.heap.size + 1 + 1, 1, none⟩ = some (.int .i64 b2)) :
    w.heap.size + 2 < (W.alloc o).heap.size ∧ Below w.heap.size w (W.alloc o) ∧ (W.alloc o).cell? ⟨w.heap.size, 0, none⟩ = some (.int .i64 n) ∧ (W.alloc o).cell? ⟨w.heap.size, 1, none⟩ = some (.int .i64 d) ∧ (W.alloc o).cell? ⟨w.heap.size + 1, 0, none⟩ = some (.int .i64 a1) ∧ (W.alloc o).cell? ⟨w.heap.size + 1, 1, none⟩ = some (.int .i64 a2) ∧ (W.alloc o).cell? ⟨w.heap.size + 1 + 1, 0, none⟩ = some (.int .i64 b1) ∧ (W.alloc o).cell? ⟨w.heap.size + 1 + 1, 1, none⟩ = some (.int .i64 b2) :=
  keep3 (belowAlloc (Below.refl _ _) o) h
theorem keep3s {w W : World} {n d a1 a2 b1 b2 : Int} {p : Addr} {u : Value} (hp : w.heap.size + 2 < p.block) (h : w.heap.size + 2 < W.heap.size ∧ Below w.heap.size w W ∧ W.cell? ⟨w.heap.size, 0, none⟩ = some (.int .i64 n) ∧ W.cell? ⟨w.heap.size, 1, none⟩ = some (.int .i64 d) ∧ W.cell? ⟨w.heap.size + 1, 0, none⟩ = some (.int .i64 a1) ∧ W.cell? ⟨w.heap.size + 1, 1, none⟩ = some (.int .i64 a2) ∧ W.cell? ⟨w.heap.size + 1 + 1, 0, none⟩ = some (.int .i64 b1) ∧ W.cell? ⟨w.heap.size + 1 + 1, 1, none⟩ = some (.int .i64 b2)) :
    w.heap.size + 2 < (W.setCell p u).heap.size ∧ Below w.heap.size w (W.setCell p u) ∧ (W.setCell p u).cell? ⟨w.heap.size, 0, none⟩ = some (.int .i64 n) ∧ (W.setCell p u).cell? ⟨w.heap.size, 1, none⟩ = some (.int .i64 d) ∧ (W.setCell p u).cell? ⟨w.heap.size + 1, 0, none⟩ = some (.int .i64 a1) ∧ (W.setCell p u).cell? ⟨w.heap.size + 1, 1, none⟩ = some (.int .i64 a2) ∧ (W.setCell p u).cell? ⟨w.heap.size + 1 + 1, 0, none⟩ = some (.int .i64 b1) ∧ (W.setCell p u).cell? ⟨w.heap.size + 1 + 1, 1, none⟩ = some (.int .i64 b2) := by
  obtain ⟨hz, hB, h0, h1, h2, h3, h4, h5⟩ := h
  refine ⟨by simpa using hz, hB.setCell (by omega) u, ?_, ?_, ?_, ?_, ?_, ?_⟩
  · rw [World.cell?_setCell_other _ _ _ _ (fun e => by subst e; simp at hp <;> omega)]; exact h0
  · rw [World.cell?_setCell_other _ _ _ _ (fun e => by subst e; simp at hp <;> omega)]; exact h1
  · rw [World.cell?_setCell_other _ _ _ _ (fun e => by subst e; simp at hp <;> omega)]; exact h2
  · rw [World.cell?_setCell_other _ _ _ _ (fun e => by subst e; simp at hp <;> omega)]; exact h3
  · rw [World.cell?_setCell_other _ _ _ _ (fun e => by subst e; simp at hp <;> omega)]; exact h4
  · rw [World.cell?_setCell_other _ _ _ _ (fun e => by subst e; simp at hp <;> omega)]; exact h5
theorem keep3d {w W : World} {n d a1 a2 b1 b2 : Int} (h : w.heap.size + 2 < W.heap.size ∧ Below w.heap.size w W ∧ W.cell? ⟨w.heap.size, 0, none⟩ = some (.int .i64 n) ∧ W.cell? ⟨w.heap.size, 1, none⟩ = some (.int .i64 d) ∧ W.cell? ⟨w.heap.size + 1, 0, none⟩ = some (.int .i64 a1) ∧ W.cell? ⟨w.heap.size + 1, 1, none⟩ = some (.int .i64 a2) ∧ W.cell? ⟨w.heap.size + 1 + 1, 0, none⟩ = some (.int .i64 b1) ∧ W.cell? ⟨w.heap.size + 1 + 1, 1, none⟩ = some (.int .i64 b2)) :
    w.heap.size + 2 < W.drew.heap.size ∧ Below w.heap.size w W.drew ∧ W.drew.cell? ⟨w.heap.size, 0, none⟩ = some (.int .i64 n) ∧ W.drew.cell? ⟨w.heap.size, 1, none⟩ = some (.int .i64 d) ∧ W.drew.cell? ⟨w.heap.size + 1, 0, none⟩ = some (.int .i64 a1) ∧ W.drew.cell? ⟨w.heap.size + 1, 1, none⟩ = some (.int .i64 a2) ∧ W.drew.cell? ⟨w.heap.size + 1 + 1, 0, none⟩ = some (.int .i64 b1) ∧ W.drew.cell? ⟨w.heap.size + 1 + 1, 1, none⟩ = some (.int .i64 b2) :=
  keep3 (Below.refl _ _).drew h
theorem kept3 {w wc W w1 : World} {n d a1 a2 b1 b2 : Int} (hb : Below W.heap.size W w1) (h : w.heap.size + 2 < wc.heap.size ∧ Below wc.heap.size wc W ∧ W.cell? ⟨w.heap.size, 0, none⟩ = some (.int .i64 n) ∧ W.cell? ⟨w.heap.size, 1, none⟩ = some (.int .i64 d) ∧ W.cell? ⟨w.heap.size + 1, 0, none⟩ = some (.int .i64 a1) ∧ W.cell? ⟨w.heap.size + 1, 1, none⟩ = some (.int .i64 a2) ∧ W.cell? ⟨w.heap.size + 1 + 1, 0, none⟩ = some (.int .i64 b1) ∧ W.cell? ⟨w.heap.size + 1 + 1, 1, none⟩ = some (.int .i64 b2)) :
    w.heap.size + 2 < wc.heap.size ∧ Below wc.heap.size wc w1 ∧ w1.cell? ⟨w.heap.size, 0, none⟩ = some (.int .i64 n) ∧ w1.cell? ⟨w.heap.size, 1, none⟩ = some (.int .i64 d) ∧ w1.cell? ⟨w.heap.size + 1, 0, none⟩ = some (.int .i64 a1) ∧ w1.cell? ⟨w.heap.size + 1, 1, none⟩ = some (.int .i64 a2) ∧ w1.cell? ⟨w.heap.size + 1 + 1, 0, none⟩ = some (.int .i64 b1) ∧ w1.cell? ⟨w.heap.size + 1 + 1, 1, none⟩ = some (.int .i64 b2) := by
  obtain ⟨hz, hB, h0, h1, h2, h3, h4, h5⟩ := h
  have hs := hB.size
  exact ⟨hz, belowNext hB hb, cellThru hb (by omega) h0, cellThru hb (by omega) h1, cellThru hb (by omega) h2, cellThru hb (by omega) h3, cellThru hb (by omega) h4, cellThru hb (by omega) h5⟩
theorem kept3a {w wc W : World} {n d a1 a2 b1 b2 : Int} {o : Obj} (h : w.heap.size + 2 < wc.heap.size ∧ Below wc.heap.size wc W ∧ W.cell? ⟨w.heap.size, 0, none⟩ = some (.int .i64 n) ∧ W.cell? ⟨w.heap.size, 1, none⟩ = some (.int .i64 d) ∧ W.cell? ⟨w.heap.size + 1, 0, none⟩ = some (.int .i64 a1) ∧ W.cell? ⟨w.heap.size + 1, 1, none⟩ = some (.int .i64 a2) ∧ W.cell? ⟨w.heap.size + 1 + 1, 0, none⟩ = some (.int .i64 b1) ∧ W.cell? ⟨w.heap.size + 1 + 1, 1, none⟩ = some (.int .i64 b2)) :
    w.heap.size + 2 < wc.heap.size ∧ Below wc.heap.size wc (W.alloc o) ∧ (W.alloc o).cell? ⟨w.heap.size, 0, none⟩ = some (.int .i64 n) ∧ (W.alloc o).cell? ⟨w.heap.size, 1, none⟩ = some (.int .i64 d) ∧ (W.alloc o).cell? ⟨w.heap.size + 1, 0, none⟩ = some (.int .i64 a1) ∧ (W.alloc o).cell? ⟨w.heap.size + 1, 1, none⟩ = some (.int .i64 a2) ∧ (W.alloc o).cell? ⟨w.heap.size + 1 + 1, 0, none⟩ = some (.int .i64 b1) ∧ (W.alloc o).cell? ⟨w.heap.size + 1 + 1, 1, none⟩ = some (.int .i64 b2) :=
  kept3 (belowAlloc (Below.refl _ _) o) h
theorem kept3d {w wc W : World} {n d a1 a2 b1 b2 : Int} (h : w.heap.size + 2 < wc.heap.size ∧ Below wc.heap.size wc W ∧ W.cell? ⟨w.heap.size, 0, none⟩ = some (.int .i64 n) ∧ W.cell? ⟨w.heap.size, 1, none⟩ = some (.int .i64 d) ∧ W.cell? ⟨w.heap.size + 1, 0, none⟩ = some (.int .i64 a1) ∧ W.cell? ⟨w.heap.size + 1, 1, none⟩ = some (.int .i64 a2) ∧ W.cell? ⟨w.heap.size + 1 + 1, 0, none⟩ = some (.int .i64 b1) ∧ W.cell? ⟨w.heap.size + 1 + 1, 1, none⟩ = some (.int .i64 b2)) :
    w.heap.size + 2 < wc.heap.size ∧ Below wc.heap.size wc W.drew ∧ W.drew.cell? ⟨w.heap.size, 0, none⟩ = some (.int .i64 n) ∧ W.drew.cell? ⟨w.heap.size, 1, none⟩ = some (.int .i64 d) ∧ W.drew.cell? ⟨w.heap.size + 1, 0, none⟩ = some (.int .i64 a1) ∧ W.drew.cell? ⟨w.heap.size + 1, 1, none⟩ = some (.int .i64 a2) ∧ W.drew.cell? ⟨w.heap.size + 1 + 1, 0, none⟩ = some (.int .i64 b1) ∧ W.drew.cell? ⟨w.heap.size + 1 + 1, 1, none⟩ = some (.int .i64 b2) :=
  kept3 (Below.refl _ _).drew h
theorem kept3s {w wc W : World} {n d a1 a2 b1 b2 : Int} {p : Addr} {u : Value} (hp : wc.heap.size ≤ p.block) (h : w.heap.size + 2 < wc.heap.size ∧ Below wc.heap.size wc W ∧ W.cell? ⟨w.heap.size, 0, none⟩ = some (.int .i64 n) ∧ W.cell? ⟨w.heap.size, 1, none⟩ = some (.int .i64 d) ∧ W.cell? ⟨w.heap.size + 1, 0, none⟩ = some (.int .i64 a1) ∧ W.cell? ⟨w.heap.size + 1, 1, none⟩ = some (.int .i64 a2) ∧ W.cell? ⟨w.heap.size + 1 + 1, 0, none⟩ = some (.int .i64 b1) ∧ W.cell? ⟨w.heap.size + 1 + 1, 1, none⟩ = some (.int .i64 b2)) :
    w.heap.size + 2 < wc.heap.size ∧ Below wc.heap.size wc (W.setCell p u) ∧ (W.setCell p u).cell? ⟨w.heap.size, 0, none⟩ = some (.int .i64 n) ∧ (W.setCell p u).cell? ⟨w.heap.size, 1, none⟩ = some (.int .i64 d) ∧ (W.setCell p u).cell? ⟨w.heap.size + 1, 0, none⟩ = some (.int .i64 a1) ∧ (W.setCell p u).cell? ⟨w.heap.size + 1, 1, none⟩ = some (.int .i64 a2) ∧ (W.setCell p u).cell? ⟨w.heap.size + 1 + 1, 0, none⟩ = some (.int .i64 b1) ∧ (W.setCell p u).cell? ⟨w.heap.size + 1 + 1, 1, none⟩ = some (.int .i64 b2) := by
  obtain ⟨hz, hB, h0, h1, h2, h3, h4, h5⟩ := h
  refine ⟨hz, hB.setCell hp u, ?_, ?_, ?_, ?_, ?_, ?_⟩
  · rw [World.cell?_setCell_other _ _ _ _ (fun e => by subst e; simp at hp <;> omega)]; exact h0
  · rw [World.cell?_setCell_other _ _ _ _ (fun e => by subst e; simp at hp <;> omega)]; exact h1
  · rw [World.cell?_setCell_other _ _ _ _ (fun e => by subst e; simp at hp <;> omega)]; exact h2
  · rw [World.cell?_setCell_other _ _ _ _ (fun e => by subst e; simp at hp <;> omega)]; exact h3
  · rw [World.cell?_setCell_other _ _ _ _ (fun e => by subst e; simp at hp <;> omega)]; exact h4
  · rw [World.cell?_setCell_other _ _ _ _ (fun e => by subst e; simp at hp <;> omega)]; exact h5

set_option maxHeartbeats 2000000 in
theorem lawAddAngles (n d : Int) (_ : (Lit.int .i64 n).wf = true) (_ : (Lit.int .i64 d).wf = true) (m c : Int) (_ : (Lit.int .i64 m).wf = true) (_ : (Lit.int .i64 c).wf = true) (w : World) :
    Calls Try.prog 6 #[ang n d, ang m c] w fun e w' => e = .returned (.bool true) ∧ Below w.heap.size w w' := by
  have HA := Lib.hid (fun w => specAdd n d m c w)
  have HB := Lib.hid (fun w => implAdd n d m c w)
  generalize sumN n d m c = X at *
  generalize sumD n d m c = Y at *
  generalize sumC n d m c = C at *
  go_enter Try.func6, Try.ntmps6
  go_upto_region 1 with fail
  go_cut [5, 6] (fun s5 s6 wx => (∃ g : Nat, s5 = .pointer (some ⟨g, 0, none⟩) ∧ w.heap.size + 1 < g ∧ g < wx.heap.size ∧ wx.cell? ⟨g, 0, none⟩ = some (.int .i64 X) ∧ wx.cell? ⟨g, 1, none⟩ = some (.int .i64 Y)) ∧ s6 = .int .i64 C ∧ w.heap.size + 1 < wx.heap.size ∧ Below w.heap.size w wx ∧ wx.cell? ⟨w.heap.size, 0, none⟩ = some (.int .i64 n) ∧ wx.cell? ⟨w.heap.size, 1, none⟩ = some (.int .i64 d) ∧ wx.cell? ⟨w.heap.size + 1, 0, none⟩ = some (.int .i64 m) ∧ wx.cell? ⟨w.heap.size + 1, 1, none⟩ = some (.int .i64 c))
  case first =>
    go_region_held3 (fun w' => w.heap.size + 1 < w'.heap.size ∧ Below w.heap.size w w' ∧ w'.cell? ⟨w.heap.size, 0, none⟩ = some (.int .i64 n) ∧ w'.cell? ⟨w.heap.size, 1, none⟩ = some (.int .i64 d) ∧ w'.cell? ⟨w.heap.size + 1, 0, none⟩ = some (.int .i64 m) ∧ w'.cell? ⟨w.heap.size + 1, 1, none⟩ = some (.int .i64 c))
      (first | exact keep2 (by assumption) (by assumption) | ((with_reducible refine keep2a ?_); (repeat' (with_reducible refine keep2a ?_)); assumption) | ((with_reducible refine keep2d ?_); (repeat' (with_reducible refine keep2a ?_)); first | assumption | (refine ⟨?_, ?_, ?_, ?_, ?_, ?_⟩ <;> first | assumption | exact Below.refl _ _)) | ((with_reducible refine keep2s ?_ (keep2s ?_ ?_)) <;> first | assumption | (dsimp only; omega)) | (refine ⟨?_, ?_, ?_, ?_, ?_, ?_⟩ <;> first | assumption | (simp [go_sem]; done) | (simp [go_sem, *]; done) | (repeat' (first | (with_reducible exact Below.refl _ _) | (with_reducible assumption) | (with_reducible refine belowNext ?_ (by with_reducible assumption)) | (with_reducible refine belowAlloc ?_ _) | (with_reducible refine Below.drew ?_) | (with_reducible refine below_drewN ?_ _) | (with_reducible refine Below.setCell ?_ ?_ _) | go_size | (with_reducible refine sizeOf' ?_) | (with_reducible refine sizeAdd ?_) | (dsimp only; first | (with_reducible refine sizeOf' ?_) | (with_reducible refine sizeAdd ?_))))))
      (first
      | (go_at_call 39; (with_reducible refine (toAngX _ _ _).mono ?_); rintro e w1 ⟨rfl, rfl⟩)
      | (go_at_call 32; (with_reducible refine (HA.out _).mono ?_); rintro e w2 ⟨rfl, hb2⟩; have hS2 := keep2 hb2 (by assumption); obtain ⟨hc2, hf2⟩ := bcell hb2; have hz2 := zThru hb2))
    all_goals
      go_wp2_with fail
      go_meet
      refine ⟨⟨_, rfl, ?_, ?_, ?_, ?_⟩, rfl, by assumption⟩ <;> first | (go_simp; done) | (simp; omega)
  case rest =>
    obtain ⟨⟨g, rfl, hg1, hg2, k0, k1⟩, rfl, hz, hB, c0, c1, c2, c3⟩ := hcut
    generalize wc = wb at *
    go_upto_region 2 with fail
    go_cut [7, 8] (fun s7 s8 wx => (∃ g : Nat, s7 = .pointer (some ⟨g, 0, none⟩) ∧ wx.cell? ⟨g, 0, none⟩ = some (.int .i64 X) ∧ wx.cell? ⟨g, 1, none⟩ = some (.int .i64 Y)) ∧ s8 = .int .i64 C ∧ Below wb.heap.size wb wx)
    case first =>
      go_region_held3 (fun w' => w.heap.size + 1 < wb.heap.size ∧ Below wb.heap.size wb w' ∧ w'.cell? ⟨w.heap.size, 0, none⟩ = some (.int .i64 n) ∧ w'.cell? ⟨w.heap.size, 1, none⟩ = some (.int .i64 d) ∧ w'.cell? ⟨w.heap.size + 1, 0, none⟩ = some (.int .i64 m) ∧ w'.cell? ⟨w.heap.size + 1, 1, none⟩ = some (.int .i64 c))
        (first | exact kept2 (by assumption) (by assumption) | ((with_reducible refine kept2a ?_); (repeat' (with_reducible refine kept2a ?_)); assumption) | ((with_reducible refine kept2d ?_); (repeat' (with_reducible refine kept2a ?_)); first | assumption | (refine ⟨?_, ?_, ?_, ?_, ?_, ?_⟩ <;> first | assumption | exact Below.refl _ _)) | ((with_reducible refine kept2s ?_ (kept2s ?_ ?_)) <;> first | assumption | (dsimp only; omega) | (simp only [World.size_alloc, World.size_setCell, World.size_drew]; omega)) | (refine ⟨?_, ?_, ?_, ?_, ?_, ?_⟩ <;> first | assumption | (simp [go_sem]; done) | (simp [go_sem, *]; done) | (repeat' (first | (with_reducible exact Below.refl _ _) | (with_reducible assumption) | (with_reducible refine belowNext ?_ (by with_reducible assumption)) | (with_reducible refine belowAlloc ?_ _) | (with_reducible refine Below.drew ?_) | (with_reducible refine below_drewN ?_ _) | (with_reducible refine Below.setCell ?_ ?_ _) | go_size | (with_reducible refine sizeOf' ?_) | (with_reducible refine sizeAdd ?_) | (dsimp only; first | (with_reducible refine sizeOf' ?_) | (with_reducible refine sizeAdd ?_))))))
        (first
      | (go_at_call 39; (with_reducible refine (toAngX _ _ _).mono ?_); rintro e w1 ⟨rfl, rfl⟩)
      | (go_at_call 31; (with_reducible refine (HB.out _).mono ?_); rintro e w3 ⟨rfl, hb3⟩; have hS3 := kept2 hb3 (by assumption); obtain ⟨hc3, hf3⟩ := bcell hb3; have hz3 := zThru hb3))
      all_goals
        rename_i hHeld
        have hBc := hHeld.2.1
        clear hHeld
        go_wp2_with fail
        go_meet
        refine ⟨⟨_, rfl, ?_, ?_⟩, rfl, hBc⟩
        · first | (go_simp; done) | exact (storeA (x := .int .i64 0) (y := .int .i64 0) (cellThru hb3 (by simp <;> omega) (by simp [go_sem])) (cellThru hb3 (by simp <;> omega) (by simp [go_sem]))).1
        · first | (go_simp; done) | exact (storeA (x := .int .i64 0) (y := .int .i64 0) (cellThru hb3 (by simp <;> omega) (by simp [go_sem])) (cellThru hb3 (by simp <;> omega) (by simp [go_sem]))).2
    case rest =>
      obtain ⟨⟨g', rfl, k2, k3⟩, rfl, hBc⟩ := hcut
      have g0 := cellThru hBc hg2 k0
      have g1 := cellThru hBc hg2 k1
      go_wp2_with fail
      refine (eqAngSame _ _ _).mono ?_
      rintro e w4 ⟨rfl, hb4⟩
      go_wp2
      go_ret
      refine ⟨rfl, ?_⟩
      (repeat' (first | (with_reducible exact Below.refl _ _) | (with_reducible assumption) | (with_reducible refine belowNext ?_ (by with_reducible assumption)) | (with_reducible refine belowAlloc ?_ _) | (with_reducible refine Below.drew ?_) | (with_reducible refine below_drewN ?_ _) | (with_reducible refine Below.setCell ?_ ?_ _) | go_size | (with_reducible refine sizeOf' ?_) | (with_reducible refine sizeAdd ?_) | (dsimp only; first | (with_reducible refine sizeOf' ?_) | (with_reducible refine sizeAdd ?_))))
end Go.Proofs.Ytpladfogajjnnaa

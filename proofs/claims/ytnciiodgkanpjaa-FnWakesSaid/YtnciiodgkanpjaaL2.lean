/-
  The walks of the exact laws of sums, arcs and orders.
-/
import Derived.Test.YtnciiodgkanpjaaW7
import Derived.Deep.DeepCutAuto
namespace Go.Proofs.Ytnciiodgkanpjaa
open Go.RowKit

theorem zThru {W w1 : World} (hb : Below W.heap.size W w1) : ∀ b, b < W.heap.size → b < w1.heap.size := fun _ h => Nat.lt_of_lt_of_le h hb.size
theorem storeA {W : World} {g : Nat} {x y X Y : Value} (h0 : W.cell? ⟨g, 0, none⟩ = some x) (h1 : W.cell? ⟨g, 1, none⟩ = some y) :
    ((W.setCell ⟨g, 0, none⟩ X).setCell ⟨g, 1, none⟩ Y).cell? ⟨g, 0, none⟩ = some X ∧ ((W.setCell ⟨g, 0, none⟩ X).setCell ⟨g, 1, none⟩ Y).cell? ⟨g, 1, none⟩ = some Y := by
  have a : (W.setCell ⟨g, 0, none⟩ X).cell? ⟨g, 1, none⟩ = some y := by rw [World.cell?_setCell_other _ _ _ _ (by simp)]; exact h1
  refine ⟨?_, World.cell?_setCell_same _ _ _ a⟩
  rw [World.cell?_setCell_other _ _ _ _ (by simp)]
  exact World.cell?_setCell_same _ _ _ h0

theorem keep2 {w W w1 : World} {n d m c : Int} (hb : Below W.heap.size W w1) (h : w.heap.size + 1 < W.heap.size ∧ Below w.heap.size w W ∧ W.cell? ⟨w.heap.size, 0, none⟩ = some (.int .i64 n) ∧ W.cell? ⟨w.heap.size, 1, none⟩ = some (.int .i64 d) ∧ W.cell? ⟨w.heap.size + 1, 0, none⟩ = some (.int .i64 m) ∧ W.cell? ⟨w.heap.size + 1, 1, none⟩ = some (.int .i64 c)) :
    w.heap.size + 1 < w1.heap.size ∧ Below w.heap.size w w1 ∧ w1.cell? ⟨w.heap.size, 0, none⟩ = some (.int .i64 n) ∧ w1.cell? ⟨w.heap.size, 1, none⟩ = some (.int .i64 d) ∧ w1.cell? ⟨w.heap.size + 1, 0, none⟩ = some (.int .i64 m) ∧ w1.cell? ⟨w.heap.size + 1, 1, none⟩ = some (.int .i64 c) := by
  obtain ⟨hz, hB, h0, h1, h2, h3⟩ := h
  exact ⟨Nat.lt_of_lt_of_le hz hb.size, belowNext hB hb, cellThru hb (by omega) h0, cellThru hb (by omega) h1, cellThru hb (by omega) h2, cellThru hb (by omega) h3⟩
theorem keep2a {w W : World} {n d m c : Int} {o : Obj} (h : w.heap.size + 1 < W.heap.size ∧ Below w.heap.size w W ∧ W.cell? ⟨w.heap.size, 0, none⟩ = some (.int .i64 n) ∧ W.cell? ⟨w.heap.size, 1, none⟩ = some (.int .i64 d) ∧ W.cell? ⟨w.heap.size + 1, 0, none⟩ = some (.int .i64 m) ∧ W.cell? ⟨w.heap.size + 1, 1, none⟩ = some (.int .i64 c)) :
    w.heap.size + 1 < (W.alloc o).heap.size ∧ Below w.heap.size w (W.alloc o) ∧ (W.alloc o).cell? ⟨w.heap.size, 0, none⟩ = some (.int .i64 n) ∧ (W.alloc o).cell? ⟨w.heap.size, 1, none⟩ = some (.int .i64 d) ∧ (W.alloc o).cell? ⟨w.heap.size + 1, 0, none⟩ = some (.int .i64 m) ∧ (W.alloc o).cell? ⟨w.heap.size + 1, 1, none⟩ = some (.int .i64 c) :=
  keep2 (belowAlloc (Below.refl _ _) o) h
theorem keep2s {w W : World} {n d m c : Int} {p : Addr} {u : Value} (hp : w.heap.size + 1 < p.block) (h : w.heap.size + 1 < W.heap.size ∧ Below w.heap.size w W ∧ W.cell? ⟨w.heap.size, 0, none⟩ = some (.int .i64 n) ∧ W.cell? ⟨w.heap.size, 1, none⟩ = some (.int .i64 d) ∧ W.cell? ⟨w.heap.size + 1, 0, none⟩ = some (.int .i64 m) ∧ W.cell? ⟨w.heap.size + 1, 1, none⟩ = some (.int .i64 c)) :
    w.heap.size + 1 < (W.setCell p u).heap.size ∧ Below w.heap.size w (W.setCell p u) ∧ (W.setCell p u).cell? ⟨w.heap.size, 0, none⟩ = some (.int .i64 n) ∧ (W.setCell p u).cell? ⟨w.heap.size, 1, none⟩ = some (.int .i64 d) ∧ (W.setCell p u).cell? ⟨w.heap.size + 1, 0, none⟩ = some (.int .i64 m) ∧ (W.setCell p u).cell? ⟨w.heap.size + 1, 1, none⟩ = some (.int .i64 c) := by
  obtain ⟨hz, hB, h0, h1, h2, h3⟩ := h
  refine ⟨by simpa using hz, hB.setCell (by omega) u, ?_, ?_, ?_, ?_⟩
  · rw [World.cell?_setCell_other _ _ _ _ (fun e => by subst e; simp at hp <;> omega)]; exact h0
  · rw [World.cell?_setCell_other _ _ _ _ (fun e => by subst e; simp at hp <;> omega)]; exact h1
  · rw [World.cell?_setCell_other _ _ _ _ (fun e => by subst e; simp at hp <;> omega)]; exact h2
  · rw [World.cell?_setCell_other _ _ _ _ (fun e => by subst e; simp at hp <;> omega)]; exact h3
theorem keep2d {w W : World} {n d m c : Int} (h : w.heap.size + 1 < W.heap.size ∧ Below w.heap.size w W ∧ W.cell? ⟨w.heap.size, 0, none⟩ = some (.int .i64 n) ∧ W.cell? ⟨w.heap.size, 1, none⟩ = some (.int .i64 d) ∧ W.cell? ⟨w.heap.size + 1, 0, none⟩ = some (.int .i64 m) ∧ W.cell? ⟨w.heap.size + 1, 1, none⟩ = some (.int .i64 c)) :
    w.heap.size + 1 < W.drew.heap.size ∧ Below w.heap.size w W.drew ∧ W.drew.cell? ⟨w.heap.size, 0, none⟩ = some (.int .i64 n) ∧ W.drew.cell? ⟨w.heap.size, 1, none⟩ = some (.int .i64 d) ∧ W.drew.cell? ⟨w.heap.size + 1, 0, none⟩ = some (.int .i64 m) ∧ W.drew.cell? ⟨w.heap.size + 1, 1, none⟩ = some (.int .i64 c) :=
  keep2 (Below.refl _ _).drew h
theorem kept2 {w wc W w1 : World} {n d m c : Int} (hb : Below W.heap.size W w1) (h : w.heap.size + 1 < wc.heap.size ∧ Below wc.heap.size wc W ∧ W.cell? ⟨w.heap.size, 0, none⟩ = some (.int .i64 n) ∧ W.cell? ⟨w.heap.size, 1, none⟩ = some (.int .i64 d) ∧ W.cell? ⟨w.heap.size + 1, 0, none⟩ = some (.int .i64 m) ∧ W.cell? ⟨w.heap.size + 1, 1, none⟩ = some (.int .i64 c)) :
    w.heap.size + 1 < wc.heap.size ∧ Below wc.heap.size wc w1 ∧ w1.cell? ⟨w.heap.size, 0, none⟩ = some (.int .i64 n) ∧ w1.cell? ⟨w.heap.size, 1, none⟩ = some (.int .i64 d) ∧ w1.cell? ⟨w.heap.size + 1, 0, none⟩ = some (.int .i64 m) ∧ w1.cell? ⟨w.heap.size + 1, 1, none⟩ = some (.int .i64 c) := by
  obtain ⟨hz, hB, h0, h1, h2, h3⟩ := h
  have hs := hB.size
  exact ⟨hz, belowNext hB hb, cellThru hb (by omega) h0, cellThru hb (by omega) h1, cellThru hb (by omega) h2, cellThru hb (by omega) h3⟩
theorem kept2a {w wc W : World} {n d m c : Int} {o : Obj} (h : w.heap.size + 1 < wc.heap.size ∧ Below wc.heap.size wc W ∧ W.cell? ⟨w.heap.size, 0, none⟩ = some (.int .i64 n) ∧ W.cell? ⟨w.heap.size, 1, none⟩ = some (.int .i64 d) ∧ W.cell? ⟨w.heap.size + 1, 0, none⟩ = some (.int .i64 m) ∧ W.cell? ⟨w.heap.size + 1, 1, none⟩ = some (.int .i64 c)) :
    w.heap.size + 1 < wc.heap.size ∧ Below wc.heap.size wc (W.alloc o) ∧ (W.alloc o).cell? ⟨w.heap.size, 0, none⟩ = some (.int .i64 n) ∧ (W.alloc o).cell? ⟨w.heap.size, 1, none⟩ = some (.int .i64 d) ∧ (W.alloc o).cell? ⟨w.heap.size + 1, 0, none⟩ = some (.int .i64 m) ∧ (W.alloc o).cell? ⟨w.heap.size + 1, 1, none⟩ = some (.int .i64 c) :=
  kept2 (belowAlloc (Below.refl _ _) o) h
theorem kept2d {w wc W : World} {n d m c : Int} (h : w.heap.size + 1 < wc.heap.size ∧ Below wc.heap.size wc W ∧ W.cell? ⟨w.heap.size, 0, none⟩ = some (.int .i64 n) ∧ W.cell? ⟨w.heap.size, 1, none⟩ = some (.int .i64 d) ∧ W.cell? ⟨w.heap.size + 1, 0, none⟩ = some (.int .i64 m) ∧ W.cell? ⟨w.heap.size + 1, 1, none⟩ = some (.int .i64 c)) :
    w.heap.size + 1 < wc.heap.size ∧ Below wc.heap.size wc W.drew ∧ W.drew.cell? ⟨w.heap.size, 0, none⟩ = some (.int .i64 n) ∧ W.drew.cell? ⟨w.heap.size, 1, none⟩ = some (.int .i64 d) ∧ W.drew.cell? ⟨w.heap.size + 1, 0, none⟩ = some (.int .i64 m) ∧ W.drew.cell? ⟨w.heap.size + 1, 1, none⟩ = some (.int .i64 c) :=
  kept2 (Below.refl _ _).drew h
theorem kept2s {w wc W : World} {n d m c : Int} {p : Addr} {u : Value} (hp : wc.heap.size ≤ p.block) (h : w.heap.size + 1 < wc.heap.size ∧ Below wc.heap.size wc W ∧ W.cell? ⟨w.heap.size, 0, none⟩ = some (.int .i64 n) ∧ W.cell? ⟨w.heap.size, 1, none⟩ = some (.int .i64 d) ∧ W.cell? ⟨w.heap.size + 1, 0, none⟩ = some (.int .i64 m) ∧ W.cell? ⟨w.heap.size + 1, 1, none⟩ = some (.int .i64 c)) :
    w.heap.size + 1 < wc.heap.size ∧ Below wc.heap.size wc (W.setCell p u) ∧ (W.setCell p u).cell? ⟨w.heap.size, 0, none⟩ = some (.int .i64 n) ∧ (W.setCell p u).cell? ⟨w.heap.size, 1, none⟩ = some (.int .i64 d) ∧ (W.setCell p u).cell? ⟨w.heap.size + 1, 0, none⟩ = some (.int .i64 m) ∧ (W.setCell p u).cell? ⟨w.heap.size + 1, 1, none⟩ = some (.int .i64 c) := by
  obtain ⟨hz, hB, h0, h1, h2, h3⟩ := h
  refine ⟨hz, hB.setCell hp u, ?_, ?_, ?_, ?_⟩
  · rw [World.cell?_setCell_other _ _ _ _ (fun e => by subst e; simp at hp <;> omega)]; exact h0
  · rw [World.cell?_setCell_other _ _ _ _ (fun e => by subst e; simp at hp <;> omega)]; exact h1
  · rw [World.cell?_setCell_other _ _ _ _ (fun e => by subst e; simp at hp <;> omega)]; exact h2
  · rw [World.cell?_setCell_other _ _ _ _ (fun e => by subst e; simp at hp <;> omega)]; exact h3
theorem keep3 {w W w1 : World} {n d a1 a2 b1 b2 : Int} (hb : Below W.heap.size W w1) (h : w.heap.size + 2 < W.heap.size ∧ Below w.heap.size w W ∧ W.cell? ⟨w.heap.size, 0, none⟩ = some (.int .i64 n) ∧ W.cell? ⟨w.heap.size, 1, none⟩ = some (.int .i64 d) ∧ W.cell? ⟨w.heap.size + 1, 0, none⟩ = some (.int .i64 a1) ∧ W.cell? ⟨w.heap.size + 1, 1, none⟩ = some (.int .i64 a2) ∧ W.cell? ⟨w.heap.size + 1 + 1, 0, none⟩ = some (.int .i64 b1) ∧ W.cell? ⟨w.heap.size + 1 + 1, 1, none⟩ = some (.int .i64 b2)) :
    w.heap.size + 2 < w1.heap.size ∧ Below w.heap.size w w1 ∧ w1.cell? ⟨w.heap.size, 0, none⟩ = some (.int .i64 n) ∧ w1.cell? ⟨w.heap.size, 1, none⟩ = some (.int .i64 d) ∧ w1.cell? ⟨w.heap.size + 1, 0, none⟩ = some (.int .i64 a1) ∧ w1.cell? ⟨w.heap.size + 1, 1, none⟩ = some (.int .i64 a2) ∧ w1.cell? ⟨w.heap.size + 1 + 1, 0, none⟩ = some (.int .i64 b1) ∧ w1.cell? ⟨w.heap.size + 1 + 1, 1, none⟩ = some (.int .i64 b2) := by
  obtain ⟨hz, hB, h0, h1, h2, h3, h4, h5⟩ := h
  exact ⟨Nat.lt_of_lt_of_le hz hb.size, belowNext hB hb, cellThru hb (by omega) h0, cellThru hb (by omega) h1, cellThru hb (by omega) h2, cellThru hb (by omega) h3, cellThru hb (by omega) h4, cellThru hb (by omega) h5⟩
theorem keep3a {w W : World} {n d a1 a2 b1 b2 : Int} {o : Obj} (h : w.heap.size + 2 < W.heap.size ∧ Below w.heap.size w W ∧ W.cell? ⟨w.heap.size, 0, none⟩ = some (.int .i64 n) ∧ W.cell? ⟨w.heap.size, 1, none⟩ = some (.int .i64 d) ∧ W.cell? ⟨w.heap.size + 1, 0, none⟩ = some (.int .i64 a1) ∧ W.cell? ⟨w.heap.size + 1, 1, none⟩ = some (.int .i64 a2) ∧ W.cell? ⟨w.heap.size + 1 + 1, 0, none⟩ = some (.int .i64 b1) ∧ W.cell? ⟨w.heap.size + 1 + 1, 1, none⟩ = some (.int .i64 b2)) :
    w.heap.size + 2 < (W.alloc o).heap.size ∧ Below w.heap.size w (W.alloc o) ∧ (W.alloc o).cell? ⟨w.heap.size, 0, none⟩ = some (.int .i64 n) ∧ (W.alloc o).cell? ⟨w.heap.size, 1, none⟩ = some (.int .i64 d) ∧ (W.alloc o).cell? ⟨w.heap.size + 1, 0, none⟩ = some (.int .i64 a1) ∧ (W.alloc o).cell? ⟨w.heap.size + 1, 1, none⟩ = some (.int .i64 a2) ∧ (W.alloc o).cell? ⟨w.heap.size + 1 + 1, 0, none⟩ = some (.int .i64 b1) ∧ (W.alloc o).cell? ⟨w.heap.size + 1 + 1, 1, none⟩ = some (.int .i64 b2) :=
  keep3 (belowAlloc (Below.refl _ _) o) h
theorem keep3s {w W : World} {n d a1 a2 b1 b2 : Int} {p : Addr} {u : Value} (hp : w.heap.size + 2 < p.block) (h : w.heap.size + 2 < W.heap.size ∧ Below w.heap.size w W ∧ W.cell? ⟨w.heap.size, 0, none⟩ = some (.int .i64 n) ∧ W.cell? ⟨w.heap.size, 1, none⟩ = some (.int .i64 d) ∧ W.cell? ⟨w.heap.size + 1, 0, none⟩ = some (.int .i64 a1) ∧ W.cell? ⟨w.heap.size + 1, 1, none⟩ = some (.int .i64 a2) ∧ W.cell? ⟨w.heap.size + 1 + 1, 0, none⟩ = some (.int .i64 b1) ∧ W.cell? ⟨w.heap.size + 1 + 1, 1, none⟩ = some (.int .i64 b2)) :
    w.heap.size + 2 < (W.setCell p u).heap.size ∧ Below w.heap.size w (W.setCell p u) ∧ (W.setCell p u).cell? ⟨w.heap.size, 0, none⟩ = some (.int .i64 n) ∧ (W.setCell p u).cell? ⟨w.heap.size, 1, none⟩ = some (.int .i64 d) ∧ (W.setCell p u).cell? ⟨w.heap.size + 1, 0, none⟩ = some (.int .i64 a1) ∧ (W.setCell p u).cell? ⟨w.heap.size + 1, 1, none⟩ = some (.int .i64 a2) ∧ (W.setCell p u).cell? ⟨w.heap.size + 1 + 1, 0, none⟩ = some (.int .i64 b1) ∧ (W.setCell p u).cell? ⟨w.heap.size + 1 + 1, 1, none⟩ = some (.int .i64 b2) := by
  obtain ⟨hz, hB, h0, h1, h2, h3, h4, h5⟩ := h
  refine ⟨by simpa using hz, hB.setCell (by omega) u, ?_, ?_, ?_, ?_, ?_, ?_⟩
  · rw [World.cell?_setCell_other _ _ _ _ (fun e => by subst e; simp at hp <;> omega)]; exact h0
  · rw [World.cell?_setCell_other _ _ _ _ (fun e => by subst e; simp at hp <;> omega)]; exact h1
  · rw [World.cell?_setCell_other _ _ _ _ (fun e => by subst e; simp at hp <;> omega)]; exact h2
  · rw [World.cell?_setCell_other _ _ _ _ (fun e => by subst e; simp at hp <;> omega)]; exact h3
  · rw [World.cell?_setCell_other _ _ _ _ (fun e => by subst e; simp at hp <;> omega)]; exact h4
  · rw [World.cell?_setCell_other _ _ _ _ (fun e => by subst e; simp at hp <;> omega)]; exact h5
theorem keep3d {w W : World} {n d a1 a2 b1 b2 : Int} (h : w.heap.size + 2 < W.heap.size ∧ Below w.heap.size w W ∧ W.cell? ⟨w.heap.size, 0, none⟩ = some (.int .i64 n) ∧ W.cell? ⟨w.heap.size, 1, none⟩ = some (.int .i64 d) ∧ W.cell? ⟨w.heap.size + 1, 0, none⟩ = some (.int .i64 a1) ∧ W.cell? ⟨w.heap.size + 1, 1, none⟩ = some (.int .i64 a2) ∧ W.cell? ⟨w.heap.size + 1 + 1, 0, none⟩ = some (.int .i64 b1) ∧ W.cell? ⟨w.heap.size + 1 + 1, 1, none⟩ = some (.int .i64 b2)) :
    w.heap.size + 2 < W.drew.heap.size ∧ Below w.heap.size w W.drew ∧ W.drew.cell? ⟨w.heap.size, 0, none⟩ = some (.int .i64 n) ∧ W.drew.cell? ⟨w.heap.size, 1, none⟩ = some (.int .i64 d) ∧ W.drew.cell? ⟨w.heap.size + 1, 0, none⟩ = some (.int .i64 a1) ∧ W.drew.cell? ⟨w.heap.size + 1, 1, none⟩ = some (.int .i64 a2) ∧ W.drew.cell? ⟨w.heap.size + 1 + 1, 0, none⟩ = some (.int .i64 b1) ∧ W.drew.cell? ⟨w.heap.size + 1 + 1, 1, none⟩ = some (.int .i64 b2) :=
  keep3 (Below.refl _ _).drew h
theorem kept3 {w wc W w1 : World} {n d a1 a2 b1 b2 : Int} (hb : Below W.heap.size W w1) (h : w.heap.size + 2 < wc.heap.size ∧ Below wc.heap.size wc W ∧ W.cell? ⟨w.heap.size, 0, none⟩ = some (.int .i64 n) ∧ W.cell? ⟨w.heap.size, 1, none⟩ = some (.int .i64 d) ∧ W.cell? ⟨w.heap.size + 1, 0, none⟩ = some (.int .i64 a1) ∧ W.cell? ⟨w.heap.size + 1, 1, none⟩ = some (.int .i64 a2) ∧ W.cell? ⟨w.heap.size + 1 + 1, 0, none⟩ = some (.int .i64 b1) ∧ W.cell? ⟨w.heap.size + 1 + 1, 1, none⟩ = some (.int .i64 b2)) :
    w.heap.size + 2 < wc.heap.size ∧ Below wc.heap.size wc w1 ∧ w1.cell? ⟨w.heap.size, 0, none⟩ = some (.int .i64 n) ∧ w1.cell? ⟨w.heap.size, 1, none⟩ = some (.int .i64 d) ∧ w1.cell? ⟨w.heap.size + 1, 0, none⟩ = some (.int .i64 a1) ∧ w1.cell? ⟨w.heap.size + 1, 1, none⟩ = some (.int .i64 a2) ∧ w1.cell? ⟨w.heap.size + 1 + 1, 0, none⟩ = some (.int .i64 b1) ∧ w1.cell? ⟨w.heap.size + 1 + 1, 1, none⟩ = some (.int .i64 b2) := by
  obtain ⟨hz, hB, h0, h1, h2, h3, h4, h5⟩ := h
  have hs := hB.size
  exact ⟨hz, belowNext hB hb, cellThru hb (by omega) h0, cellThru hb (by omega) h1, cellThru hb (by omega) h2, cellThru hb (by omega) h3, cellThru hb (by omega) h4, cellThru hb (by omega) h5⟩
theorem kept3a {w wc W : World} {n d a1 a2 b1 b2 : Int} {o : Obj} (h : w.heap.size + 2 < wc.heap.size ∧ Below wc.heap.size wc W ∧ W.cell? ⟨w.heap.size, 0, none⟩ = some (.int .i64 n) ∧ W.cell? ⟨w.heap.size, 1, none⟩ = some (.int .i64 d) ∧ W.cell? ⟨w.heap.size + 1, 0, none⟩ = some (.int .i64 a1) ∧ W.cell? ⟨w.heap.size + 1, 1, none⟩ = some (.int .i64 a2) ∧ W.cell? ⟨w.heap.size + 1 + 1, 0, none⟩ = some (.int .i64 b1) ∧ W.cell? ⟨w.heap.size + 1 + 1, 1, none⟩ = some (.int .i64 b2)) :
    w.heap.size + 2 < wc.heap.size ∧ Below wc.heap.size wc (W.alloc o) ∧ (W.alloc o).cell? ⟨w.heap.size, 0, none⟩ = some (.int .i64 n) ∧ (W.alloc o).cell? ⟨w.heap.size, 1, none⟩ = some (.int .i64 d) ∧ (W.alloc o).cell? ⟨w.heap.size + 1, 0, none⟩ = some (.int .i64 a1) ∧ (W.alloc o).cell? ⟨w.heap.size + 1, 1, none⟩ = some (.int .i64 a2) ∧ (W.alloc o).cell? ⟨w.heap.size + 1 + 1, 0, none⟩ = some (.int .i64 b1) ∧ (W.alloc o).cell? ⟨w.heap.size + 1 + 1, 1, none⟩ = some (.int .i64 b2) :=
  kept3 (belowAlloc (Below.refl _ _) o) h
theorem kept3d {w wc W : World} {n d a1 a2 b1 b2 : Int} (h : w.heap.size + 2 < wc.heap.size ∧ Below wc.heap.size wc W ∧ W.cell? ⟨w.heap.size, 0, none⟩ = some (.int .i64 n) ∧ W.cell? ⟨w.heap.size, 1, none⟩ = some (.int .i64 d) ∧ W.cell? ⟨w.heap.size + 1, 0, none⟩ = some (.int .i64 a1) ∧ W.cell? ⟨w.heap.size + 1, 1, none⟩ = some (.int .i64 a2) ∧ W.cell? ⟨w.heap.size + 1 + 1, 0, none⟩ = some (.int .i64 b1) ∧ W.cell? ⟨w.heap.size + 1 + 1, 1, none⟩ = some (.int .i64 b2)) :
    w.heap.size + 2 < wc.heap.size ∧ Below wc.heap.size wc W.drew ∧ W.drew.cell? ⟨w.heap.size, 0, none⟩ = some (.int .i64 n) ∧ W.drew.cell? ⟨w.heap.size, 1, none⟩ = some (.int .i64 d) ∧ W.drew.cell? ⟨w.heap.size + 1, 0, none⟩ = some (.int .i64 a1) ∧ W.drew.cell? ⟨w.heap.size + 1, 1, none⟩ = some (.int .i64 a2) ∧ W.drew.cell? ⟨w.heap.size + 1 + 1, 0, none⟩ = some (.int .i64 b1) ∧ W.drew.cell? ⟨w.heap.size + 1 + 1, 1, none⟩ = some (.int .i64 b2) :=
  kept3 (Below.refl _ _).drew h
theorem kept3s {w wc W : World} {n d a1 a2 b1 b2 : Int} {p : Addr} {u : Value} (hp : wc.heap.size ≤ p.block) (h : w.heap.size + 2 < wc.heap.size ∧ Below wc.heap.size wc W ∧ W.cell? ⟨w.heap.size, 0, none⟩ = some (.int .i64 n) ∧ W.cell? ⟨w.heap.size, 1, none⟩ = some (.int .i64 d) ∧ W.cell? ⟨w.heap.size + 1, 0, none⟩ = some (.int .i64 a1) ∧ W.cell? ⟨w.heap.size + 1, 1, none⟩ = some (.int .i64 a2) ∧ W.cell? ⟨w.heap.size + 1 + 1, 0, none⟩ = some (.int .i64 b1) ∧ W.cell? ⟨w.heap.size + 1 + 1, 1, none⟩ = some (.int .i64 b2)) :
    w.heap.size + 2 < wc.heap.size ∧ Below wc.heap.size wc (W.setCell p u) ∧ (W.setCell p u).cell? ⟨w.heap.size, 0, none⟩ = some (.int .i64 n) ∧ (W.setCell p u).cell? ⟨w.heap.size, 1, none⟩ = some (.int .i64 d) ∧ (W.setCell p u).cell? ⟨w.heap.size + 1, 0, none⟩ = some (.int .i64 a1) ∧ (W.setCell p u).cell? ⟨w.heap.size + 1, 1, none⟩ = some (.int .i64 a2) ∧ (W.setCell p u).cell? ⟨w.heap.size + 1 + 1, 0, none⟩ = some (.int .i64 b1) ∧ (W.setCell p u).cell? ⟨w.heap.size + 1 + 1, 1, none⟩ = some (.int .i64 b2) := by
  obtain ⟨hz, hB, h0, h1, h2, h3, h4, h5⟩ := h
  refine ⟨hz, hB.setCell hp u, ?_, ?_, ?_, ?_, ?_, ?_⟩
  · rw [World.cell?_setCell_other _ _ _ _ (fun e => by subst e; simp at hp <;> omega)]; exact h0
  · rw [World.cell?_setCell_other _ _ _ _ (fun e => by subst e; simp at hp <;> omega)]; exact h1
  · rw [World.cell?_setCell_other _ _ _ _ (fun e => by subst e; simp at hp <;> omega)]; exact h2
  · rw [World.cell?_setCell_other _ _ _ _ (fun e => by subst e; simp at hp <;> omega)]; exact h3
  · rw [World.cell?_setCell_other _ _ _ _ (fun e => by subst e; simp at hp <;> omega)]; exact h4
  · rw [World.cell?_setCell_other _ _ _ _ (fun e => by subst e; simp at hp <;> omega)]; exact h5

end Go.Proofs.Ytnciiodgkanpjaa

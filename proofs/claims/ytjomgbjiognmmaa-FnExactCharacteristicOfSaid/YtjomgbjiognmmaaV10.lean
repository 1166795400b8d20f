/-
  Contracts: two angles in a row turned round.
-/
import Derived.Test.YtjomgbjiognmmaaV9
import Derived.Test.YtjomgbjiognmmaaW20
namespace Go.Proofs.Ytjomgbjiognmmaa
open Go.RowKit

theorem own2_cells {w : World} {lo : Nat} {A : Option Addr} {x y x' y' : Int} (h : AngOwn w lo A [(x, y), (x', y')]) :
    ∃ b off, A = some ⟨b, off, none⟩ ∧ lo ≤ b ∧ b < w.heap.size ∧ (w.cell? ⟨b, off, none⟩ = some (.int .i64 x) ∧ w.cell? ⟨b, off + 1, none⟩ = some (.int .i64 y) ∧ w.cell? ⟨b, off + 2, none⟩ = some (.int .i64 x') ∧ w.cell? ⟨b, off + 2 + 1, none⟩ = some (.int .i64 y')) ∧
      (w.frozen? ⟨b, off, none⟩ = false ∧ w.frozen? ⟨b, off + 1, none⟩ = false ∧ w.frozen? ⟨b, off + 2, none⟩ = false ∧ w.frozen? ⟨b, off + 2 + 1, none⟩ = false) := by
  obtain ⟨b, off, e, h1, h2, hc⟩ := h (by simp)
  obtain ⟨a1, a2, a3, a4⟩ := hc 0 x y rfl
  obtain ⟨b1, b2, b3, b4⟩ := hc 1 x' y' rfl
  simp only [Nat.zero_mul, Nat.add_zero, Nat.one_mul] at a1 a2 a3 a4 b1 b2 b3 b4
  exact ⟨b, off, e, h1, h2, ⟨a1, a2, b1, b2⟩, ⟨a3, a4, b3, b4⟩⟩
theorem own2_of {w : World} {lo b off : Nat} {x y x' y' : Int} (h1 : lo ≤ b) (h2 : b < w.heap.size)
    (a : w.cell? ⟨b, off, none⟩ = some (.int .i64 x) ∧ w.cell? ⟨b, off + 1, none⟩ = some (.int .i64 y) ∧ w.cell? ⟨b, off + 2, none⟩ = some (.int .i64 x') ∧ w.cell? ⟨b, off + 2 + 1, none⟩ = some (.int .i64 y'))
    (f : w.frozen? ⟨b, off, none⟩ = false ∧ w.frozen? ⟨b, off + 1, none⟩ = false ∧ w.frozen? ⟨b, off + 2, none⟩ = false ∧ w.frozen? ⟨b, off + 2 + 1, none⟩ = false) : AngOwn w lo (some ⟨b, off, none⟩) [(x, y), (x', y')] := by
  intro _
  refine ⟨b, off, rfl, h1, h2, fun i n d hi => ?_⟩
  match i, hi with
  | 0, hi => simp at hi; obtain ⟨rfl, rfl⟩ := hi; simp only [Nat.zero_mul, Nat.add_zero]; exact ⟨a.1, a.2.1, f.1, f.2.1⟩
  | 1, hi => simp at hi; obtain ⟨rfl, rfl⟩ := hi; simp only [Nat.one_mul]; exact ⟨a.2.2.1, a.2.2.2, f.2.2.1, f.2.2.2⟩

end Go.Proofs.Ytjomgbjiognmmaa

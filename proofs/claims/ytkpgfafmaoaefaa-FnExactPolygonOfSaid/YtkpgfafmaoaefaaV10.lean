/-
  Contracts: two angles in a row turned round.
-/
import Derived.Test.YtkpgfafmaoaefaaV9
import Derived.Test.YtkpgfafmaoaefaaW20
namespace Go.Proofs.Ytkpgfafmaoaefaa
open Go.RowKit

theorem own2_cells {w : World} {lo : Nat} {A : Option Addr} {x y x' y' : Int} (h : AngOwn w lo A [(x, y), (x', y')]) :
    ∃ b off, A = some ⟨b, off, none⟩ ∧ lo ≤ b ∧ b < w.heap.size ∧ (w.cell? ⟨b, off, none⟩ = some (.int .i64 x) ∧ w.cell? ⟨b, off + 1, none⟩ = some (.int .i64 y) ∧ w.cell? ⟨b, off + 2, none⟩ = some (.int .i64 x') ∧ w.cell? ⟨b, off + 2 + 1, none⟩ = some (.int .i64 y')) ∧
      (w.frozen? ⟨b, off, none⟩ = false ∧ w.frozen? ⟨b, off + 1, none⟩ = false ∧ w.frozen? ⟨b, off + 2, none⟩ = false ∧ w.frozen? ⟨b, off + 2 + 1, none⟩ = false) := by
  obtain ⟨b, off, e, h1, h2, hc⟩ := h (by simp)
  obtain ⟨a1, a2, a3, a4⟩ := hc 0 x y rfl
  obtain ⟨b1, b2, b3, b4⟩ := hc 1 x' y' rfl
  simp only [Nat.zero_mul, Nat.add_zero, Nat.one_mul] at a1 a2 a3 a4 b1 b2 b3 b4
  exact ⟨b, off, e, h1, h2, ⟨a1, a2, b1, b2⟩, ⟨a3, a4, b3, b4⟩⟩
theorem own2_of {w : World} {lo b off : Nat} {x y x' y' : Int} (h1 : lo ≤ b) (h2 : b < w.heap.size)
    (a : w.cell? ⟨b, off, none⟩ = some (.int .i64 x) ∧ w.cell? ⟨b, off + 1, none⟩ = some (.int .i64 y) ∧ w.cell? ⟨b, off + 2, none⟩ = some (.int .i64 x') ∧ w.cell? ⟨b, off + 2 + 1, none⟩ = some (.int .i64 y'))
    (f : w.frozen? ⟨b, off, none⟩ = false ∧ w.frozen? ⟨b, off + 1, none⟩ = false ∧ w.frozen? ⟨b, off + 2, none⟩ = false ∧ w.frozen? ⟨b, off + 2 + 1, none⟩ = false) : AngOwn w lo (some ⟨b, off, none⟩) [(x, y), (x', y')] := by
  intro _
  refine ⟨b, off, rfl, h1, h2, fun i n d hi => ?_⟩
  match i, hi with
  | 0, hi => simp at hi; obtain ⟨rfl, rfl⟩ := hi; simp only [Nat.zero_mul, Nat.add_zero]; exact ⟨a.1, a.2.1, f.1, f.2.1⟩
  | 1, hi => simp at hi; obtain ⟨rfl, rfl⟩ := hi; simp only [Nat.one_mul]; exact ⟨a.2.2.1, a.2.2.2, f.2.2.1, f.2.2.2⟩

set_option maxHeartbeats 2000000 in
theorem revTwo (A : Option Addr) (cap lo : Nat) (x y x' y' : Int) (w : World) (hr : AngOwn w lo A [(x, y), (x', y')]) :
    Calls Try.prog 90 #[.slice A 2 cap] w fun e w' => e = .returned (.tuple #[]) ∧ AngOwn w' lo A [(x', y'), (x, y)] ∧ Below lo w w' ∧ w.heap.size ≤ w'.heap.size := by
  obtain ⟨b, off, rfl, h1, h2, ⟨a0, a1, a2, a3⟩, ⟨f0, f1, f2, f3⟩⟩ := own2_cells hr
  clear hr
  go_enter Try.func90, Try.ntmps90
  go_wp2
  go_loopw [2, 3] (fun i j wr => (i = .int .i64 0 ∧ j = .int .i64 1 ∧ w = wr) ∨ (i = .int .i64 1 ∧ j = .int .i64 0 ∧ Hid (AngOwn wr lo (some ⟨b, off, none⟩) [(x', y'), (x, y)] ∧ Below lo w wr ∧ w.heap.size ≤ wr.heap.size))) (fun i _ _ => 2 - (intOf i).toNat)
  case atStart => exact .inl ⟨rfl, rfl, rfl⟩
  case round =>
    rcases hrel with ⟨rfl, rfl, rfl⟩ | ⟨rfl, rfl, H⟩
    · go_wp2_with fail
      go_region
      all_goals
        go_wp2
        go_roundw
        case rel =>
          refine .inr ⟨by go_num, by go_num, Lib.hid ⟨?_, ?_, ?_⟩⟩
          · obtain ⟨t0, t1, t2, t3⟩ := set4_got (x0 := .int .i64 x') (x1 := .int .i64 y') (x2 := .int .i64 x) (x3 := .int .i64 y) a0 a1 a2 a3
            exact own2_of h1 (by simpa using h2) ⟨t0, t1, t2, t3⟩ ⟨by simpa using f0, by simpa using f1, by simpa using f2, by simpa using f3⟩
          · exact (((((Below.refl lo w).setCell h1 _).setCell h1 _).setCell h1 _).setCell h1 _).drew
          · simp
        case measure => simp [intOf]
    · go_wp2
      go_end0
      exact ⟨rfl, H.out⟩
end Go.Proofs.Ytkpgfafmaoaefaa

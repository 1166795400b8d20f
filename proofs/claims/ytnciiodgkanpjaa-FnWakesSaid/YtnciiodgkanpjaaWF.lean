/-
  Contracts: the way forward from one angle to another.
-/
import Derived.Test.YtnciiodgkanpjaaW5
namespace Go.Proofs.Ytnciiodgkanpjaa
open Go.RowKit

set_option maxHeartbeats 1000000 in
theorem implWF (n d m c : Int) (w : World) (h1 : angOk n d) (h2 : angOk m c) :
    Calls Try.prog 67 #[ang n d, ang m c] w fun e w' => e = .returned (ang (redN (m * d - n * c) (d * c)) (redD (m * d - n * c) (d * c))) ∧ Below w.heap.size w w' := by
  obtain ⟨a1, a2, a3, a4⟩ := h1
  obtain ⟨b1, b2, b3, b4⟩ := h2
  obtain ⟨p1, p2⟩ := mul_bound (a := n) (b := c) (by omega) (by omega) (by omega) (by omega)
  obtain ⟨q1, q2⟩ := mul_bound (a := m) (b := d) (by omega) (by omega) (by omega) (by omega)
  obtain ⟨r1, r2⟩ := mul_bound (a := d) (b := c) (by omega) (by omega) (by omega) (by omega)
  have r3 : 1 ≤ d * c := Int.mul_pos (by omega) (by omega)
  have HR := Lib.hid (fun w => implRed (m * d - n * c) (d * c) w (by omega) (by omega) (by omega) (by omega))
  generalize redN (m * d - n * c) (d * c) = x at *
  generalize redD (m * d - n * c) (d * c) = y at *
  have wr1 : IntKind.i64.wrap (m * d) = m * d := IntWalk.i64_in _ (by omega)
  have wr2 : IntKind.i64.wrap (n * c) = n * c := IntWalk.i64_in _ (by omega)
  have wr3 : IntKind.i64.wrap (m * d - n * c) = m * d - n * c := IntWalk.i64_in _ (by omega)
  have wr4 : IntKind.i64.wrap (d * c) = d * c := IntWalk.i64_in _ (by omega)
  go_enter Try.func67, Try.ntmps67
  go_wp2_with fail
  refine (HR.out _).mono ?_
  rintro e w2 ⟨rfl, hb2⟩
  have k0 : w2.cell? ⟨w.heap.size + 1 + 1, 0, none⟩ = some (.int .i64 0) := cellThru hb2 (by simp <;> omega) (by simp [go_sem])
  have k1 : w2.cell? ⟨w.heap.size + 1 + 1, 1, none⟩ = some (.int .i64 0) := cellThru hb2 (by simp <;> omega) (by simp [go_sem])
  have j0 : w2.frozen? ⟨w.heap.size + 1 + 1, 0, none⟩ = false := frozThru hb2 (by simp <;> omega) (by simp [go_sem])
  have j1 : w2.frozen? ⟨w.heap.size + 1 + 1, 1, none⟩ = false := frozThru hb2 (by simp <;> omega) (by simp [go_sem])
  have hz2 : w.heap.size + 1 + 1 < w2.heap.size := by have := hb2.size; simp at this; omega
  go_wp2
  refine bodyPost_ret (v := ang x y) (by simp [results, Try.results67, go_sem, k0, k1]) rfl ⟨rfl, ?_⟩
  (repeat' (first | (with_reducible exact Below.refl _ _) | (with_reducible assumption) | (with_reducible refine belowNext ?_ (by with_reducible assumption)) | (with_reducible refine belowAlloc ?_ _) | (with_reducible refine Below.drew ?_) | (with_reducible refine below_drewN ?_ _) | (with_reducible refine Below.setCell ?_ ?_ _) | go_size | (with_reducible refine sizeOf' ?_) | (with_reducible refine sizeAdd ?_) | (dsimp only; first | (with_reducible refine sizeOf' ?_) | (with_reducible refine sizeAdd ?_))))
/-- The same back, told by the same numbers. -/
theorem implWB (n d m c : Int) (w : World) (h1 : angOk n d) (h2 : angOk m c) :
    Calls Try.prog 67 #[ang m c, ang n d] w fun e w' => e = .returned (ang (redN (-(m * d - n * c)) (d * c)) (redD (-(m * d - n * c)) (d * c))) ∧ Below w.heap.size w w' := by
  have H := implWF m c n d w h2 h1
  have e1 : n * c - m * d = -(m * d - n * c) := by omega
  have e2 : c * d = d * c := Int.mul_comm _ _
  rw [e1, e2] at H
  exact H
end Go.Proofs.Ytnciiodgkanpjaa

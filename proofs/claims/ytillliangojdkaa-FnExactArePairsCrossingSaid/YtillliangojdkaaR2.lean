/-
  The walk of the law of ArePairsCrossing.
-/
import Derived.Test.YtillliangojdkaaR1
namespace Go.Proofs.Ytillliangojdkaa
open Go.RowKit

set_option maxHeartbeats 1000000 in
theorem lawArePairsCrossing (a b c d : Int) (_ : (Lit.int .i64 a).wf = true) (_ : (Lit.int .i64 b).wf = true) (_ : (Lit.int .i64 c).wf = true) (_ : (Lit.int .i64 d).wf = true)
    (e f g h : Int) (_ : (Lit.int .i64 e).wf = true) (_ : (Lit.int .i64 f).wf = true) (_ : (Lit.int .i64 g).wf = true) (_ : (Lit.int .i64 h).wf = true) (w : World) :
    Calls Try.prog 13 #[leafV a b c d, leafV e f g h] w fun e' w' => e' = .returned (.bool true) ∧ Below w.heap.size w w' := by
  have HS := Lib.hid (fun w => specApc a b c d e f g h w)
  have HI := Lib.hid (fun w => implApc a b c d e f g h w)
  generalize apB a b c d e f g h = X at *
  generalize apC a b c d e f g h = Y at *
  go_enter Try.func13, Try.ntmps13
  go_wp2_with fail
  go_region_held3 (fun w' => w.heap.size + 1 < w'.heap.size ∧ Below w.heap.size w w' ∧ w'.cell? ⟨w.heap.size, 0, none⟩ = some (.int .i64 a) ∧ w'.cell? ⟨w.heap.size, 1, none⟩ = some (.int .i64 b) ∧ w'.cell? ⟨w.heap.size, 2, none⟩ = some (.int .i64 c) ∧ w'.cell? ⟨w.heap.size, 3, none⟩ = some (.int .i64 d) ∧
      w'.cell? ⟨w.heap.size + 1, 0, none⟩ = some (.int .i64 e) ∧ w'.cell? ⟨w.heap.size + 1, 1, none⟩ = some (.int .i64 f) ∧ w'.cell? ⟨w.heap.size + 1, 2, none⟩ = some (.int .i64 g) ∧ w'.cell? ⟨w.heap.size + 1, 3, none⟩ = some (.int .i64 h))
      (first | exact box8 (by assumption) (by assumption) | exact box8 (Below.refl _ _).drew (by assumption) | (refine ⟨by simp, ?_, by simp [go_sem], by simp [go_sem], by simp [go_sem], by simp [go_sem], by simp [go_sem], by simp [go_sem], by simp [go_sem], by simp [go_sem]⟩; (repeat' (first | (with_reducible exact Below.refl _ _) | (with_reducible assumption) | (with_reducible refine belowNext ?_ (by with_reducible assumption)) | (with_reducible refine belowAlloc ?_ _) | (with_reducible refine Below.drew ?_) | (with_reducible refine below_drewN ?_ _) | (with_reducible refine Below.setCell ?_ ?_ _) | go_size | (with_reducible refine sizeOf' ?_) | (with_reducible refine sizeAdd ?_) | (dsimp only; first | (with_reducible refine sizeOf' ?_) | (with_reducible refine sizeAdd ?_))))))
      (first
      | (go_at_call 48; (with_reducible refine (toRp a b c d _).mono ?_); rintro e' w1 ⟨rfl, hb1⟩)
      | (go_at_call 48; (with_reducible refine (toRp e f g h _).mono ?_); rintro e' w1 ⟨rfl, hb1⟩)
      | (go_at_call 47; (with_reducible refine (HS.out _).mono ?_); rintro e' w1 ⟨rfl, hb1⟩))
  rename_i hHeld1
  clear hb1
  go_wp2_with fail
  go_region_held3 (fun w' => w.heap.size + 1 < w'.heap.size ∧ Below w.heap.size w w' ∧ w'.cell? ⟨w.heap.size, 0, none⟩ = some (.int .i64 a) ∧ w'.cell? ⟨w.heap.size, 1, none⟩ = some (.int .i64 b) ∧ w'.cell? ⟨w.heap.size, 2, none⟩ = some (.int .i64 c) ∧ w'.cell? ⟨w.heap.size, 3, none⟩ = some (.int .i64 d) ∧
      w'.cell? ⟨w.heap.size + 1, 0, none⟩ = some (.int .i64 e) ∧ w'.cell? ⟨w.heap.size + 1, 1, none⟩ = some (.int .i64 f) ∧ w'.cell? ⟨w.heap.size + 1, 2, none⟩ = some (.int .i64 g) ∧ w'.cell? ⟨w.heap.size + 1, 3, none⟩ = some (.int .i64 h))
      (first | exact box8 (by assumption) (by assumption) | exact box8 (Below.refl _ _).drew (by assumption) | (refine ⟨by simp, ?_, by simp [go_sem], by simp [go_sem], by simp [go_sem], by simp [go_sem], by simp [go_sem], by simp [go_sem], by simp [go_sem], by simp [go_sem]⟩; (repeat' (first | (with_reducible exact Below.refl _ _) | (with_reducible assumption) | (with_reducible refine belowNext ?_ (by with_reducible assumption)) | (with_reducible refine belowAlloc ?_ _) | (with_reducible refine Below.drew ?_) | (with_reducible refine below_drewN ?_ _) | (with_reducible refine Below.setCell ?_ ?_ _) | go_size | (with_reducible refine sizeOf' ?_) | (with_reducible refine sizeAdd ?_) | (dsimp only; first | (with_reducible refine sizeOf' ?_) | (with_reducible refine sizeAdd ?_))))))
      (first
      | (go_at_call 48; (with_reducible refine (toRp a b c d _).mono ?_); rintro e' w1 ⟨rfl, hb1⟩)
      | (go_at_call 48; (with_reducible refine (toRp e f g h _).mono ?_); rintro e' w1 ⟨rfl, hb1⟩)
      | (go_at_call 49; (with_reducible refine (HI.out _).mono ?_); rintro e' w1 ⟨rfl, hb1⟩))
  rename_i hHeld2
  clear hb1
  have hB := hHeld2.2.1
  clear hHeld1 hHeld2
  go_wp2
  go_ret
  exact ⟨rfl, hB⟩
end Go.Proofs.Ytillliangojdkaa

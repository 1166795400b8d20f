/-
  The walks of the exact laws of arcs and cyclic orders.
-/
import Derived.Test.YtpladfogajjnnaaL2
namespace Go.Proofs.Ytpladfogajjnnaa
open Go.RowKit

set_option maxHeartbeats 2000000 in
theorem lawIsWithin (n d : Int) (_ : (Lit.int .i64 n).wf = true) (_ : (Lit.int .i64 d).wf = true) (a1 a2 : Int) (_ : (Lit.int .i64 a1).wf = true) (_ : (Lit.int .i64 a2).wf = true) (b1 b2 : Int) (_ : (Lit.int .i64 b1).wf = true) (_ : (Lit.int .i64 b2).wf = true) (w : World) :
    Calls Try.prog 11 #[ang n d, ang a1 a2, ang b1 b2] w fun e w' => e = .returned (.bool true) ∧ Below w.heap.size w w' := by
  have HA := Lib.hid (fun w => specWin n d a1 a2 b1 b2 w)
  have HB := Lib.hid (fun w => implWin n d a1 a2 b1 b2 w)
  generalize winB n d a1 a2 b1 b2 = X at *
  generalize winC n d a1 a2 b1 b2 = Y at *
  go_enter Try.func11, Try.ntmps11
  go_wp2_with fail
  go_region_held3 (fun w' => w.heap.size + 2 < w'.heap.size ∧ Below w.heap.size w w' ∧ w'.cell? ⟨w.heap.size, 0, none⟩ = some (.int .i64 n) ∧ w'.cell? ⟨w.heap.size, 1, none⟩ = some (.int .i64 d) ∧ w'.cell? ⟨w.heap.size + 1, 0, none⟩ = some (.int .i64 a1) ∧ w'.cell? ⟨w.heap.size + 1, 1, none⟩ = some (.int .i64 a2) ∧ w'.cell? ⟨w.heap.size + 1 + 1, 0, none⟩ = some (.int .i64 b1) ∧ w'.cell? ⟨w.heap.size + 1 + 1, 1, none⟩ = some (.int .i64 b2))
    (first | exact keep3 (by assumption) (by assumption) | ((with_reducible refine keep3a ?_); (repeat' (with_reducible refine keep3a ?_)); assumption) | ((with_reducible refine keep3d ?_); (repeat' (with_reducible refine keep3a ?_)); first | assumption | (refine ⟨?_, ?_, ?_, ?_, ?_, ?_, ?_, ?_⟩ <;> first | assumption | exact Below.refl _ _)) | ((with_reducible refine keep3s ?_ (keep3s ?_ ?_)) <;> first | assumption | (dsimp only; omega)) | (refine ⟨?_, ?_, ?_, ?_, ?_, ?_, ?_, ?_⟩ <;> first | assumption | (simp [go_sem]; done) | (simp [go_sem, *]; done) | (repeat' (first | (with_reducible exact Below.refl _ _) | (with_reducible assumption) | (with_reducible refine belowNext ?_ (by with_reducible assumption)) | (with_reducible refine belowAlloc ?_ _) | (with_reducible refine Below.drew ?_) | (with_reducible refine below_drewN ?_ _) | (with_reducible refine Below.setCell ?_ ?_ _) | go_size | (with_reducible refine sizeOf' ?_) | (with_reducible refine sizeAdd ?_) | (dsimp only; first | (with_reducible refine sizeOf' ?_) | (with_reducible refine sizeAdd ?_))))))
    (first
      | (go_at_call 39; (with_reducible refine (toAngX _ _ _).mono ?_); rintro e w1 ⟨rfl, rfl⟩)
      | (go_at_call 48; (with_reducible refine (HA.out _).mono ?_); rintro e w2 ⟨rfl, hb2⟩; have hS2 := keep3 hb2 (by assumption); obtain ⟨hc2, hf2⟩ := bcell hb2; have hz2 := zThru hb2))
  all_goals
    rename_i hHeld
    clear hS2
    obtain ⟨hz, hB, c0, c1, c2, c3, c4, c5⟩ := hHeld
    clear hc2 hf2 hz2 hb2
    go_wp2_with fail
    go_region_held3 (fun w' => w.heap.size + 2 < w'.heap.size ∧ Below w.heap.size w w' ∧ w'.cell? ⟨w.heap.size, 0, none⟩ = some (.int .i64 n) ∧ w'.cell? ⟨w.heap.size, 1, none⟩ = some (.int .i64 d) ∧ w'.cell? ⟨w.heap.size + 1, 0, none⟩ = some (.int .i64 a1) ∧ w'.cell? ⟨w.heap.size + 1, 1, none⟩ = some (.int .i64 a2) ∧ w'.cell? ⟨w.heap.size + 1 + 1, 0, none⟩ = some (.int .i64 b1) ∧ w'.cell? ⟨w.heap.size + 1 + 1, 1, none⟩ = some (.int .i64 b2))
      (first | exact keep3 (by assumption) (by assumption) | ((with_reducible refine keep3a ?_); (repeat' (with_reducible refine keep3a ?_)); assumption) | ((with_reducible refine keep3d ?_); (repeat' (with_reducible refine keep3a ?_)); first | assumption | (refine ⟨?_, ?_, ?_, ?_, ?_, ?_, ?_, ?_⟩ <;> first | assumption | exact Below.refl _ _)) | ((with_reducible refine keep3s ?_ (keep3s ?_ ?_)) <;> first | assumption | (dsimp only; omega)) | (refine ⟨?_, ?_, ?_, ?_, ?_, ?_, ?_, ?_⟩ <;> first | assumption | (simp [go_sem]; done) | (simp [go_sem, *]; done) | (repeat' (first | (with_reducible exact Below.refl _ _) | (with_reducible assumption) | (with_reducible refine belowNext ?_ (by with_reducible assumption)) | (with_reducible refine belowAlloc ?_ _) | (with_reducible refine Below.drew ?_) | (with_reducible refine below_drewN ?_ _) | (with_reducible refine Below.setCell ?_ ?_ _) | go_size | (with_reducible refine sizeOf' ?_) | (with_reducible refine sizeAdd ?_) | (dsimp only; first | (with_reducible refine sizeOf' ?_) | (with_reducible refine sizeAdd ?_))))))
      (first
      | (go_at_call 39; (with_reducible refine (toAngX _ _ _).mono ?_); rintro e w1 ⟨rfl, rfl⟩)
      | (go_at_call 49; (with_reducible refine (HB.out _).mono ?_); rintro e w3 ⟨rfl, hb3⟩; have hS3 := keep3 hb3 (by assumption); obtain ⟨hc3, hf3⟩ := bcell hb3; have hz3 := zThru hb3))
    all_goals
      rename_i hHeld
      have hBB := hHeld.2.1
      clear hHeld
      go_wp2
      go_ret
      exact ⟨rfl, hBB⟩

set_option maxHeartbeats 2000000 in
theorem lawCyclicOrder (n d : Int) (_ : (Lit.int .i64 n).wf = true) (_ : (Lit.int .i64 d).wf = true) (a1 a2 : Int) (_ : (Lit.int .i64 a1).wf = true) (_ : (Lit.int .i64 a2).wf = true) (b1 b2 : Int) (_ : (Lit.int .i64 b1).wf = true) (_ : (Lit.int .i64 b2).wf = true) (w : World) :
    Calls Try.prog 12 #[ang n d, ang a1 a2, ang b1 b2] w fun e w' => e = .returned (.bool true) ∧ Below w.heap.size w w' := by
  have HA := Lib.hid (fun w => specCyc n d a1 a2 b1 b2 w)
  have HB := Lib.hid (fun w => implCyc n d a1 a2 b1 b2 w)
  generalize cycV n d a1 a2 b1 b2 = X at *
  generalize cycC n d a1 a2 b1 b2 = Y at *
  go_enter Try.func12, Try.ntmps12
  go_wp2_with fail
  go_region_held3 (fun w' => w.heap.size + 2 < w'.heap.size ∧ Below w.heap.size w w' ∧ w'.cell? ⟨w.heap.size, 0, none⟩ = some (.int .i64 n) ∧ w'.cell? ⟨w.heap.size, 1, none⟩ = some (.int .i64 d) ∧ w'.cell? ⟨w.heap.size + 1, 0, none⟩ = some (.int .i64 a1) ∧ w'.cell? ⟨w.heap.size + 1, 1, none⟩ = some (.int .i64 a2) ∧ w'.cell? ⟨w.heap.size + 1 + 1, 0, none⟩ = some (.int .i64 b1) ∧ w'.cell? ⟨w.heap.size + 1 + 1, 1, none⟩ = some (.int .i64 b2))
    (first | exact keep3 (by assumption) (by assumption) | ((with_reducible refine keep3a ?_); (repeat' (with_reducible refine keep3a ?_)); assumption) | ((with_reducible refine keep3d ?_); (repeat' (with_reducible refine keep3a ?_)); first | assumption | (refine ⟨?_, ?_, ?_, ?_, ?_, ?_, ?_, ?_⟩ <;> first | assumption | exact Below.refl _ _)) | ((with_reducible refine keep3s ?_ (keep3s ?_ ?_)) <;> first | assumption | (dsimp only; omega)) | (refine ⟨?_, ?_, ?_, ?_, ?_, ?_, ?_, ?_⟩ <;> first | assumption | (simp [go_sem]; done) | (simp [go_sem, *]; done) | (repeat' (first | (with_reducible exact Below.refl _ _) | (with_reducible assumption) | (with_reducible refine belowNext ?_ (by with_reducible assumption)) | (with_reducible refine belowAlloc ?_ _) | (with_reducible refine Below.drew ?_) | (with_reducible refine below_drewN ?_ _) | (with_reducible refine Below.setCell ?_ ?_ _) | go_size | (with_reducible refine sizeOf' ?_) | (with_reducible refine sizeAdd ?_) | (dsimp only; first | (with_reducible refine sizeOf' ?_) | (with_reducible refine sizeAdd ?_))))))
    (first
      | (go_at_call 39; (with_reducible refine (toAngX _ _ _).mono ?_); rintro e w1 ⟨rfl, rfl⟩)
      | (go_at_call 50; (with_reducible refine (HA.out _).mono ?_); rintro e w2 ⟨rfl, hb2⟩; have hS2 := keep3 hb2 (by assumption); obtain ⟨hc2, hf2⟩ := bcell hb2; have hz2 := zThru hb2))
  all_goals
    rename_i hHeld
    clear hS2
    obtain ⟨hz, hB, c0, c1, c2, c3, c4, c5⟩ := hHeld
    clear hc2 hf2 hz2 hb2
    go_wp2_with fail
    go_region_held3 (fun w' => w.heap.size + 2 < w'.heap.size ∧ Below w.heap.size w w' ∧ w'.cell? ⟨w.heap.size, 0, none⟩ = some (.int .i64 n) ∧ w'.cell? ⟨w.heap.size, 1, none⟩ = some (.int .i64 d) ∧ w'.cell? ⟨w.heap.size + 1, 0, none⟩ = some (.int .i64 a1) ∧ w'.cell? ⟨w.heap.size + 1, 1, none⟩ = some (.int .i64 a2) ∧ w'.cell? ⟨w.heap.size + 1 + 1, 0, none⟩ = some (.int .i64 b1) ∧ w'.cell? ⟨w.heap.size + 1 + 1, 1, none⟩ = some (.int .i64 b2))
      (first | exact keep3 (by assumption) (by assumption) | ((with_reducible refine keep3a ?_); (repeat' (with_reducible refine keep3a ?_)); assumption) | ((with_reducible refine keep3d ?_); (repeat' (with_reducible refine keep3a ?_)); first | assumption | (refine ⟨?_, ?_, ?_, ?_, ?_, ?_, ?_, ?_⟩ <;> first | assumption | exact Below.refl _ _)) | ((with_reducible refine keep3s ?_ (keep3s ?_ ?_)) <;> first | assumption | (dsimp only; omega)) | (refine ⟨?_, ?_, ?_, ?_, ?_, ?_, ?_, ?_⟩ <;> first | assumption | (simp [go_sem]; done) | (simp [go_sem, *]; done) | (repeat' (first | (with_reducible exact Below.refl _ _) | (with_reducible assumption) | (with_reducible refine belowNext ?_ (by with_reducible assumption)) | (with_reducible refine belowAlloc ?_ _) | (with_reducible refine Below.drew ?_) | (with_reducible refine below_drewN ?_ _) | (with_reducible refine Below.setCell ?_ ?_ _) | go_size | (with_reducible refine sizeOf' ?_) | (with_reducible refine sizeAdd ?_) | (dsimp only; first | (with_reducible refine sizeOf' ?_) | (with_reducible refine sizeAdd ?_))))))
      (first
      | (go_at_call 39; (with_reducible refine (toAngX _ _ _).mono ?_); rintro e w1 ⟨rfl, rfl⟩)
      | (go_at_call 51; (with_reducible refine (HB.out _).mono ?_); rintro e w3 ⟨rfl, hb3⟩; have hS3 := keep3 hb3 (by assumption); obtain ⟨hc3, hf3⟩ := bcell hb3; have hz3 := zThru hb3))
    all_goals
      rename_i hHeld
      have hBB := hHeld.2.1
      clear hHeld
      go_wp2
      go_ret
      exact ⟨rfl, hBB⟩
end Go.Proofs.Ytpladfogajjnnaa

/-
  The walk of the exact law of letters.
-/
import Derived.Test.YtbdedljhdjjlaaaW25
namespace Go.Proofs.Ytbdedljhdjjlaaa
open Go.RowKit

set_option maxHeartbeats 2000000 in
theorem lawLetterOf (n d : Int) (_ : (Lit.int .i64 n).wf = true) (_ : (Lit.int .i64 d).wf = true) (m c : Int) (_ : (Lit.int .i64 m).wf = true) (_ : (Lit.int .i64 c).wf = true) (w : World) :
    Calls Try.prog 9 #[ang n d, ang m c] w fun e w' => e = .returned (.bool true) ∧ Below w.heap.size w w' := by
  have HA := Lib.hid (fun w => specLetterOf n d m c w)
  have HB := Lib.hid (fun w => implLetterOf n d m c w)
  generalize ltrS n d m c = X at *
  generalize ltrC n d m c = Y at *
  go_enter Try.func9, Try.ntmps9
  go_wp2_with fail
  go_region_held3 (fun w' => w.heap.size + 1 < w'.heap.size ∧ Below w.heap.size w w' ∧ w'.cell? ⟨w.heap.size, 0, none⟩ = some (.int .i64 n) ∧ w'.cell? ⟨w.heap.size, 1, none⟩ = some (.int .i64 d) ∧ w'.cell? ⟨w.heap.size + 1, 0, none⟩ = some (.int .i64 m) ∧ w'.cell? ⟨w.heap.size + 1, 1, none⟩ = some (.int .i64 c))
    (first | exact keep2 (by assumption) (by assumption) | ((with_reducible refine keep2a ?_); (repeat' (with_reducible refine keep2a ?_)); assumption) | ((with_reducible refine keep2d ?_); (repeat' (with_reducible refine keep2a ?_)); first | assumption | (refine ⟨?_, ?_, ?_, ?_, ?_, ?_⟩ <;> first | assumption | exact Below.refl _ _)) | ((with_reducible refine keep2s ?_ (keep2s ?_ ?_)) <;> first | assumption | (dsimp only; omega)) | (refine ⟨?_, ?_, ?_, ?_, ?_, ?_⟩ <;> first | assumption | (simp [go_sem]; done) | (simp [go_sem, *]; done) | (repeat' (first | (with_reducible exact Below.refl _ _) | (with_reducible assumption) | (with_reducible refine belowNext ?_ (by with_reducible assumption)) | (with_reducible refine belowAlloc ?_ _) | (with_reducible refine Below.drew ?_) | (with_reducible refine below_drewN ?_ _) | (with_reducible refine Below.setCell ?_ ?_ _) | go_size | (with_reducible refine sizeOf' ?_) | (with_reducible refine sizeAdd ?_) | (dsimp only; first | (with_reducible refine sizeOf' ?_) | (with_reducible refine sizeAdd ?_))))))
    (first
      | (go_at_call 37; (with_reducible refine (toAngX _ _ _).mono ?_); rintro e w1 ⟨rfl, rfl⟩)
      | (go_at_call 51; (with_reducible refine (HA.out _).mono ?_); rintro e w2 ⟨rfl, hb2⟩; have hS2 := keep2 hb2 (by assumption); obtain ⟨hc2, hf2⟩ := bcell hb2; have hz2 := zThru hb2))
  all_goals
    rename_i hHeld
    clear hS2
    obtain ⟨hz, hB, c0, c1, c2, c3⟩ := hHeld
    clear hc2 hf2 hz2 hb2
    go_wp2_with fail
    go_region_held3 (fun w' => w.heap.size + 1 < w'.heap.size ∧ Below w.heap.size w w' ∧ w'.cell? ⟨w.heap.size, 0, none⟩ = some (.int .i64 n) ∧ w'.cell? ⟨w.heap.size, 1, none⟩ = some (.int .i64 d) ∧ w'.cell? ⟨w.heap.size + 1, 0, none⟩ = some (.int .i64 m) ∧ w'.cell? ⟨w.heap.size + 1, 1, none⟩ = some (.int .i64 c))
      (first | exact keep2 (by assumption) (by assumption) | ((with_reducible refine keep2a ?_); (repeat' (with_reducible refine keep2a ?_)); assumption) | ((with_reducible refine keep2d ?_); (repeat' (with_reducible refine keep2a ?_)); first | assumption | (refine ⟨?_, ?_, ?_, ?_, ?_, ?_⟩ <;> first | assumption | exact Below.refl _ _)) | ((with_reducible refine keep2s ?_ (keep2s ?_ ?_)) <;> first | assumption | (dsimp only; omega)) | (refine ⟨?_, ?_, ?_, ?_, ?_, ?_⟩ <;> first | assumption | (simp [go_sem]; done) | (simp [go_sem, *]; done) | (repeat' (first | (with_reducible exact Below.refl _ _) | (with_reducible assumption) | (with_reducible refine belowNext ?_ (by with_reducible assumption)) | (with_reducible refine belowAlloc ?_ _) | (with_reducible refine Below.drew ?_) | (with_reducible refine below_drewN ?_ _) | (with_reducible refine Below.setCell ?_ ?_ _) | go_size | (with_reducible refine sizeOf' ?_) | (with_reducible refine sizeAdd ?_) | (dsimp only; first | (with_reducible refine sizeOf' ?_) | (with_reducible refine sizeAdd ?_))))))
      (first
      | (go_at_call 37; (with_reducible refine (toAngX _ _ _).mono ?_); rintro e w1 ⟨rfl, rfl⟩)
      | (go_at_call 52; (with_reducible refine (HB.out _).mono ?_); rintro e w3 ⟨rfl, hb3⟩; have hS3 := keep2 hb3 (by assumption); obtain ⟨hc3, hf3⟩ := bcell hb3; have hz3 := zThru hb3))
    all_goals
      rename_i hHeld
      have hBB := hHeld.2.1
      clear hHeld
      go_wp2
      go_ret
      exact ⟨rfl, hBB⟩
end Go.Proofs.Ytbdedljhdjjlaaa

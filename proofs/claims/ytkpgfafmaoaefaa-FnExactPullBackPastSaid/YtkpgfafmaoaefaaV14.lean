/-
  Contracts: leaves that are pulled back past a diameter, on the model's side.
-/
import Derived.Test.YtkpgfafmaoaefaaV13
import Derived.Deep.DeepCutAuto
namespace Go.Proofs.Ytkpgfafmaoaefaa
open Go.RowKit

theorem two_bool (x y : Bool) : (x = false ∧ (x && y) = false) ∨ (x = true ∧ y = false ∧ (x && y) = false) ∨ (x = true ∧ y = true ∧ (x && y) = true) := by cases x <;> cases y <;> simp

set_option maxHeartbeats 4000000 in
theorem specPb0 (a b c d e f g h : Int) (w : World) (h1 : pbOk a b c d e f g h = false) :
    Calls Try.prog 36 #[leafV a b c d, leafV e f g h] w (ResLf w (pbL a b c d e f g h) (pbC a b c d e f g h)) := by
  obtain ⟨E1, E2⟩ := pb_no h1
  rw [E1, E2]
  have H1 := Lib.hid (fun w => specLf1 a b c d w)
  have H2 := Lib.hid (fun w => specLf1 e f g h w)
  unfold pbOk at h1
  rcases two_bool (isLf a b c d) (isLf e f g h) with ⟨s1, s2⟩ | ⟨s1, s3, s2⟩ | ⟨s1, s3, s2⟩
  · rw [s1] at H1
    clear s1 s2 h1 E1 E2
    go_enter Try.func36, Try.ntmps36
    go_wp2_with fail
    refine (H1.out _).mono ?_
    rintro e w1 ⟨rfl, hb1⟩
    obtain ⟨hc1, hf1⟩ := bcell hb1
    have hz1_0 : w.heap.size < w1.heap.size := by have := hb1.size; first | omega | (simp at this; omega)
    have hz1_1 : w.heap.size + 1 < w1.heap.size := by have := hb1.size; first | omega | (simp at this; omega)
    go_wp2
    go_ret2
    refine ⟨none, 0, rfl, lfOwn_nil, ?_⟩
    (repeat' (first | (with_reducible exact Below.refl _ _) | (with_reducible assumption) | (with_reducible refine belowNext ?_ (by with_reducible assumption)) | (with_reducible refine belowAlloc ?_ _) | (with_reducible refine Below.drew ?_) | (with_reducible refine below_drewN ?_ _) | (with_reducible refine Below.setCell ?_ ?_ _) | go_size | (with_reducible refine sizeOf' ?_) | (with_reducible refine sizeAdd ?_) | (dsimp only; first | (with_reducible refine sizeOf' ?_) | (with_reducible refine sizeAdd ?_))))
  · rw [s1] at H1
    rw [s3] at H2
    clear s1 s2 s3 h1 E1 E2
    go_enter Try.func36, Try.ntmps36
    go_wp2_with fail
    refine (H1.out _).mono ?_
    rintro e w1 ⟨rfl, hb1⟩
    obtain ⟨hc1, hf1⟩ := bcell hb1
    have hz1_0 : w.heap.size < w1.heap.size := by have := hb1.size; first | omega | (simp at this; omega)
    have hz1_1 : w.heap.size + 1 < w1.heap.size := by have := hb1.size; first | omega | (simp at this; omega)
    go_wp2_with fail
    refine (H2.out _).mono ?_
    rintro e w2 ⟨rfl, hb2⟩
    obtain ⟨hc2, hf2⟩ := bcell hb2
    have hz2_0 : w.heap.size < w2.heap.size := by have := hb2.size; first | omega | (simp at this; omega)
    have hz2_1 : w.heap.size + 1 < w2.heap.size := by have := hb2.size; first | omega | (simp at this; omega)
    go_wp2
    go_ret2
    refine ⟨none, 0, rfl, lfOwn_nil, ?_⟩
    (repeat' (first | (with_reducible exact Below.refl _ _) | (with_reducible assumption) | (with_reducible refine belowNext ?_ (by with_reducible assumption)) | (with_reducible refine belowAlloc ?_ _) | (with_reducible refine Below.drew ?_) | (with_reducible refine below_drewN ?_ _) | (with_reducible refine Below.setCell ?_ ?_ _) | go_size | (with_reducible refine sizeOf' ?_) | (with_reducible refine sizeAdd ?_) | (dsimp only; first | (with_reducible refine sizeOf' ?_) | (with_reducible refine sizeAdd ?_))))
  · rw [s2] at h1; cases h1

set_option maxHeartbeats 4000000 in
theorem specPb1 (a b c d e f g h : Int) (w : World) (h1 : pbOk a b c d e f g h = true) (h2 : pbSt a b c d e f g h = true) :
    Calls Try.prog 36 #[leafV a b c d, leafV e f g h] w (ResLf w (pbL a b c d e f g h) (pbC a b c d e f g h)) := by
  have H1 := Lib.hid (fun w => specLf1 a b c d w)
  have H2 := Lib.hid (fun w => specLf1 e f g h w)
  have hl : isLf a b c d = true := by unfold pbOk at h1; rw [Bool.and_eq_true] at h1; exact h1.1
  have hd : isLf e f g h = true := by unfold pbOk at h1; rw [Bool.and_eq_true] at h1; exact h1.2
  obtain ⟨r1, r2, hlt⟩ := isLf_yes hl
  obtain ⟨r3, r4, -⟩ := isLf_yes hd
  rw [hl] at H1
  rw [hd] at H2
  have HD := Lib.hid (fun w => specDbl e f w r3.1 r3.2.1 r3.2.2.1 (by obtain ⟨_, _, _, _⟩ := r3; omega))
  have HI := Lib.hid (fun w => specDia e f g h w (okOf r3) (okOf r4))
  have Q1 := fun W => eqlAng a b (redN (2 * e) f) (redD (2 * e) f) W
  have Q2 := fun W => eqlAng c d (redN (2 * e) f) (redD (2 * e) f) W
  rw [eqA_comm a b (redN (2 * e) f)] at Q1
  rw [eqA_comm c d (redN (2 * e) f)] at Q2
  have h2' := h2
  unfold pbSt at h2'
  obtain ⟨E1, E2⟩ := pb_st h1 h2
  rw [E1, E2]
  rcases st_cases (diaB e f g h) (eqA (redN (2 * e) f) (redD (2 * e) f) a b) (eqA (redN (2 * e) f) (redD (2 * e) f) c d) with ⟨s1, s4⟩ | ⟨s1, s2, s4⟩ | ⟨s1, s2, s3, s4⟩ | ⟨s1, s2, s3, s4⟩
  case inr.inr.inr => rw [s4] at h2'; cases h2'
  all_goals
    rw [s1] at HI
  · clear s1 s4 Q1 Q2 h1 h2 h2' E1 E2 hl hd r1 r2 r3 r4 hlt
    generalize redN (2 * e) f = X at *
    generalize redD (2 * e) f = Y at *
    go_enter Try.func36, Try.ntmps36
    go_wp2_with fail
    refine (H1.out _).mono ?_
    rintro e w1 ⟨rfl, hb1⟩
    obtain ⟨hc1, hf1⟩ := bcell hb1
    have hz1_0 : w.heap.size < w1.heap.size := by have := hb1.size; first | omega | (simp at this; omega)
    have hz1_1 : w.heap.size + 1 < w1.heap.size := by have := hb1.size; first | omega | (simp at this; omega)
    have q1_1_0 : w1.cell? ⟨w.heap.size + 1, 0, none⟩ = some (.int .i64 e) := cellThru hb1 (by simp <;> omega) (by simp [go_sem])
    have q1_1_1 : w1.cell? ⟨w.heap.size + 1, 1, none⟩ = some (.int .i64 f) := cellThru hb1 (by simp <;> omega) (by simp [go_sem])
    have q1_1_2 : w1.cell? ⟨w.heap.size + 1, 2, none⟩ = some (.int .i64 g) := cellThru hb1 (by simp <;> omega) (by simp [go_sem])
    have q1_1_3 : w1.cell? ⟨w.heap.size + 1, 3, none⟩ = some (.int .i64 h) := cellThru hb1 (by simp <;> omega) (by simp [go_sem])
    go_wp2_with fail
    refine (H2.out _).mono ?_
    rintro e w2 ⟨rfl, hb2⟩
    obtain ⟨hc2, hf2⟩ := bcell hb2
    have hz2_0 : w.heap.size < w2.heap.size := by have := hb2.size; first | omega | (simp at this; omega)
    have hz2_1 : w.heap.size + 1 < w2.heap.size := by have := hb2.size; first | omega | (simp at this; omega)
    have q2_1_0 : w2.cell? ⟨w.heap.size + 1, 0, none⟩ = some (.int .i64 e) := by first | exact cellThru hb2 hz1_1 q1_1_0 | (refine cellThru hb2 ?_ (cellThru (belowAlloc (Below.refl _ _) _) hz1_1 q1_1_0); first | omega | (simp; omega)) | (refine cellThru hb2 ?_ (cellThru (belowAlloc (belowAlloc (Below.refl _ _) _) _) hz1_1 q1_1_0); first | omega | (simp; omega)) | (refine cellThru hb2 ?_ ?_; (first | omega | (simp; omega) | go_size); simp [go_sem, q1_1_0])
    have q2_1_1 : w2.cell? ⟨w.heap.size + 1, 1, none⟩ = some (.int .i64 f) := by first | exact cellThru hb2 hz1_1 q1_1_1 | (refine cellThru hb2 ?_ (cellThru (belowAlloc (Below.refl _ _) _) hz1_1 q1_1_1); first | omega | (simp; omega)) | (refine cellThru hb2 ?_ (cellThru (belowAlloc (belowAlloc (Below.refl _ _) _) _) hz1_1 q1_1_1); first | omega | (simp; omega)) | (refine cellThru hb2 ?_ ?_; (first | omega | (simp; omega) | go_size); simp [go_sem, q1_1_1])
    have q2_1_2 : w2.cell? ⟨w.heap.size + 1, 2, none⟩ = some (.int .i64 g) := by first | exact cellThru hb2 hz1_1 q1_1_2 | (refine cellThru hb2 ?_ (cellThru (belowAlloc (Below.refl _ _) _) hz1_1 q1_1_2); first | omega | (simp; omega)) | (refine cellThru hb2 ?_ (cellThru (belowAlloc (belowAlloc (Below.refl _ _) _) _) hz1_1 q1_1_2); first | omega | (simp; omega)) | (refine cellThru hb2 ?_ ?_; (first | omega | (simp; omega) | go_size); simp [go_sem, q1_1_2])
    have q2_1_3 : w2.cell? ⟨w.heap.size + 1, 3, none⟩ = some (.int .i64 h) := by first | exact cellThru hb2 hz1_1 q1_1_3 | (refine cellThru hb2 ?_ (cellThru (belowAlloc (Below.refl _ _) _) hz1_1 q1_1_3); first | omega | (simp; omega)) | (refine cellThru hb2 ?_ (cellThru (belowAlloc (belowAlloc (Below.refl _ _) _) _) hz1_1 q1_1_3); first | omega | (simp; omega)) | (refine cellThru hb2 ?_ ?_; (first | omega | (simp; omega) | go_size); simp [go_sem, q1_1_3])
    go_wp2_with fail
    refine (HD.out _).mono ?_
    rintro e w3 ⟨rfl, hb3⟩
    obtain ⟨hc3, hf3⟩ := bcell hb3
    have hz3_0 : w.heap.size < w3.heap.size := by have := hb3.size; first | omega | (simp at this; omega)
    have hz3_1 : w.heap.size + 1 < w3.heap.size := by have := hb3.size; first | omega | (simp at this; omega)
    have q3_1_0 : w3.cell? ⟨w.heap.size + 1, 0, none⟩ = some (.int .i64 e) := by first | exact cellThru hb3 hz2_1 q2_1_0 | (refine cellThru hb3 ?_ (cellThru (belowAlloc (Below.refl _ _) _) hz2_1 q2_1_0); first | omega | (simp; omega)) | (refine cellThru hb3 ?_ (cellThru (belowAlloc (belowAlloc (Below.refl _ _) _) _) hz2_1 q2_1_0); first | omega | (simp; omega)) | (refine cellThru hb3 ?_ ?_; (first | omega | (simp; omega) | go_size); simp [go_sem, q2_1_0])
    have q3_1_1 : w3.cell? ⟨w.heap.size + 1, 1, none⟩ = some (.int .i64 f) := by first | exact cellThru hb3 hz2_1 q2_1_1 | (refine cellThru hb3 ?_ (cellThru (belowAlloc (Below.refl _ _) _) hz2_1 q2_1_1); first | omega | (simp; omega)) | (refine cellThru hb3 ?_ (cellThru (belowAlloc (belowAlloc (Below.refl _ _) _) _) hz2_1 q2_1_1); first | omega | (simp; omega)) | (refine cellThru hb3 ?_ ?_; (first | omega | (simp; omega) | go_size); simp [go_sem, q2_1_1])
    have q3_1_2 : w3.cell? ⟨w.heap.size + 1, 2, none⟩ = some (.int .i64 g) := by first | exact cellThru hb3 hz2_1 q2_1_2 | (refine cellThru hb3 ?_ (cellThru (belowAlloc (Below.refl _ _) _) hz2_1 q2_1_2); first | omega | (simp; omega)) | (refine cellThru hb3 ?_ (cellThru (belowAlloc (belowAlloc (Below.refl _ _) _) _) hz2_1 q2_1_2); first | omega | (simp; omega)) | (refine cellThru hb3 ?_ ?_; (first | omega | (simp; omega) | go_size); simp [go_sem, q2_1_2])
    have q3_1_3 : w3.cell? ⟨w.heap.size + 1, 3, none⟩ = some (.int .i64 h) := by first | exact cellThru hb3 hz2_1 q2_1_3 | (refine cellThru hb3 ?_ (cellThru (belowAlloc (Below.refl _ _) _) hz2_1 q2_1_3); first | omega | (simp; omega)) | (refine cellThru hb3 ?_ (cellThru (belowAlloc (belowAlloc (Below.refl _ _) _) _) hz2_1 q2_1_3); first | omega | (simp; omega)) | (refine cellThru hb3 ?_ ?_; (first | omega | (simp; omega) | go_size); simp [go_sem, q2_1_3])
    go_wp2_with fail
    refine (HI.out _).mono ?_
    rintro e w4 ⟨rfl, hb4⟩
    obtain ⟨hc4, hf4⟩ := bcell hb4
    have hz4_0 : w.heap.size < w4.heap.size := by have := hb4.size; first | omega | (simp at this; omega)
    have hz4_1 : w.heap.size + 1 < w4.heap.size := by have := hb4.size; first | omega | (simp at this; omega)
    have q4_1_0 : w4.cell? ⟨w.heap.size + 1, 0, none⟩ = some (.int .i64 e) := by first | exact cellThru hb4 hz3_1 q3_1_0 | (refine cellThru hb4 ?_ (cellThru (belowAlloc (Below.refl _ _) _) hz3_1 q3_1_0); first | omega | (simp; omega)) | (refine cellThru hb4 ?_ (cellThru (belowAlloc (belowAlloc (Below.refl _ _) _) _) hz3_1 q3_1_0); first | omega | (simp; omega)) | (refine cellThru hb4 ?_ ?_; (first | omega | (simp; omega) | go_size); simp [go_sem, q3_1_0])
    have q4_1_1 : w4.cell? ⟨w.heap.size + 1, 1, none⟩ = some (.int .i64 f) := by first | exact cellThru hb4 hz3_1 q3_1_1 | (refine cellThru hb4 ?_ (cellThru (belowAlloc (Below.refl _ _) _) hz3_1 q3_1_1); first | omega | (simp; omega)) | (refine cellThru hb4 ?_ (cellThru (belowAlloc (belowAlloc (Below.refl _ _) _) _) hz3_1 q3_1_1); first | omega | (simp; omega)) | (refine cellThru hb4 ?_ ?_; (first | omega | (simp; omega) | go_size); simp [go_sem, q3_1_1])
    have q4_1_2 : w4.cell? ⟨w.heap.size + 1, 2, none⟩ = some (.int .i64 g) := by first | exact cellThru hb4 hz3_1 q3_1_2 | (refine cellThru hb4 ?_ (cellThru (belowAlloc (Below.refl _ _) _) hz3_1 q3_1_2); first | omega | (simp; omega)) | (refine cellThru hb4 ?_ (cellThru (belowAlloc (belowAlloc (Below.refl _ _) _) _) hz3_1 q3_1_2); first | omega | (simp; omega)) | (refine cellThru hb4 ?_ ?_; (first | omega | (simp; omega) | go_size); simp [go_sem, q3_1_2])
    have q4_1_3 : w4.cell? ⟨w.heap.size + 1, 3, none⟩ = some (.int .i64 h) := by first | exact cellThru hb4 hz3_1 q3_1_3 | (refine cellThru hb4 ?_ (cellThru (belowAlloc (Below.refl _ _) _) hz3_1 q3_1_3); first | omega | (simp; omega)) | (refine cellThru hb4 ?_ (cellThru (belowAlloc (belowAlloc (Below.refl _ _) _) _) hz3_1 q3_1_3); first | omega | (simp; omega)) | (refine cellThru hb4 ?_ ?_; (first | omega | (simp; omega) | go_size); simp [go_sem, q3_1_3])
    have hE4 : w3.heap.size < w4.heap.size := by have := hb4.size; simp at this; omega
    go_wp2
    go_ret2
    refine ⟨none, 0, rfl, lfOwn_nil, ?_⟩
    (repeat' (first | (with_reducible exact Below.refl _ _) | (with_reducible assumption) | (with_reducible refine belowNext ?_ (by with_reducible assumption)) | (with_reducible refine belowAlloc ?_ _) | (with_reducible refine Below.drew ?_) | (with_reducible refine below_drewN ?_ _) | (with_reducible refine Below.setCell ?_ ?_ _) | go_size | (with_reducible refine sizeOf' ?_) | (with_reducible refine sizeAdd ?_) | (dsimp only; first | (with_reducible refine sizeOf' ?_) | (with_reducible refine sizeAdd ?_))))
  · rw [s2] at Q1
    clear s1 s2 s4 Q2 h1 h2 h2' E1 E2 hl hd r1 r2 r3 r4 hlt
    generalize redN (2 * e) f = X at *
    generalize redD (2 * e) f = Y at *
    go_enter Try.func36, Try.ntmps36
    go_wp2_with fail
    refine (H1.out _).mono ?_
    rintro e w1 ⟨rfl, hb1⟩
    obtain ⟨hc1, hf1⟩ := bcell hb1
    have hz1_0 : w.heap.size < w1.heap.size := by have := hb1.size; first | omega | (simp at this; omega)
    have hz1_1 : w.heap.size + 1 < w1.heap.size := by have := hb1.size; first | omega | (simp at this; omega)
    have q1_1_0 : w1.cell? ⟨w.heap.size + 1, 0, none⟩ = some (.int .i64 e) := cellThru hb1 (by simp <;> omega) (by simp [go_sem])
    have q1_1_1 : w1.cell? ⟨w.heap.size + 1, 1, none⟩ = some (.int .i64 f) := cellThru hb1 (by simp <;> omega) (by simp [go_sem])
    have q1_1_2 : w1.cell? ⟨w.heap.size + 1, 2, none⟩ = some (.int .i64 g) := cellThru hb1 (by simp <;> omega) (by simp [go_sem])
    have q1_1_3 : w1.cell? ⟨w.heap.size + 1, 3, none⟩ = some (.int .i64 h) := cellThru hb1 (by simp <;> omega) (by simp [go_sem])
    go_wp2_with fail
    refine (H2.out _).mono ?_
    rintro e w2 ⟨rfl, hb2⟩
    obtain ⟨hc2, hf2⟩ := bcell hb2
    have hz2_0 : w.heap.size < w2.heap.size := by have := hb2.size; first | omega | (simp at this; omega)
    have hz2_1 : w.heap.size + 1 < w2.heap.size := by have := hb2.size; first | omega | (simp at this; omega)
    have q2_1_0 : w2.cell? ⟨w.heap.size + 1, 0, none⟩ = some (.int .i64 e) := by first | exact cellThru hb2 hz1_1 q1_1_0 | (refine cellThru hb2 ?_ (cellThru (belowAlloc (Below.refl _ _) _) hz1_1 q1_1_0); first | omega | (simp; omega)) | (refine cellThru hb2 ?_ (cellThru (belowAlloc (belowAlloc (Below.refl _ _) _) _) hz1_1 q1_1_0); first | omega | (simp; omega)) | (refine cellThru hb2 ?_ ?_; (first | omega | (simp; omega) | go_size); simp [go_sem, q1_1_0])
    have q2_1_1 : w2.cell? ⟨w.heap.size + 1, 1, none⟩ = some (.int .i64 f) := by first | exact cellThru hb2 hz1_1 q1_1_1 | (refine cellThru hb2 ?_ (cellThru (belowAlloc (Below.refl _ _) _) hz1_1 q1_1_1); first | omega | (simp; omega)) | (refine cellThru hb2 ?_ (cellThru (belowAlloc (belowAlloc (Below.refl _ _) _) _) hz1_1 q1_1_1); first | omega | (simp; omega)) | (refine cellThru hb2 ?_ ?_; (first | omega | (simp; omega) | go_size); simp [go_sem, q1_1_1])
    have q2_1_2 : w2.cell? ⟨w.heap.size + 1, 2, none⟩ = some (.int .i64 g) := by first | exact cellThru hb2 hz1_1 q1_1_2 | (refine cellThru hb2 ?_ (cellThru (belowAlloc (Below.refl _ _) _) hz1_1 q1_1_2); first | omega | (simp; omega)) | (refine cellThru hb2 ?_ (cellThru (belowAlloc (belowAlloc (Below.refl _ _) _) _) hz1_1 q1_1_2); first | omega | (simp; omega)) | (refine cellThru hb2 ?_ ?_; (first | omega | (simp; omega) | go_size); simp [go_sem, q1_1_2])
    have q2_1_3 : w2.cell? ⟨w.heap.size + 1, 3, none⟩ = some (.int .i64 h) := by first | exact cellThru hb2 hz1_1 q1_1_3 | (refine cellThru hb2 ?_ (cellThru (belowAlloc (Below.refl _ _) _) hz1_1 q1_1_3); first | omega | (simp; omega)) | (refine cellThru hb2 ?_ (cellThru (belowAlloc (belowAlloc (Below.refl _ _) _) _) hz1_1 q1_1_3); first | omega | (simp; omega)) | (refine cellThru hb2 ?_ ?_; (first | omega | (simp; omega) | go_size); simp [go_sem, q1_1_3])
    go_wp2_with fail
    refine (HD.out _).mono ?_
    rintro e w3 ⟨rfl, hb3⟩
    obtain ⟨hc3, hf3⟩ := bcell hb3
    have hz3_0 : w.heap.size < w3.heap.size := by have := hb3.size; first | omega | (simp at this; omega)
    have hz3_1 : w.heap.size + 1 < w3.heap.size := by have := hb3.size; first | omega | (simp at this; omega)
    have q3_1_0 : w3.cell? ⟨w.heap.size + 1, 0, none⟩ = some (.int .i64 e) := by first | exact cellThru hb3 hz2_1 q2_1_0 | (refine cellThru hb3 ?_ (cellThru (belowAlloc (Below.refl _ _) _) hz2_1 q2_1_0); first | omega | (simp; omega)) | (refine cellThru hb3 ?_ (cellThru (belowAlloc (belowAlloc (Below.refl _ _) _) _) hz2_1 q2_1_0); first | omega | (simp; omega)) | (refine cellThru hb3 ?_ ?_; (first | omega | (simp; omega) | go_size); simp [go_sem, q2_1_0])
    have q3_1_1 : w3.cell? ⟨w.heap.size + 1, 1, none⟩ = some (.int .i64 f) := by first | exact cellThru hb3 hz2_1 q2_1_1 | (refine cellThru hb3 ?_ (cellThru (belowAlloc (Below.refl _ _) _) hz2_1 q2_1_1); first | omega | (simp; omega)) | (refine cellThru hb3 ?_ (cellThru (belowAlloc (belowAlloc (Below.refl _ _) _) _) hz2_1 q2_1_1); first | omega | (simp; omega)) | (refine cellThru hb3 ?_ ?_; (first | omega | (simp; omega) | go_size); simp [go_sem, q2_1_1])
    have q3_1_2 : w3.cell? ⟨w.heap.size + 1, 2, none⟩ = some (.int .i64 g) := by first | exact cellThru hb3 hz2_1 q2_1_2 | (refine cellThru hb3 ?_ (cellThru (belowAlloc (Below.refl _ _) _) hz2_1 q2_1_2); first | omega | (simp; omega)) | (refine cellThru hb3 ?_ (cellThru (belowAlloc (belowAlloc (Below.refl _ _) _) _) hz2_1 q2_1_2); first | omega | (simp; omega)) | (refine cellThru hb3 ?_ ?_; (first | omega | (simp; omega) | go_size); simp [go_sem, q2_1_2])
    have q3_1_3 : w3.cell? ⟨w.heap.size + 1, 3, none⟩ = some (.int .i64 h) := by first | exact cellThru hb3 hz2_1 q2_1_3 | (refine cellThru hb3 ?_ (cellThru (belowAlloc (Below.refl _ _) _) hz2_1 q2_1_3); first | omega | (simp; omega)) | (refine cellThru hb3 ?_ (cellThru (belowAlloc (belowAlloc (Below.refl _ _) _) _) hz2_1 q2_1_3); first | omega | (simp; omega)) | (refine cellThru hb3 ?_ ?_; (first | omega | (simp; omega) | go_size); simp [go_sem, q2_1_3])
    go_wp2_with fail
    refine (HI.out _).mono ?_
    rintro e w4 ⟨rfl, hb4⟩
    obtain ⟨hc4, hf4⟩ := bcell hb4
    have hz4_0 : w.heap.size < w4.heap.size := by have := hb4.size; first | omega | (simp at this; omega)
    have hz4_1 : w.heap.size + 1 < w4.heap.size := by have := hb4.size; first | omega | (simp at this; omega)
    have q4_1_0 : w4.cell? ⟨w.heap.size + 1, 0, none⟩ = some (.int .i64 e) := by first | exact cellThru hb4 hz3_1 q3_1_0 | (refine cellThru hb4 ?_ (cellThru (belowAlloc (Below.refl _ _) _) hz3_1 q3_1_0); first | omega | (simp; omega)) | (refine cellThru hb4 ?_ (cellThru (belowAlloc (belowAlloc (Below.refl _ _) _) _) hz3_1 q3_1_0); first | omega | (simp; omega)) | (refine cellThru hb4 ?_ ?_; (first | omega | (simp; omega) | go_size); simp [go_sem, q3_1_0])
    have q4_1_1 : w4.cell? ⟨w.heap.size + 1, 1, none⟩ = some (.int .i64 f) := by first | exact cellThru hb4 hz3_1 q3_1_1 | (refine cellThru hb4 ?_ (cellThru (belowAlloc (Below.refl _ _) _) hz3_1 q3_1_1); first | omega | (simp; omega)) | (refine cellThru hb4 ?_ (cellThru (belowAlloc (belowAlloc (Below.refl _ _) _) _) hz3_1 q3_1_1); first | omega | (simp; omega)) | (refine cellThru hb4 ?_ ?_; (first | omega | (simp; omega) | go_size); simp [go_sem, q3_1_1])
    have q4_1_2 : w4.cell? ⟨w.heap.size + 1, 2, none⟩ = some (.int .i64 g) := by first | exact cellThru hb4 hz3_1 q3_1_2 | (refine cellThru hb4 ?_ (cellThru (belowAlloc (Below.refl _ _) _) hz3_1 q3_1_2); first | omega | (simp; omega)) | (refine cellThru hb4 ?_ (cellThru (belowAlloc (belowAlloc (Below.refl _ _) _) _) hz3_1 q3_1_2); first | omega | (simp; omega)) | (refine cellThru hb4 ?_ ?_; (first | omega | (simp; omega) | go_size); simp [go_sem, q3_1_2])
    have q4_1_3 : w4.cell? ⟨w.heap.size + 1, 3, none⟩ = some (.int .i64 h) := by first | exact cellThru hb4 hz3_1 q3_1_3 | (refine cellThru hb4 ?_ (cellThru (belowAlloc (Below.refl _ _) _) hz3_1 q3_1_3); first | omega | (simp; omega)) | (refine cellThru hb4 ?_ (cellThru (belowAlloc (belowAlloc (Below.refl _ _) _) _) hz3_1 q3_1_3); first | omega | (simp; omega)) | (refine cellThru hb4 ?_ ?_; (first | omega | (simp; omega) | go_size); simp [go_sem, q3_1_3])
    have hE4 : w3.heap.size < w4.heap.size := by have := hb4.size; simp at this; omega
    go_wp2
    go_ret2
    refine ⟨none, 0, rfl, lfOwn_nil, ?_⟩
    (repeat' (first | (with_reducible exact Below.refl _ _) | (with_reducible assumption) | (with_reducible refine belowNext ?_ (by with_reducible assumption)) | (with_reducible refine belowAlloc ?_ _) | (with_reducible refine Below.drew ?_) | (with_reducible refine below_drewN ?_ _) | (with_reducible refine Below.setCell ?_ ?_ _) | go_size | (with_reducible refine sizeOf' ?_) | (with_reducible refine sizeAdd ?_) | (dsimp only; first | (with_reducible refine sizeOf' ?_) | (with_reducible refine sizeAdd ?_))))
  · rw [s2] at Q1
    rw [s3] at Q2
    clear s1 s2 s3 s4 h1 h2 h2' E1 E2 hl hd r1 r2 r3 r4 hlt
    generalize redN (2 * e) f = X at *
    generalize redD (2 * e) f = Y at *
    go_enter Try.func36, Try.ntmps36
    go_wp2_with fail
    refine (H1.out _).mono ?_
    rintro e w1 ⟨rfl, hb1⟩
    obtain ⟨hc1, hf1⟩ := bcell hb1
    have hz1_0 : w.heap.size < w1.heap.size := by have := hb1.size; first | omega | (simp at this; omega)
    have hz1_1 : w.heap.size + 1 < w1.heap.size := by have := hb1.size; first | omega | (simp at this; omega)
    have q1_1_0 : w1.cell? ⟨w.heap.size + 1, 0, none⟩ = some (.int .i64 e) := cellThru hb1 (by simp <;> omega) (by simp [go_sem])
    have q1_1_1 : w1.cell? ⟨w.heap.size + 1, 1, none⟩ = some (.int .i64 f) := cellThru hb1 (by simp <;> omega) (by simp [go_sem])
    have q1_1_2 : w1.cell? ⟨w.heap.size + 1, 2, none⟩ = some (.int .i64 g) := cellThru hb1 (by simp <;> omega) (by simp [go_sem])
    have q1_1_3 : w1.cell? ⟨w.heap.size + 1, 3, none⟩ = some (.int .i64 h) := cellThru hb1 (by simp <;> omega) (by simp [go_sem])
    go_wp2_with fail
    refine (H2.out _).mono ?_
    rintro e w2 ⟨rfl, hb2⟩
    obtain ⟨hc2, hf2⟩ := bcell hb2
    have hz2_0 : w.heap.size < w2.heap.size := by have := hb2.size; first | omega | (simp at this; omega)
    have hz2_1 : w.heap.size + 1 < w2.heap.size := by have := hb2.size; first | omega | (simp at this; omega)
    have q2_1_0 : w2.cell? ⟨w.heap.size + 1, 0, none⟩ = some (.int .i64 e) := by first | exact cellThru hb2 hz1_1 q1_1_0 | (refine cellThru hb2 ?_ (cellThru (belowAlloc (Below.refl _ _) _) hz1_1 q1_1_0); first | omega | (simp; omega)) | (refine cellThru hb2 ?_ (cellThru (belowAlloc (belowAlloc (Below.refl _ _) _) _) hz1_1 q1_1_0); first | omega | (simp; omega)) | (refine cellThru hb2 ?_ ?_; (first | omega | (simp; omega) | go_size); simp [go_sem, q1_1_0])
    have q2_1_1 : w2.cell? ⟨w.heap.size + 1, 1, none⟩ = some (.int .i64 f) := by first | exact cellThru hb2 hz1_1 q1_1_1 | (refine cellThru hb2 ?_ (cellThru (belowAlloc (Below.refl _ _) _) hz1_1 q1_1_1); first | omega | (simp; omega)) | (refine cellThru hb2 ?_ (cellThru (belowAlloc (belowAlloc (Below.refl _ _) _) _) hz1_1 q1_1_1); first | omega | (simp; omega)) | (refine cellThru hb2 ?_ ?_; (first | omega | (simp; omega) | go_size); simp [go_sem, q1_1_1])
    have q2_1_2 : w2.cell? ⟨w.heap.size + 1, 2, none⟩ = some (.int .i64 g) := by first | exact cellThru hb2 hz1_1 q1_1_2 | (refine cellThru hb2 ?_ (cellThru (belowAlloc (Below.refl _ _) _) hz1_1 q1_1_2); first | omega | (simp; omega)) | (refine cellThru hb2 ?_ (cellThru (belowAlloc (belowAlloc (Below.refl _ _) _) _) hz1_1 q1_1_2); first | omega | (simp; omega)) | (refine cellThru hb2 ?_ ?_; (first | omega | (simp; omega) | go_size); simp [go_sem, q1_1_2])
    have q2_1_3 : w2.cell? ⟨w.heap.size + 1, 3, none⟩ = some (.int .i64 h) := by first | exact cellThru hb2 hz1_1 q1_1_3 | (refine cellThru hb2 ?_ (cellThru (belowAlloc (Below.refl _ _) _) hz1_1 q1_1_3); first | omega | (simp; omega)) | (refine cellThru hb2 ?_ (cellThru (belowAlloc (belowAlloc (Below.refl _ _) _) _) hz1_1 q1_1_3); first | omega | (simp; omega)) | (refine cellThru hb2 ?_ ?_; (first | omega | (simp; omega) | go_size); simp [go_sem, q1_1_3])
    go_wp2_with fail
    refine (HD.out _).mono ?_
    rintro e w3 ⟨rfl, hb3⟩
    obtain ⟨hc3, hf3⟩ := bcell hb3
    have hz3_0 : w.heap.size < w3.heap.size := by have := hb3.size; first | omega | (simp at this; omega)
    have hz3_1 : w.heap.size + 1 < w3.heap.size := by have := hb3.size; first | omega | (simp at this; omega)
    have q3_1_0 : w3.cell? ⟨w.heap.size + 1, 0, none⟩ = some (.int .i64 e) := by first | exact cellThru hb3 hz2_1 q2_1_0 | (refine cellThru hb3 ?_ (cellThru (belowAlloc (Below.refl _ _) _) hz2_1 q2_1_0); first | omega | (simp; omega)) | (refine cellThru hb3 ?_ (cellThru (belowAlloc (belowAlloc (Below.refl _ _) _) _) hz2_1 q2_1_0); first | omega | (simp; omega)) | (refine cellThru hb3 ?_ ?_; (first | omega | (simp; omega) | go_size); simp [go_sem, q2_1_0])
    have q3_1_1 : w3.cell? ⟨w.heap.size + 1, 1, none⟩ = some (.int .i64 f) := by first | exact cellThru hb3 hz2_1 q2_1_1 | (refine cellThru hb3 ?_ (cellThru (belowAlloc (Below.refl _ _) _) hz2_1 q2_1_1); first | omega | (simp; omega)) | (refine cellThru hb3 ?_ (cellThru (belowAlloc (belowAlloc (Below.refl _ _) _) _) hz2_1 q2_1_1); first | omega | (simp; omega)) | (refine cellThru hb3 ?_ ?_; (first | omega | (simp; omega) | go_size); simp [go_sem, q2_1_1])
    have q3_1_2 : w3.cell? ⟨w.heap.size + 1, 2, none⟩ = some (.int .i64 g) := by first | exact cellThru hb3 hz2_1 q2_1_2 | (refine cellThru hb3 ?_ (cellThru (belowAlloc (Below.refl _ _) _) hz2_1 q2_1_2); first | omega | (simp; omega)) | (refine cellThru hb3 ?_ (cellThru (belowAlloc (belowAlloc (Below.refl _ _) _) _) hz2_1 q2_1_2); first | omega | (simp; omega)) | (refine cellThru hb3 ?_ ?_; (first | omega | (simp; omega) | go_size); simp [go_sem, q2_1_2])
    have q3_1_3 : w3.cell? ⟨w.heap.size + 1, 3, none⟩ = some (.int .i64 h) := by first | exact cellThru hb3 hz2_1 q2_1_3 | (refine cellThru hb3 ?_ (cellThru (belowAlloc (Below.refl _ _) _) hz2_1 q2_1_3); first | omega | (simp; omega)) | (refine cellThru hb3 ?_ (cellThru (belowAlloc (belowAlloc (Below.refl _ _) _) _) hz2_1 q2_1_3); first | omega | (simp; omega)) | (refine cellThru hb3 ?_ ?_; (first | omega | (simp; omega) | go_size); simp [go_sem, q2_1_3])
    go_wp2_with fail
    refine (HI.out _).mono ?_
    rintro e w4 ⟨rfl, hb4⟩
    obtain ⟨hc4, hf4⟩ := bcell hb4
    have hz4_0 : w.heap.size < w4.heap.size := by have := hb4.size; first | omega | (simp at this; omega)
    have hz4_1 : w.heap.size + 1 < w4.heap.size := by have := hb4.size; first | omega | (simp at this; omega)
    have q4_1_0 : w4.cell? ⟨w.heap.size + 1, 0, none⟩ = some (.int .i64 e) := by first | exact cellThru hb4 hz3_1 q3_1_0 | (refine cellThru hb4 ?_ (cellThru (belowAlloc (Below.refl _ _) _) hz3_1 q3_1_0); first | omega | (simp; omega)) | (refine cellThru hb4 ?_ (cellThru (belowAlloc (belowAlloc (Below.refl _ _) _) _) hz3_1 q3_1_0); first | omega | (simp; omega)) | (refine cellThru hb4 ?_ ?_; (first | omega | (simp; omega) | go_size); simp [go_sem, q3_1_0])
    have q4_1_1 : w4.cell? ⟨w.heap.size + 1, 1, none⟩ = some (.int .i64 f) := by first | exact cellThru hb4 hz3_1 q3_1_1 | (refine cellThru hb4 ?_ (cellThru (belowAlloc (Below.refl _ _) _) hz3_1 q3_1_1); first | omega | (simp; omega)) | (refine cellThru hb4 ?_ (cellThru (belowAlloc (belowAlloc (Below.refl _ _) _) _) hz3_1 q3_1_1); first | omega | (simp; omega)) | (refine cellThru hb4 ?_ ?_; (first | omega | (simp; omega) | go_size); simp [go_sem, q3_1_1])
    have q4_1_2 : w4.cell? ⟨w.heap.size + 1, 2, none⟩ = some (.int .i64 g) := by first | exact cellThru hb4 hz3_1 q3_1_2 | (refine cellThru hb4 ?_ (cellThru (belowAlloc (Below.refl _ _) _) hz3_1 q3_1_2); first | omega | (simp; omega)) | (refine cellThru hb4 ?_ (cellThru (belowAlloc (belowAlloc (Below.refl _ _) _) _) hz3_1 q3_1_2); first | omega | (simp; omega)) | (refine cellThru hb4 ?_ ?_; (first | omega | (simp; omega) | go_size); simp [go_sem, q3_1_2])
    have q4_1_3 : w4.cell? ⟨w.heap.size + 1, 3, none⟩ = some (.int .i64 h) := by first | exact cellThru hb4 hz3_1 q3_1_3 | (refine cellThru hb4 ?_ (cellThru (belowAlloc (Below.refl _ _) _) hz3_1 q3_1_3); first | omega | (simp; omega)) | (refine cellThru hb4 ?_ (cellThru (belowAlloc (belowAlloc (Below.refl _ _) _) _) hz3_1 q3_1_3); first | omega | (simp; omega)) | (refine cellThru hb4 ?_ ?_; (first | omega | (simp; omega) | go_size); simp [go_sem, q3_1_3])
    have hE4 : w3.heap.size < w4.heap.size := by have := hb4.size; simp at this; omega
    go_wp2
    go_ret2
    refine ⟨none, 0, rfl, lfOwn_nil, ?_⟩
    (repeat' (first | (with_reducible exact Below.refl _ _) | (with_reducible assumption) | (with_reducible refine belowNext ?_ (by with_reducible assumption)) | (with_reducible refine belowAlloc ?_ _) | (with_reducible refine Below.drew ?_) | (with_reducible refine below_drewN ?_ _) | (with_reducible refine Below.setCell ?_ ?_ _) | go_size | (with_reducible refine sizeOf' ?_) | (with_reducible refine sizeAdd ?_) | (dsimp only; first | (with_reducible refine sizeOf' ?_) | (with_reducible refine sizeAdd ?_))))

set_option maxHeartbeats 4000000 in
theorem specPb2 (a b c d e f g h : Int) (w : World) (h1 : pbOk a b c d e f g h = true) (h2 : pbSt a b c d e f g h = false) (h3 : pbHal a b c d = false) :
    Calls Try.prog 36 #[leafV a b c d, leafV e f g h] w (ResLf w (pbL a b c d e f g h) (pbC a b c d e f g h)) := by
  have H1 := Lib.hid (fun w => specLf1 a b c d w)
  have H2 := Lib.hid (fun w => specLf1 e f g h w)
  have hl : isLf a b c d = true := by unfold pbOk at h1; rw [Bool.and_eq_true] at h1; exact h1.1
  have hd : isLf e f g h = true := by unfold pbOk at h1; rw [Bool.and_eq_true] at h1; exact h1.2
  obtain ⟨r1, r2, hlt⟩ := isLf_yes hl
  obtain ⟨r3, r4, -⟩ := isLf_yes hd
  rw [hl] at H1
  rw [hd] at H2
  have HD := Lib.hid (fun w => specDbl e f w r3.1 r3.2.1 r3.2.2.1 (by obtain ⟨_, _, _, _⟩ := r3; omega))
  have HI := Lib.hid (fun w => specDia e f g h w (okOf r3) (okOf r4))
  have Q1 := fun W => eqlAng a b (redN (2 * e) f) (redD (2 * e) f) W
  have Q2 := fun W => eqlAng c d (redN (2 * e) f) (redD (2 * e) f) W
  rw [eqA_comm a b (redN (2 * e) f)] at Q1
  rw [eqA_comm c d (redN (2 * e) f)] at Q2
  have h2' := h2
  unfold pbSt at h2'
  rcases st_cases (diaB e f g h) (eqA (redN (2 * e) f) (redD (2 * e) f) a b) (eqA (redN (2 * e) f) (redD (2 * e) f) c d) with ⟨s1, s4⟩ | ⟨s1, s2, s4⟩ | ⟨s1, s2, s3, s4⟩ | ⟨s1, s2, s3, s4⟩
  · rw [s4] at h2'; cases h2'
  · rw [s4] at h2'; cases h2'
  · rw [s4] at h2'; cases h2'
  rw [s1] at HI
  rw [s2] at Q1
  rw [s3] at Q2
  clear s1 s2 s3 s4 h2'
  have HX := Lib.hid (fun w => specHal3 a b w (okOf r1))
  have HY := Lib.hid (fun w => specHal3 c d w (okOf r2))
  obtain ⟨E1, E2⟩ := pb_far h1 h2 h3
  rw [E1, E2]
  unfold pbHal at h3
  clear E1 E2 hl hd r1 r2 r3 r4 h1 h2 hlt
  rcases two_bool (halOk a b) (halOk c d) with ⟨s1, s2⟩ | ⟨s1, s3, s2⟩ | ⟨s1, s3, s2⟩
  · rw [s1] at HX
    clear s1 s2 h3
    generalize halOk c d = KK at *
    generalize redN a (2 * b) = x0 at *
    generalize redD a (2 * b) = y0 at *
    generalize redN (a + b) (2 * b) = x1 at *
    generalize redD (a + b) (2 * b) = y1 at *
    generalize redN c (2 * d) = u0 at *
    generalize redD c (2 * d) = v0 at *
    generalize redN (c + d) (2 * d) = u1 at *
    generalize redD (c + d) (2 * d) = v1 at *
    generalize redN (2 * e) f = X at *
    generalize redD (2 * e) f = Y at *
    go_enter Try.func36, Try.ntmps36
    go_wp2_with fail
    refine (H1.out _).mono ?_
    rintro e w1 ⟨rfl, hb1⟩
    obtain ⟨hc1, hf1⟩ := bcell hb1
    have hz1_0 : w.heap.size < w1.heap.size := by have := hb1.size; first | omega | (simp at this; omega)
    have hz1_1 : w.heap.size + 1 < w1.heap.size := by have := hb1.size; first | omega | (simp at this; omega)
    have q1_1_0 : w1.cell? ⟨w.heap.size + 1, 0, none⟩ = some (.int .i64 e) := cellThru hb1 (by simp <;> omega) (by simp [go_sem])
    have q1_1_1 : w1.cell? ⟨w.heap.size + 1, 1, none⟩ = some (.int .i64 f) := cellThru hb1 (by simp <;> omega) (by simp [go_sem])
    have q1_1_2 : w1.cell? ⟨w.heap.size + 1, 2, none⟩ = some (.int .i64 g) := cellThru hb1 (by simp <;> omega) (by simp [go_sem])
    have q1_1_3 : w1.cell? ⟨w.heap.size + 1, 3, none⟩ = some (.int .i64 h) := cellThru hb1 (by simp <;> omega) (by simp [go_sem])
    go_wp2_with fail
    refine (H2.out _).mono ?_
    rintro e w2 ⟨rfl, hb2⟩
    obtain ⟨hc2, hf2⟩ := bcell hb2
    have hz2_0 : w.heap.size < w2.heap.size := by have := hb2.size; first | omega | (simp at this; omega)
    have hz2_1 : w.heap.size + 1 < w2.heap.size := by have := hb2.size; first | omega | (simp at this; omega)
    have q2_1_0 : w2.cell? ⟨w.heap.size + 1, 0, none⟩ = some (.int .i64 e) := by first | exact cellThru hb2 hz1_1 q1_1_0 | (refine cellThru hb2 ?_ (cellThru (belowAlloc (Below.refl _ _) _) hz1_1 q1_1_0); first | omega | (simp; omega)) | (refine cellThru hb2 ?_ (cellThru (belowAlloc (belowAlloc (Below.refl _ _) _) _) hz1_1 q1_1_0); first | omega | (simp; omega)) | (refine cellThru hb2 ?_ ?_; (first | omega | (simp; omega) | go_size); simp [go_sem, q1_1_0])
    have q2_1_1 : w2.cell? ⟨w.heap.size + 1, 1, none⟩ = some (.int .i64 f) := by first | exact cellThru hb2 hz1_1 q1_1_1 | (refine cellThru hb2 ?_ (cellThru (belowAlloc (Below.refl _ _) _) hz1_1 q1_1_1); first | omega | (simp; omega)) | (refine cellThru hb2 ?_ (cellThru (belowAlloc (belowAlloc (Below.refl _ _) _) _) hz1_1 q1_1_1); first | omega | (simp; omega)) | (refine cellThru hb2 ?_ ?_; (first | omega | (simp; omega) | go_size); simp [go_sem, q1_1_1])
    have q2_1_2 : w2.cell? ⟨w.heap.size + 1, 2, none⟩ = some (.int .i64 g) := by first | exact cellThru hb2 hz1_1 q1_1_2 | (refine cellThru hb2 ?_ (cellThru (belowAlloc (Below.refl _ _) _) hz1_1 q1_1_2); first | omega | (simp; omega)) | (refine cellThru hb2 ?_ (cellThru (belowAlloc (belowAlloc (Below.refl _ _) _) _) hz1_1 q1_1_2); first | omega | (simp; omega)) | (refine cellThru hb2 ?_ ?_; (first | omega | (simp; omega) | go_size); simp [go_sem, q1_1_2])
    have q2_1_3 : w2.cell? ⟨w.heap.size + 1, 3, none⟩ = some (.int .i64 h) := by first | exact cellThru hb2 hz1_1 q1_1_3 | (refine cellThru hb2 ?_ (cellThru (belowAlloc (Below.refl _ _) _) hz1_1 q1_1_3); first | omega | (simp; omega)) | (refine cellThru hb2 ?_ (cellThru (belowAlloc (belowAlloc (Below.refl _ _) _) _) hz1_1 q1_1_3); first | omega | (simp; omega)) | (refine cellThru hb2 ?_ ?_; (first | omega | (simp; omega) | go_size); simp [go_sem, q1_1_3])
    go_wp2_with fail
    refine (HD.out _).mono ?_
    rintro e w3 ⟨rfl, hb3⟩
    obtain ⟨hc3, hf3⟩ := bcell hb3
    have hz3_0 : w.heap.size < w3.heap.size := by have := hb3.size; first | omega | (simp at this; omega)
    have hz3_1 : w.heap.size + 1 < w3.heap.size := by have := hb3.size; first | omega | (simp at this; omega)
    have q3_1_0 : w3.cell? ⟨w.heap.size + 1, 0, none⟩ = some (.int .i64 e) := by first | exact cellThru hb3 hz2_1 q2_1_0 | (refine cellThru hb3 ?_ (cellThru (belowAlloc (Below.refl _ _) _) hz2_1 q2_1_0); first | omega | (simp; omega)) | (refine cellThru hb3 ?_ (cellThru (belowAlloc (belowAlloc (Below.refl _ _) _) _) hz2_1 q2_1_0); first | omega | (simp; omega)) | (refine cellThru hb3 ?_ ?_; (first | omega | (simp; omega) | go_size); simp [go_sem, q2_1_0])
    have q3_1_1 : w3.cell? ⟨w.heap.size + 1, 1, none⟩ = some (.int .i64 f) := by first | exact cellThru hb3 hz2_1 q2_1_1 | (refine cellThru hb3 ?_ (cellThru (belowAlloc (Below.refl _ _) _) hz2_1 q2_1_1); first | omega | (simp; omega)) | (refine cellThru hb3 ?_ (cellThru (belowAlloc (belowAlloc (Below.refl _ _) _) _) hz2_1 q2_1_1); first | omega | (simp; omega)) | (refine cellThru hb3 ?_ ?_; (first | omega | (simp; omega) | go_size); simp [go_sem, q2_1_1])
    have q3_1_2 : w3.cell? ⟨w.heap.size + 1, 2, none⟩ = some (.int .i64 g) := by first | exact cellThru hb3 hz2_1 q2_1_2 | (refine cellThru hb3 ?_ (cellThru (belowAlloc (Below.refl _ _) _) hz2_1 q2_1_2); first | omega | (simp; omega)) | (refine cellThru hb3 ?_ (cellThru (belowAlloc (belowAlloc (Below.refl _ _) _) _) hz2_1 q2_1_2); first | omega | (simp; omega)) | (refine cellThru hb3 ?_ ?_; (first | omega | (simp; omega) | go_size); simp [go_sem, q2_1_2])
    have q3_1_3 : w3.cell? ⟨w.heap.size + 1, 3, none⟩ = some (.int .i64 h) := by first | exact cellThru hb3 hz2_1 q2_1_3 | (refine cellThru hb3 ?_ (cellThru (belowAlloc (Below.refl _ _) _) hz2_1 q2_1_3); first | omega | (simp; omega)) | (refine cellThru hb3 ?_ (cellThru (belowAlloc (belowAlloc (Below.refl _ _) _) _) hz2_1 q2_1_3); first | omega | (simp; omega)) | (refine cellThru hb3 ?_ ?_; (first | omega | (simp; omega) | go_size); simp [go_sem, q2_1_3])
    go_wp2_with fail
    refine (HI.out _).mono ?_
    rintro e w4 ⟨rfl, hb4⟩
    obtain ⟨hc4, hf4⟩ := bcell hb4
    have hz4_0 : w.heap.size < w4.heap.size := by have := hb4.size; first | omega | (simp at this; omega)
    have hz4_1 : w.heap.size + 1 < w4.heap.size := by have := hb4.size; first | omega | (simp at this; omega)
    have q4_1_0 : w4.cell? ⟨w.heap.size + 1, 0, none⟩ = some (.int .i64 e) := by first | exact cellThru hb4 hz3_1 q3_1_0 | (refine cellThru hb4 ?_ (cellThru (belowAlloc (Below.refl _ _) _) hz3_1 q3_1_0); first | omega | (simp; omega)) | (refine cellThru hb4 ?_ (cellThru (belowAlloc (belowAlloc (Below.refl _ _) _) _) hz3_1 q3_1_0); first | omega | (simp; omega)) | (refine cellThru hb4 ?_ ?_; (first | omega | (simp; omega) | go_size); simp [go_sem, q3_1_0])
    have q4_1_1 : w4.cell? ⟨w.heap.size + 1, 1, none⟩ = some (.int .i64 f) := by first | exact cellThru hb4 hz3_1 q3_1_1 | (refine cellThru hb4 ?_ (cellThru (belowAlloc (Below.refl _ _) _) hz3_1 q3_1_1); first | omega | (simp; omega)) | (refine cellThru hb4 ?_ (cellThru (belowAlloc (belowAlloc (Below.refl _ _) _) _) hz3_1 q3_1_1); first | omega | (simp; omega)) | (refine cellThru hb4 ?_ ?_; (first | omega | (simp; omega) | go_size); simp [go_sem, q3_1_1])
    have q4_1_2 : w4.cell? ⟨w.heap.size + 1, 2, none⟩ = some (.int .i64 g) := by first | exact cellThru hb4 hz3_1 q3_1_2 | (refine cellThru hb4 ?_ (cellThru (belowAlloc (Below.refl _ _) _) hz3_1 q3_1_2); first | omega | (simp; omega)) | (refine cellThru hb4 ?_ (cellThru (belowAlloc (belowAlloc (Below.refl _ _) _) _) hz3_1 q3_1_2); first | omega | (simp; omega)) | (refine cellThru hb4 ?_ ?_; (first | omega | (simp; omega) | go_size); simp [go_sem, q3_1_2])
    have q4_1_3 : w4.cell? ⟨w.heap.size + 1, 3, none⟩ = some (.int .i64 h) := by first | exact cellThru hb4 hz3_1 q3_1_3 | (refine cellThru hb4 ?_ (cellThru (belowAlloc (Below.refl _ _) _) hz3_1 q3_1_3); first | omega | (simp; omega)) | (refine cellThru hb4 ?_ (cellThru (belowAlloc (belowAlloc (Below.refl _ _) _) _) hz3_1 q3_1_3); first | omega | (simp; omega)) | (refine cellThru hb4 ?_ ?_; (first | omega | (simp; omega) | go_size); simp [go_sem, q3_1_3])
    have hE4 : w3.heap.size < w4.heap.size := by have := hb4.size; simp at this; omega
    go_wp2_with fail
    refine (HX.out _).mono ?_
    rintro e w5 ⟨rfl, hb5⟩
    obtain ⟨hc5, hf5⟩ := bcell hb5
    have hz5_0 : w.heap.size < w5.heap.size := by have := hb5.size; first | omega | (simp at this; omega)
    have hz5_1 : w.heap.size + 1 < w5.heap.size := by have := hb5.size; first | omega | (simp at this; omega)
    have q5_1_0 : w5.cell? ⟨w.heap.size + 1, 0, none⟩ = some (.int .i64 e) := by first | exact cellThru hb5 hz4_1 q4_1_0 | (refine cellThru hb5 ?_ (cellThru (belowAlloc (Below.refl _ _) _) hz4_1 q4_1_0); first | omega | (simp; omega)) | (refine cellThru hb5 ?_ (cellThru (belowAlloc (belowAlloc (Below.refl _ _) _) _) hz4_1 q4_1_0); first | omega | (simp; omega)) | (refine cellThru hb5 ?_ ?_; (first | omega | (simp; omega) | go_size); simp [go_sem, q4_1_0])
    have q5_1_1 : w5.cell? ⟨w.heap.size + 1, 1, none⟩ = some (.int .i64 f) := by first | exact cellThru hb5 hz4_1 q4_1_1 | (refine cellThru hb5 ?_ (cellThru (belowAlloc (Below.refl _ _) _) hz4_1 q4_1_1); first | omega | (simp; omega)) | (refine cellThru hb5 ?_ (cellThru (belowAlloc (belowAlloc (Below.refl _ _) _) _) hz4_1 q4_1_1); first | omega | (simp; omega)) | (refine cellThru hb5 ?_ ?_; (first | omega | (simp; omega) | go_size); simp [go_sem, q4_1_1])
    have q5_1_2 : w5.cell? ⟨w.heap.size + 1, 2, none⟩ = some (.int .i64 g) := by first | exact cellThru hb5 hz4_1 q4_1_2 | (refine cellThru hb5 ?_ (cellThru (belowAlloc (Below.refl _ _) _) hz4_1 q4_1_2); first | omega | (simp; omega)) | (refine cellThru hb5 ?_ (cellThru (belowAlloc (belowAlloc (Below.refl _ _) _) _) hz4_1 q4_1_2); first | omega | (simp; omega)) | (refine cellThru hb5 ?_ ?_; (first | omega | (simp; omega) | go_size); simp [go_sem, q4_1_2])
    have q5_1_3 : w5.cell? ⟨w.heap.size + 1, 3, none⟩ = some (.int .i64 h) := by first | exact cellThru hb5 hz4_1 q4_1_3 | (refine cellThru hb5 ?_ (cellThru (belowAlloc (Below.refl _ _) _) hz4_1 q4_1_3); first | omega | (simp; omega)) | (refine cellThru hb5 ?_ (cellThru (belowAlloc (belowAlloc (Below.refl _ _) _) _) hz4_1 q4_1_3); first | omega | (simp; omega)) | (refine cellThru hb5 ?_ ?_; (first | omega | (simp; omega) | go_size); simp [go_sem, q4_1_3])
    have hA5 : w4.heap.size ≤ w5.heap.size := hb5.size
    go_wp2_with fail
    refine (HY.out _).mono ?_
    rintro e w6 ⟨rfl, hb6⟩
    obtain ⟨hc6, hf6⟩ := bcell hb6
    have hz6_0 : w.heap.size < w6.heap.size := by have := hb6.size; first | omega | (simp at this; omega)
    have hz6_1 : w.heap.size + 1 < w6.heap.size := by have := hb6.size; first | omega | (simp at this; omega)
    go_wp2
    go_ret2
    refine ⟨none, 0, rfl, lfOwn_nil, ?_⟩
    (repeat' (first | (with_reducible exact Below.refl _ _) | (with_reducible assumption) | (with_reducible refine belowNext ?_ (by with_reducible assumption)) | (with_reducible refine belowAlloc ?_ _) | (with_reducible refine Below.drew ?_) | (with_reducible refine below_drewN ?_ _) | (with_reducible refine Below.setCell ?_ ?_ _) | go_size | (with_reducible refine sizeOf' ?_) | (with_reducible refine sizeAdd ?_) | (dsimp only; first | (with_reducible refine sizeOf' ?_) | (with_reducible refine sizeAdd ?_))))
  · rw [s1] at HX
    rw [s3] at HY
    clear s1 s2 s3 h3
    generalize redN a (2 * b) = x0 at *
    generalize redD a (2 * b) = y0 at *
    generalize redN (a + b) (2 * b) = x1 at *
    generalize redD (a + b) (2 * b) = y1 at *
    generalize redN c (2 * d) = u0 at *
    generalize redD c (2 * d) = v0 at *
    generalize redN (c + d) (2 * d) = u1 at *
    generalize redD (c + d) (2 * d) = v1 at *
    generalize redN (2 * e) f = X at *
    generalize redD (2 * e) f = Y at *
    go_enter Try.func36, Try.ntmps36
    go_wp2_with fail
    refine (H1.out _).mono ?_
    rintro e w1 ⟨rfl, hb1⟩
    obtain ⟨hc1, hf1⟩ := bcell hb1
    have hz1_0 : w.heap.size < w1.heap.size := by have := hb1.size; first | omega | (simp at this; omega)
    have hz1_1 : w.heap.size + 1 < w1.heap.size := by have := hb1.size; first | omega | (simp at this; omega)
    have q1_1_0 : w1.cell? ⟨w.heap.size + 1, 0, none⟩ = some (.int .i64 e) := cellThru hb1 (by simp <;> omega) (by simp [go_sem])
    have q1_1_1 : w1.cell? ⟨w.heap.size + 1, 1, none⟩ = some (.int .i64 f) := cellThru hb1 (by simp <;> omega) (by simp [go_sem])
    have q1_1_2 : w1.cell? ⟨w.heap.size + 1, 2, none⟩ = some (.int .i64 g) := cellThru hb1 (by simp <;> omega) (by simp [go_sem])
    have q1_1_3 : w1.cell? ⟨w.heap.size + 1, 3, none⟩ = some (.int .i64 h) := cellThru hb1 (by simp <;> omega) (by simp [go_sem])
    go_wp2_with fail
    refine (H2.out _).mono ?_
    rintro e w2 ⟨rfl, hb2⟩
    obtain ⟨hc2, hf2⟩ := bcell hb2
    have hz2_0 : w.heap.size < w2.heap.size := by have := hb2.size; first | omega | (simp at this; omega)
    have hz2_1 : w.heap.size + 1 < w2.heap.size := by have := hb2.size; first | omega | (simp at this; omega)
    have q2_1_0 : w2.cell? ⟨w.heap.size + 1, 0, none⟩ = some (.int .i64 e) := by first | exact cellThru hb2 hz1_1 q1_1_0 | (refine cellThru hb2 ?_ (cellThru (belowAlloc (Below.refl _ _) _) hz1_1 q1_1_0); first | omega | (simp; omega)) | (refine cellThru hb2 ?_ (cellThru (belowAlloc (belowAlloc (Below.refl _ _) _) _) hz1_1 q1_1_0); first | omega | (simp; omega)) | (refine cellThru hb2 ?_ ?_; (first | omega | (simp; omega) | go_size); simp [go_sem, q1_1_0])
    have q2_1_1 : w2.cell? ⟨w.heap.size + 1, 1, none⟩ = some (.int .i64 f) := by first | exact cellThru hb2 hz1_1 q1_1_1 | (refine cellThru hb2 ?_ (cellThru (belowAlloc (Below.refl _ _) _) hz1_1 q1_1_1); first | omega | (simp; omega)) | (refine cellThru hb2 ?_ (cellThru (belowAlloc (belowAlloc (Below.refl _ _) _) _) hz1_1 q1_1_1); first | omega | (simp; omega)) | (refine cellThru hb2 ?_ ?_; (first | omega | (simp; omega) | go_size); simp [go_sem, q1_1_1])
    have q2_1_2 : w2.cell? ⟨w.heap.size + 1, 2, none⟩ = some (.int .i64 g) := by first | exact cellThru hb2 hz1_1 q1_1_2 | (refine cellThru hb2 ?_ (cellThru (belowAlloc (Below.refl _ _) _) hz1_1 q1_1_2); first | omega | (simp; omega)) | (refine cellThru hb2 ?_ (cellThru (belowAlloc (belowAlloc (Below.refl _ _) _) _) hz1_1 q1_1_2); first | omega | (simp; omega)) | (refine cellThru hb2 ?_ ?_; (first | omega | (simp; omega) | go_size); simp [go_sem, q1_1_2])
    have q2_1_3 : w2.cell? ⟨w.heap.size + 1, 3, none⟩ = some (.int .i64 h) := by first | exact cellThru hb2 hz1_1 q1_1_3 | (refine cellThru hb2 ?_ (cellThru (belowAlloc (Below.refl _ _) _) hz1_1 q1_1_3); first | omega | (simp; omega)) | (refine cellThru hb2 ?_ (cellThru (belowAlloc (belowAlloc (Below.refl _ _) _) _) hz1_1 q1_1_3); first | omega | (simp; omega)) | (refine cellThru hb2 ?_ ?_; (first | omega | (simp; omega) | go_size); simp [go_sem, q1_1_3])
    go_wp2_with fail
    refine (HD.out _).mono ?_
    rintro e w3 ⟨rfl, hb3⟩
    obtain ⟨hc3, hf3⟩ := bcell hb3
    have hz3_0 : w.heap.size < w3.heap.size := by have := hb3.size; first | omega | (simp at this; omega)
    have hz3_1 : w.heap.size + 1 < w3.heap.size := by have := hb3.size; first | omega | (simp at this; omega)
    have q3_1_0 : w3.cell? ⟨w.heap.size + 1, 0, none⟩ = some (.int .i64 e) := by first | exact cellThru hb3 hz2_1 q2_1_0 | (refine cellThru hb3 ?_ (cellThru (belowAlloc (Below.refl _ _) _) hz2_1 q2_1_0); first | omega | (simp; omega)) | (refine cellThru hb3 ?_ (cellThru (belowAlloc (belowAlloc (Below.refl _ _) _) _) hz2_1 q2_1_0); first | omega | (simp; omega)) | (refine cellThru hb3 ?_ ?_; (first | omega | (simp; omega) | go_size); simp [go_sem, q2_1_0])
    have q3_1_1 : w3.cell? ⟨w.heap.size + 1, 1, none⟩ = some (.int .i64 f) := by first | exact cellThru hb3 hz2_1 q2_1_1 | (refine cellThru hb3 ?_ (cellThru (belowAlloc (Below.refl _ _) _) hz2_1 q2_1_1); first | omega | (simp; omega)) | (refine cellThru hb3 ?_ (cellThru (belowAlloc (belowAlloc (Below.refl _ _) _) _) hz2_1 q2_1_1); first | omega | (simp; omega)) | (refine cellThru hb3 ?_ ?_; (first | omega | (simp; omega) | go_size); simp [go_sem, q2_1_1])
    have q3_1_2 : w3.cell? ⟨w.heap.size + 1, 2, none⟩ = some (.int .i64 g) := by first | exact cellThru hb3 hz2_1 q2_1_2 | (refine cellThru hb3 ?_ (cellThru (belowAlloc (Below.refl _ _) _) hz2_1 q2_1_2); first | omega | (simp; omega)) | (refine cellThru hb3 ?_ (cellThru (belowAlloc (belowAlloc (Below.refl _ _) _) _) hz2_1 q2_1_2); first | omega | (simp; omega)) | (refine cellThru hb3 ?_ ?_; (first | omega | (simp; omega) | go_size); simp [go_sem, q2_1_2])
    have q3_1_3 : w3.cell? ⟨w.heap.size + 1, 3, none⟩ = some (.int .i64 h) := by first | exact cellThru hb3 hz2_1 q2_1_3 | (refine cellThru hb3 ?_ (cellThru (belowAlloc (Below.refl _ _) _) hz2_1 q2_1_3); first | omega | (simp; omega)) | (refine cellThru hb3 ?_ (cellThru (belowAlloc (belowAlloc (Below.refl _ _) _) _) hz2_1 q2_1_3); first | omega | (simp; omega)) | (refine cellThru hb3 ?_ ?_; (first | omega | (simp; omega) | go_size); simp [go_sem, q2_1_3])
    go_wp2_with fail
    refine (HI.out _).mono ?_
    rintro e w4 ⟨rfl, hb4⟩
    obtain ⟨hc4, hf4⟩ := bcell hb4
    have hz4_0 : w.heap.size < w4.heap.size := by have := hb4.size; first | omega | (simp at this; omega)
    have hz4_1 : w.heap.size + 1 < w4.heap.size := by have := hb4.size; first | omega | (simp at this; omega)
    have q4_1_0 : w4.cell? ⟨w.heap.size + 1, 0, none⟩ = some (.int .i64 e) := by first | exact cellThru hb4 hz3_1 q3_1_0 | (refine cellThru hb4 ?_ (cellThru (belowAlloc (Below.refl _ _) _) hz3_1 q3_1_0); first | omega | (simp; omega)) | (refine cellThru hb4 ?_ (cellThru (belowAlloc (belowAlloc (Below.refl _ _) _) _) hz3_1 q3_1_0); first | omega | (simp; omega)) | (refine cellThru hb4 ?_ ?_; (first | omega | (simp; omega) | go_size); simp [go_sem, q3_1_0])
    have q4_1_1 : w4.cell? ⟨w.heap.size + 1, 1, none⟩ = some (.int .i64 f) := by first | exact cellThru hb4 hz3_1 q3_1_1 | (refine cellThru hb4 ?_ (cellThru (belowAlloc (Below.refl _ _) _) hz3_1 q3_1_1); first | omega | (simp; omega)) | (refine cellThru hb4 ?_ (cellThru (belowAlloc (belowAlloc (Below.refl _ _) _) _) hz3_1 q3_1_1); first | omega | (simp; omega)) | (refine cellThru hb4 ?_ ?_; (first | omega | (simp; omega) | go_size); simp [go_sem, q3_1_1])
    have q4_1_2 : w4.cell? ⟨w.heap.size + 1, 2, none⟩ = some (.int .i64 g) := by first | exact cellThru hb4 hz3_1 q3_1_2 | (refine cellThru hb4 ?_ (cellThru (belowAlloc (Below.refl _ _) _) hz3_1 q3_1_2); first | omega | (simp; omega)) | (refine cellThru hb4 ?_ (cellThru (belowAlloc (belowAlloc (Below.refl _ _) _) _) hz3_1 q3_1_2); first | omega | (simp; omega)) | (refine cellThru hb4 ?_ ?_; (first | omega | (simp; omega) | go_size); simp [go_sem, q3_1_2])
    have q4_1_3 : w4.cell? ⟨w.heap.size + 1, 3, none⟩ = some (.int .i64 h) := by first | exact cellThru hb4 hz3_1 q3_1_3 | (refine cellThru hb4 ?_ (cellThru (belowAlloc (Below.refl _ _) _) hz3_1 q3_1_3); first | omega | (simp; omega)) | (refine cellThru hb4 ?_ (cellThru (belowAlloc (belowAlloc (Below.refl _ _) _) _) hz3_1 q3_1_3); first | omega | (simp; omega)) | (refine cellThru hb4 ?_ ?_; (first | omega | (simp; omega) | go_size); simp [go_sem, q3_1_3])
    have hE4 : w3.heap.size < w4.heap.size := by have := hb4.size; simp at this; omega
    go_wp2_with fail
    refine (HX.out _).mono ?_
    rintro e w5 ⟨rfl, hb5⟩
    obtain ⟨hc5, hf5⟩ := bcell hb5
    have hz5_0 : w.heap.size < w5.heap.size := by have := hb5.size; first | omega | (simp at this; omega)
    have hz5_1 : w.heap.size + 1 < w5.heap.size := by have := hb5.size; first | omega | (simp at this; omega)
    have q5_1_0 : w5.cell? ⟨w.heap.size + 1, 0, none⟩ = some (.int .i64 e) := by first | exact cellThru hb5 hz4_1 q4_1_0 | (refine cellThru hb5 ?_ (cellThru (belowAlloc (Below.refl _ _) _) hz4_1 q4_1_0); first | omega | (simp; omega)) | (refine cellThru hb5 ?_ (cellThru (belowAlloc (belowAlloc (Below.refl _ _) _) _) hz4_1 q4_1_0); first | omega | (simp; omega)) | (refine cellThru hb5 ?_ ?_; (first | omega | (simp; omega) | go_size); simp [go_sem, q4_1_0])
    have q5_1_1 : w5.cell? ⟨w.heap.size + 1, 1, none⟩ = some (.int .i64 f) := by first | exact cellThru hb5 hz4_1 q4_1_1 | (refine cellThru hb5 ?_ (cellThru (belowAlloc (Below.refl _ _) _) hz4_1 q4_1_1); first | omega | (simp; omega)) | (refine cellThru hb5 ?_ (cellThru (belowAlloc (belowAlloc (Below.refl _ _) _) _) hz4_1 q4_1_1); first | omega | (simp; omega)) | (refine cellThru hb5 ?_ ?_; (first | omega | (simp; omega) | go_size); simp [go_sem, q4_1_1])
    have q5_1_2 : w5.cell? ⟨w.heap.size + 1, 2, none⟩ = some (.int .i64 g) := by first | exact cellThru hb5 hz4_1 q4_1_2 | (refine cellThru hb5 ?_ (cellThru (belowAlloc (Below.refl _ _) _) hz4_1 q4_1_2); first | omega | (simp; omega)) | (refine cellThru hb5 ?_ (cellThru (belowAlloc (belowAlloc (Below.refl _ _) _) _) hz4_1 q4_1_2); first | omega | (simp; omega)) | (refine cellThru hb5 ?_ ?_; (first | omega | (simp; omega) | go_size); simp [go_sem, q4_1_2])
    have q5_1_3 : w5.cell? ⟨w.heap.size + 1, 3, none⟩ = some (.int .i64 h) := by first | exact cellThru hb5 hz4_1 q4_1_3 | (refine cellThru hb5 ?_ (cellThru (belowAlloc (Below.refl _ _) _) hz4_1 q4_1_3); first | omega | (simp; omega)) | (refine cellThru hb5 ?_ (cellThru (belowAlloc (belowAlloc (Below.refl _ _) _) _) hz4_1 q4_1_3); first | omega | (simp; omega)) | (refine cellThru hb5 ?_ ?_; (first | omega | (simp; omega) | go_size); simp [go_sem, q4_1_3])
    have hA5 : w4.heap.size ≤ w5.heap.size := hb5.size
    go_wp2_with fail
    refine (HY.out _).mono ?_
    rintro e w6 ⟨rfl, hb6⟩
    obtain ⟨hc6, hf6⟩ := bcell hb6
    have hz6_0 : w.heap.size < w6.heap.size := by have := hb6.size; first | omega | (simp at this; omega)
    have hz6_1 : w.heap.size + 1 < w6.heap.size := by have := hb6.size; first | omega | (simp at this; omega)
    go_wp2
    go_ret2
    refine ⟨none, 0, rfl, lfOwn_nil, ?_⟩
    (repeat' (first | (with_reducible exact Below.refl _ _) | (with_reducible assumption) | (with_reducible refine belowNext ?_ (by with_reducible assumption)) | (with_reducible refine belowAlloc ?_ _) | (with_reducible refine Below.drew ?_) | (with_reducible refine below_drewN ?_ _) | (with_reducible refine Below.setCell ?_ ?_ _) | go_size | (with_reducible refine sizeOf' ?_) | (with_reducible refine sizeAdd ?_) | (dsimp only; first | (with_reducible refine sizeOf' ?_) | (with_reducible refine sizeAdd ?_))))
  · rw [s2] at h3; cases h3

end Go.Proofs.Ytkpgfafmaoaefaa

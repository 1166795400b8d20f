/-
  Contracts: lengths of leaves as they are compared; leaves that are short enough.
-/
import Derived.Test.YtlmgpecfbpcgaaaV8
namespace Go.Proofs.Ytlmgpecfbpcgaaa
open Go.RowKit

theorem cmpI_le (x y : Int) : decide (cmpI x y ≤ 0) = decide (x ≤ y) := by
  unfold cmpI
  rw [decide_eq_decide]
  split
  · omega
  · split <;> omega
theorem cmpI_lt (x y : Int) : decide (cmpI x y < 0) = decide (x < y) := by
  unfold cmpI
  rw [decide_eq_decide]
  split
  · omega
  · split <;> omega
/-- The length is at most a third. -/
def shortB (a b c d : Int) : Bool := decide (3 * dsN a b c d ≤ dsD a b c d)

set_option maxHeartbeats 1000000 in
theorem implLenOf (a b c d : Int) (w : World) (h1 : angOk a b) (h2 : angOk c d) :
    Calls Try.prog 96 #[leafV a b c d] w fun e w' => e = .returned (ang (dsN a b c d) (dsD a b c d)) ∧ Below w.heap.size w w' := by
  have H2 := Lib.hid (fun w => implDB a b c d w h1 h2)
  clear h1 h2
  generalize dsN a b c d = X at *
  generalize dsD a b c d = Y at *
  go_enter Try.func96, Try.ntmps96
  go_wp2_with fail
  refine (H2.out _).mono ?_
  rintro e w1 ⟨rfl, hb1⟩
  obtain ⟨hc1, hf1⟩ := bcell hb1
  have hz1_0 : w.heap.size < w1.heap.size := by have := hb1.size; first | omega | (simp at this; omega)
  have hz1_1 : w.heap.size + 1 < w1.heap.size := by have := hb1.size; first | omega | (simp at this; omega)
  have q1_1_0 : w1.cell? ⟨w.heap.size + 1, 0, none⟩ = some (.int .i64 0) := cellThru hb1 (by simp <;> omega) (by simp [go_sem])
  have q1_1_1 : w1.cell? ⟨w.heap.size + 1, 1, none⟩ = some (.int .i64 0) := cellThru hb1 (by simp <;> omega) (by simp [go_sem])
  go_wp2
  refine bodyPost_ret (v := ang X Y) (by simp [results, Try.results96, go_sem, q1_1_0, q1_1_1]) rfl ⟨rfl, ?_⟩
  (repeat' (first | (with_reducible exact Below.refl _ _) | (with_reducible assumption) | (with_reducible refine belowNext ?_ (by with_reducible assumption)) | (with_reducible refine belowAlloc ?_ _) | (with_reducible refine Below.drew ?_) | (with_reducible refine below_drewN ?_ _) | (with_reducible refine Below.setCell ?_ ?_ _) | go_size | (with_reducible refine sizeOf' ?_) | (with_reducible refine sizeAdd ?_) | (dsimp only; first | (with_reducible refine sizeOf' ?_) | (with_reducible refine sizeAdd ?_))))

set_option maxHeartbeats 1000000 in
theorem implCmpLen (a b c d e f g h : Int) (w : World) (h1 : angOk a b) (h2 : angOk c d) (h3 : angOk e f) (h4 : angOk g h) :
    Calls Try.prog 56 #[leafV a b c d, leafV e f g h] w fun e' w' => e' = .returned (.int .i64 (cmpI (dsN a b c d * dsD e f g h) (dsN e f g h * dsD a b c d))) ∧ Below w.heap.size w w' := by
  have H1 := Lib.hid (fun w => implLenOf a b c d w h1 h2)
  have H2 := Lib.hid (fun w => implLenOf e f g h w h3 h4)
  have H3 := Lib.hid (fun w => cmpAngV (dsN a b c d) (dsD a b c d) (dsN e f g h) (dsD e f g h) w (ds_W h1 h2) (ds_W h3 h4))
  clear h1 h2 h3 h4
  generalize dsN a b c d = X at *
  generalize dsD a b c d = Y at *
  generalize dsN e f g h = X' at *
  generalize dsD e f g h = Y' at *
  generalize cmpI (X * Y') (X' * Y) = C at *
  go_enter Try.func56, Try.ntmps56
  go_wp2_with fail
  go_region_with (first
      | (go_at_call 96; (with_reducible refine (H1.out _).mono ?_); rintro e' w1 ⟨rfl, hb1⟩; obtain ⟨hc1, hf1⟩ := bcell hb1; have hz1 : w.heap.size < w1.heap.size := (by have := hb1.size; first | omega | (simp at this; omega)); have hz1' : w.heap.size + 1 < w1.heap.size := (by have := hb1.size; first | omega | (simp at this; omega)))
      | (go_at_call 96; (with_reducible refine (H2.out _).mono ?_); rintro e' w2 ⟨rfl, hb2⟩; obtain ⟨hc2, hf2⟩ := bcell hb2; have hz2 : w.heap.size < w2.heap.size := (by have := hb2.size; first | omega | (simp at this; omega)); have hz2' : w.heap.size + 1 < w2.heap.size := (by have := hb2.size; first | omega | (simp at this; omega)))
      | (go_at_call 90; (with_reducible refine (H3.out _).mono ?_); rintro e' w3 ⟨rfl, hb3⟩))
  all_goals
    go_wp2
    go_ret
    refine ⟨rfl, ?_⟩
    (repeat' (first | (with_reducible exact Below.refl _ _) | (with_reducible assumption) | (with_reducible refine belowNext ?_ (by with_reducible assumption)) | (with_reducible refine belowAlloc ?_ _) | (with_reducible refine Below.drew ?_) | (with_reducible refine below_drewN ?_ _) | (with_reducible refine Below.setCell ?_ ?_ _) | go_size | (with_reducible refine sizeOf' ?_) | (with_reducible refine sizeAdd ?_) | (dsimp only; first | (with_reducible refine sizeOf' ?_) | (with_reducible refine sizeAdd ?_))))

set_option maxHeartbeats 1000000 in
theorem implShort (a b c d : Int) (w : World) (h1 : angOk a b) (h2 : angOk c d) :
    Calls Try.prog 59 #[leafV a b c d] w fun e w' => e = .returned (.bool (shortB a b c d)) ∧ Below w.heap.size w w' := by
  have H1 := Lib.hid (fun w => implLenOf a b c d w h1 h2)
  have H3 := Lib.hid (fun w => cmpAngV (dsN a b c d) (dsD a b c d) 1 3 w (ds_W h1 h2) ⟨by omega, by omega, by omega, by omega⟩)
  have E : Hid (shortB a b c d = decide (cmpI (dsN a b c d * 3) (1 * dsD a b c d) ≤ 0)) := Lib.hid (by
    rw [cmpI_le]
    unfold shortB
    rw [decide_eq_decide]
    omega)
  clear h1 h2
  generalize shortB a b c d = S at *
  generalize dsN a b c d = X at *
  generalize dsD a b c d = Y at *
  generalize cmpI (X * 3) (1 * Y) = C at *
  go_enter Try.func59, Try.ntmps59
  go_wp2_with fail
  refine (H1.out _).mono ?_
  rintro e w1 ⟨rfl, hb1⟩
  obtain ⟨hc1, hf1⟩ := bcell hb1
  have hz1_0 : w.heap.size < w1.heap.size := by have := hb1.size; first | omega | (simp at this; omega)
  go_wp2_with fail
  refine (H3.out _).mono ?_
  rintro e w2 ⟨rfl, hb2⟩
  go_wp2
  go_ret
  refine ⟨retB (by rw [E.out]), ?_⟩
  (repeat' (first | (with_reducible exact Below.refl _ _) | (with_reducible assumption) | (with_reducible refine belowNext ?_ (by with_reducible assumption)) | (with_reducible refine belowAlloc ?_ _) | (with_reducible refine Below.drew ?_) | (with_reducible refine below_drewN ?_ _) | (with_reducible refine Below.setCell ?_ ?_ _) | go_size | (with_reducible refine sizeOf' ?_) | (with_reducible refine sizeAdd ?_) | (dsimp only; first | (with_reducible refine sizeOf' ?_) | (with_reducible refine sizeAdd ?_))))

set_option maxHeartbeats 1000000 in
theorem specLong (a b c d : Int) (w : World) (h1 : angOk a b) (h2 : angOk c d) :
    Calls Try.prog 57 #[leafV a b c d] w fun e w' => e = .returned (.bool (!shortB a b c d)) ∧ Below w.heap.size w w' := by
  have H1 : Hid (∀ w, Calls Try.prog 46 #[ang a b, ang c d] w fun e w' => e = .returned (ang (dsN a b c d) (dsD a b c d)) ∧ Below w.heap.size w w') := Lib.hid (fun w => specDist1 a b c d w h1 h2)
  obtain ⟨b1, b2, b3, b4⟩ := ds_W h1 h2
  have E : Hid ((!shortB a b c d) = decide (dsD a b c d < 3 * dsN a b c d)) := Lib.hid (by
    unfold shortB
    rw [Bool.eq_iff_iff]
    simp)
  clear h1 h2
  generalize shortB a b c d = S at *
  generalize dsN a b c d = X at *
  generalize dsD a b c d = Y at *
  have wr : IntKind.i64.wrap (3 * X) = 3 * X := IntWalk.i64_in _ (by omega)
  clear b1 b2 b3 b4
  go_enter Try.func57, Try.ntmps57
  go_wp2_with fail
  refine (H1.out _).mono ?_
  rintro e w1 ⟨rfl, hb1⟩
  obtain ⟨hc1, hf1⟩ := bcell hb1
  have hz1_0 : w.heap.size < w1.heap.size := by have := hb1.size; first | omega | (simp at this; omega)
  go_wp2
  go_ret
  refine ⟨retB (by rw [E.out]), ?_⟩
  (repeat' (first | (with_reducible exact Below.refl _ _) | (with_reducible assumption) | (with_reducible refine belowNext ?_ (by with_reducible assumption)) | (with_reducible refine belowAlloc ?_ _) | (with_reducible refine Below.drew ?_) | (with_reducible refine below_drewN ?_ _) | (with_reducible refine Below.setCell ?_ ?_ _) | go_size | (with_reducible refine sizeOf' ?_) | (with_reducible refine sizeAdd ?_) | (dsimp only; first | (with_reducible refine sizeOf' ?_) | (with_reducible refine sizeAdd ?_))))
end Go.Proofs.Ytlmgpecfbpcgaaa

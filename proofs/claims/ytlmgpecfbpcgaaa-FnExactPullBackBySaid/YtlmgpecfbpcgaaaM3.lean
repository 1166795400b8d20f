/-
  Contracts: majors, on the model's side.
-/
import Derived.Test.YtlmgpecfbpcgaaaM2
namespace Go.Proofs.Ytlmgpecfbpcgaaa
open Go.RowKit

set_option maxHeartbeats 1000000 in
theorem specFwd (n d m c : Int) (w : World) (h1 : angOk n d) (h2 : angOk m c) :
    Calls Try.prog 125 #[ang n d, ang m c] w fun e w' => e = .returned (ang (redN (m * d - n * c) (d * c)) (redD (m * d - n * c) (d * c))) ∧ Below w.heap.size w w' := by
  obtain ⟨a1, a2, a3, a4⟩ := h1
  obtain ⟨b1, b2, b3, b4⟩ := h2
  obtain ⟨p1, p2⟩ := mul_bound (a := n) (b := c) (by omega) (by omega) (by omega) (by omega)
  obtain ⟨q1, q2⟩ := mul_bound (a := m) (b := d) (by omega) (by omega) (by omega) (by omega)
  obtain ⟨r1, r2⟩ := mul_bound (a := d) (b := c) (by omega) (by omega) (by omega) (by omega)
  have r3 : 1 ≤ d * c := Int.mul_pos (by omega) (by omega)
  have HR := Lib.hid (fun w => specRed (m * d - n * c) (d * c) w (by omega) (by omega) (by omega) (by omega))
  generalize redN (m * d - n * c) (d * c) = x at *
  generalize redD (m * d - n * c) (d * c) = y at *
  have wr1 : IntKind.i64.wrap (m * d) = m * d := IntWalk.i64_in _ (by omega)
  have wr2 : IntKind.i64.wrap (n * c) = n * c := IntWalk.i64_in _ (by omega)
  have wr3 : IntKind.i64.wrap (m * d - n * c) = m * d - n * c := IntWalk.i64_in _ (by omega)
  have wr4 : IntKind.i64.wrap (d * c) = d * c := IntWalk.i64_in _ (by omega)
  go_enter Try.func125, Try.ntmps125
  go_wp2_with fail
  refine (HR.out _).mono ?_
  rintro e w1 ⟨rfl, hb1⟩
  obtain ⟨hc1, hf1⟩ := bcell hb1
  have hz1_0 : w.heap.size < w1.heap.size := by have := hb1.size; first | omega | (simp at this; omega)
  have hz1_1 : w.heap.size + 1 < w1.heap.size := by have := hb1.size; first | omega | (simp at this; omega)
  have hz1_2 : w.heap.size + 1 + 1 < w1.heap.size := by have := hb1.size; first | omega | (simp at this; omega)
  have q1_2_0 : w1.cell? ⟨w.heap.size + 1 + 1, 0, none⟩ = some (.int .i64 0) := cellThru hb1 (by simp <;> omega) (by simp [go_sem])
  have q1_2_1 : w1.cell? ⟨w.heap.size + 1 + 1, 1, none⟩ = some (.int .i64 0) := cellThru hb1 (by simp <;> omega) (by simp [go_sem])
  clear wr1 wr2 wr3 wr4
  go_wp2
  refine bodyPost_ret (v := ang x y) (by simp [results, Try.results125, go_sem, q1_2_0, q1_2_1]) rfl ⟨rfl, ?_⟩
  (repeat' (first | (with_reducible exact Below.refl _ _) | (with_reducible assumption) | (with_reducible refine belowNext ?_ (by with_reducible assumption)) | (with_reducible refine belowAlloc ?_ _) | (with_reducible refine Below.drew ?_) | (with_reducible refine below_drewN ?_ _) | (with_reducible refine Below.setCell ?_ ?_ _) | go_size | (with_reducible refine sizeOf' ?_) | (with_reducible refine sizeAdd ?_) | (dsimp only; first | (with_reducible refine sizeOf' ?_) | (with_reducible refine sizeAdd ?_))))

/-- The ends, in one order or the other. -/
def ResEnds (w : World) (a b c d : Int) (e : Ending) (w' : World) : Prop :=
  (e = .returned (.tuple #[ang a b, ang c d]) ∨ e = .returned (.tuple #[ang c d, ang a b])) ∧ Below w.heap.size w w'

set_option maxHeartbeats 1000000 in
theorem specEnds (a b c d : Int) (w : World) (h1 : angOk a b) (h2 : angOk c d) :
    Calls Try.prog 97 #[leafV a b c d] w (ResEnds w a b c d) := by
  have H1 := Lib.hid (fun w => specFwd a b c d w h1 h2)
  obtain ⟨a1, a2, a3, a4⟩ := h1
  obtain ⟨b1, b2, b3, b4⟩ := h2
  obtain ⟨r1, r2⟩ := mul_bound (a := b) (b := d) (by omega) (by omega) (by omega) (by omega)
  have r3 : 1 ≤ b * d := Int.mul_pos (by omega) (by omega)
  obtain ⟨t1, t2, t3, t4⟩ := red_bounds (c * b - a * d) (b * d) (by omega)
  generalize redN (c * b - a * d) (b * d) = x at *
  generalize redD (c * b - a * d) (b * d) = y at *
  have wr : IntKind.i64.wrap (2 * x) = 2 * x := IntWalk.i64_in _ (by omega)
  clear a1 a2 a3 a4 b1 b2 b3 b4 r1 r2 r3 t1 t2 t3 t4
  by_cases hx : y < 2 * x
  · go_enter Try.func97, Try.ntmps97
    go_wp2_with fail
    refine (H1.out _).mono ?_
    rintro e w1 ⟨rfl, hb1⟩
    obtain ⟨hc1, hf1⟩ := bcell hb1
    have hz1_0 : w.heap.size < w1.heap.size := by have := hb1.size; first | omega | (simp at this; omega)
    have hz1_1 : w.heap.size + 1 < w1.heap.size := by have := hb1.size; first | omega | (simp at this; omega)
    have hz1_2 : w.heap.size + 1 + 1 < w1.heap.size := by have := hb1.size; first | omega | (simp at this; omega)
    have q1_0_0 : w1.cell? ⟨w.heap.size, 0, none⟩ = some (.int .i64 a) := cellThru hb1 (by simp <;> omega) (by simp [go_sem])
    have q1_0_1 : w1.cell? ⟨w.heap.size, 1, none⟩ = some (.int .i64 b) := cellThru hb1 (by simp <;> omega) (by simp [go_sem])
    have q1_0_2 : w1.cell? ⟨w.heap.size, 2, none⟩ = some (.int .i64 c) := cellThru hb1 (by simp <;> omega) (by simp [go_sem])
    have q1_0_3 : w1.cell? ⟨w.heap.size, 3, none⟩ = some (.int .i64 d) := cellThru hb1 (by simp <;> omega) (by simp [go_sem])
    have q1_1_0 : w1.cell? ⟨w.heap.size + 1, 0, none⟩ = some (.int .i64 0) := cellThru hb1 (by simp <;> omega) (by simp [go_sem])
    have q1_1_1 : w1.cell? ⟨w.heap.size + 1, 1, none⟩ = some (.int .i64 0) := cellThru hb1 (by simp <;> omega) (by simp [go_sem])
    have q1_2_0 : w1.cell? ⟨w.heap.size + 1 + 1, 0, none⟩ = some (.int .i64 0) := cellThru hb1 (by simp <;> omega) (by simp [go_sem])
    have q1_2_1 : w1.cell? ⟨w.heap.size + 1 + 1, 1, none⟩ = some (.int .i64 0) := cellThru hb1 (by simp <;> omega) (by simp [go_sem])
    have j1_1_0 : w1.frozen? ⟨w.heap.size + 1, 0, none⟩ = false := frozThru hb1 (by simp <;> omega) (by simp [go_sem])
    have j1_1_1 : w1.frozen? ⟨w.heap.size + 1, 1, none⟩ = false := frozThru hb1 (by simp <;> omega) (by simp [go_sem])
    have j1_2_0 : w1.frozen? ⟨w.heap.size + 1 + 1, 0, none⟩ = false := frozThru hb1 (by simp <;> omega) (by simp [go_sem])
    have j1_2_1 : w1.frozen? ⟨w.heap.size + 1 + 1, 1, none⟩ = false := frozThru hb1 (by simp <;> omega) (by simp [go_sem])
    go_wp2_with fail
    go_region
    all_goals
      go_wp2
      refine bodyPost_ret (v := .tuple #[ang c d, ang a b]) (by simp [results, Try.results97, go_sem, World.cell?_alloc_past, hz1_1, hz1_2, q1_1_0, q1_1_1, q1_2_0, q1_2_1]) rfl ⟨.inr rfl, ?_⟩
      (repeat' (first | (with_reducible exact Below.refl _ _) | (with_reducible assumption) | (with_reducible refine belowNext ?_ (by with_reducible assumption)) | (with_reducible refine belowAlloc ?_ _) | (with_reducible refine Below.drew ?_) | (with_reducible refine below_drewN ?_ _) | (with_reducible refine Below.setCell ?_ ?_ _) | go_size | (with_reducible refine sizeOf' ?_) | (with_reducible refine sizeAdd ?_) | (dsimp only; first | (with_reducible refine sizeOf' ?_) | (with_reducible refine sizeAdd ?_))))
  · go_enter Try.func97, Try.ntmps97
    go_wp2_with fail
    refine (H1.out _).mono ?_
    rintro e w1 ⟨rfl, hb1⟩
    obtain ⟨hc1, hf1⟩ := bcell hb1
    have hz1_0 : w.heap.size < w1.heap.size := by have := hb1.size; first | omega | (simp at this; omega)
    have hz1_1 : w.heap.size + 1 < w1.heap.size := by have := hb1.size; first | omega | (simp at this; omega)
    have hz1_2 : w.heap.size + 1 + 1 < w1.heap.size := by have := hb1.size; first | omega | (simp at this; omega)
    have q1_0_0 : w1.cell? ⟨w.heap.size, 0, none⟩ = some (.int .i64 a) := cellThru hb1 (by simp <;> omega) (by simp [go_sem])
    have q1_0_1 : w1.cell? ⟨w.heap.size, 1, none⟩ = some (.int .i64 b) := cellThru hb1 (by simp <;> omega) (by simp [go_sem])
    have q1_0_2 : w1.cell? ⟨w.heap.size, 2, none⟩ = some (.int .i64 c) := cellThru hb1 (by simp <;> omega) (by simp [go_sem])
    have q1_0_3 : w1.cell? ⟨w.heap.size, 3, none⟩ = some (.int .i64 d) := cellThru hb1 (by simp <;> omega) (by simp [go_sem])
    have q1_1_0 : w1.cell? ⟨w.heap.size + 1, 0, none⟩ = some (.int .i64 0) := cellThru hb1 (by simp <;> omega) (by simp [go_sem])
    have q1_1_1 : w1.cell? ⟨w.heap.size + 1, 1, none⟩ = some (.int .i64 0) := cellThru hb1 (by simp <;> omega) (by simp [go_sem])
    have q1_2_0 : w1.cell? ⟨w.heap.size + 1 + 1, 0, none⟩ = some (.int .i64 0) := cellThru hb1 (by simp <;> omega) (by simp [go_sem])
    have q1_2_1 : w1.cell? ⟨w.heap.size + 1 + 1, 1, none⟩ = some (.int .i64 0) := cellThru hb1 (by simp <;> omega) (by simp [go_sem])
    have j1_1_0 : w1.frozen? ⟨w.heap.size + 1, 0, none⟩ = false := frozThru hb1 (by simp <;> omega) (by simp [go_sem])
    have j1_1_1 : w1.frozen? ⟨w.heap.size + 1, 1, none⟩ = false := frozThru hb1 (by simp <;> omega) (by simp [go_sem])
    have j1_2_0 : w1.frozen? ⟨w.heap.size + 1 + 1, 0, none⟩ = false := frozThru hb1 (by simp <;> omega) (by simp [go_sem])
    have j1_2_1 : w1.frozen? ⟨w.heap.size + 1 + 1, 1, none⟩ = false := frozThru hb1 (by simp <;> omega) (by simp [go_sem])
    go_wp2_with fail
    go_region
    all_goals
      go_wp2
      refine bodyPost_ret (v := .tuple #[ang a b, ang c d]) (by simp [results, Try.results97, go_sem, World.cell?_alloc_past, hz1_1, hz1_2, q1_1_0, q1_1_1, q1_2_0, q1_2_1]) rfl ⟨.inl rfl, ?_⟩
      (repeat' (first | (with_reducible exact Below.refl _ _) | (with_reducible assumption) | (with_reducible refine belowNext ?_ (by with_reducible assumption)) | (with_reducible refine belowAlloc ?_ _) | (with_reducible refine Below.drew ?_) | (with_reducible refine below_drewN ?_ _) | (with_reducible refine Below.setCell ?_ ?_ _) | go_size | (with_reducible refine sizeOf' ?_) | (with_reducible refine sizeAdd ?_) | (dsimp only; first | (with_reducible refine sizeOf' ?_) | (with_reducible refine sizeAdd ?_))))

/-- Two leaves in order. -/
def ResPair (w : World) (l : List Lf4) (e : Ending) (w' : World) : Prop :=
  ∃ A, e = .returned (.slice A 2 2) ∧ LfOwn w' w.heap.size A l ∧ Below w.heap.size w w'

set_option maxHeartbeats 1000000 in
theorem specPairL (a b c d e f g h : Int) (w : World) (h1 : angOk a b) (h2 : angOk c d) (h3 : angOk e f) (h4 : angOk g h) :
    Calls Try.prog 99 #[leafV a b c d, leafV e f g h] w (ResPair w (if lessL e f g h a b c d then [(e, f, g, h), (a, b, c, d)] else [(a, b, c, d), (e, f, g, h)])) := by
  have H1 := Lib.hid (fun w => specLessL e f g h a b c d w h3 h4 h1 h2)
  clear h1 h2 h3 h4
  generalize lessL e f g h a b c d = R at *
  cases R
  all_goals
    go_enter Try.func99, Try.ntmps99
    go_wp2_with fail
    refine (H1.out _).mono ?_
    rintro e w1 ⟨rfl, hb1⟩
    obtain ⟨hc1, hf1⟩ := bcell hb1
    have hz1_0 : w.heap.size < w1.heap.size := by have := hb1.size; first | omega | (simp at this; omega)
    have hz1_1 : w.heap.size + 1 < w1.heap.size := by have := hb1.size; first | omega | (simp at this; omega)
    have B1 : Below w.heap.size w w1 := by
      (repeat' (first | (with_reducible exact Below.refl _ _) | (with_reducible assumption) | (with_reducible refine belowNext ?_ (by with_reducible assumption)) | (with_reducible refine belowAlloc ?_ _) | (with_reducible refine Below.drew ?_) | (with_reducible refine below_drewN ?_ _) | (with_reducible refine Below.setCell ?_ ?_ _) | go_size | (with_reducible refine sizeOf' ?_) | (with_reducible refine sizeAdd ?_) | (dsimp only; first | (with_reducible refine sizeOf' ?_) | (with_reducible refine sizeAdd ?_))))
    go_wp2
    go_ret
    refine ⟨_, rfl, lfOwn2 _ B1 _ _ _ _ _ _ _ _ _ _ rfl, ?_⟩
    (repeat' (first | (with_reducible exact Below.refl _ _) | (with_reducible assumption) | (with_reducible refine belowNext ?_ (by with_reducible assumption)) | (with_reducible refine belowAlloc ?_ _) | (with_reducible refine Below.drew ?_) | (with_reducible refine below_drewN ?_ _) | (with_reducible refine Below.setCell ?_ ?_ _) | go_size | (with_reducible refine sizeOf' ?_) | (with_reducible refine sizeAdd ?_) | (dsimp only; first | (with_reducible refine sizeOf' ?_) | (with_reducible refine sizeAdd ?_))))
end Go.Proofs.Ytlmgpecfbpcgaaa

/-
  Contracts: leaves from angles; diameters and images.
-/
import Derived.Test.YtoflafpidicipaaV3
namespace Go.Proofs.Ytoflafpidicipaa
open Go.RowKit

abbrev resL (a b c d k : Int) : Value := .tuple #[leafV a b c d, .int .i64 k]
theorem retLC {a b c d k a' b' c' d' k' : Int} (h1 : a = a') (h2 : b = b') (h3 : c = c') (h4 : d = d') (h5 : k = k') : Ending.returned (resL a b c d k) = .returned (resL a' b' c' d' k') := by rw [h1, h2, h3, h4, h5]

/-- Whether there is a leaf between two, and what LeafOf returns. -/
def loOk (a b c d : Int) : Bool := sumOk a b c d && !eqA a b c d
def loA (a b c d : Int) : Int := if loOk a b c d then lfA a b c d else 0
def loB (a b c d : Int) : Int := if loOk a b c d then lfB a b c d else 0
def loC (a b c d : Int) : Int := if loOk a b c d then lfC a b c d else 0
def loD (a b c d : Int) : Int := if loOk a b c d then lfD a b c d else 0
def loK (a b c d : Int) : Int := if sumOk a b c d then (if eqA a b c d then 5 else 0) else 1
theorem lo_no {a b c d : Int} (h : sumOk a b c d = false) : loA a b c d = 0 ∧ loB a b c d = 0 ∧ loC a b c d = 0 ∧ loD a b c d = 0 ∧ loK a b c d = 1 := by
  unfold loA loB loC loD loK loOk; simp [h]
theorem lo_eq {a b c d : Int} (h : sumOk a b c d = true) (e : eqA a b c d = true) : loA a b c d = 0 ∧ loB a b c d = 0 ∧ loC a b c d = 0 ∧ loD a b c d = 0 ∧ loK a b c d = 5 := by
  unfold loA loB loC loD loK loOk; simp [h, e]
theorem lo_yes {a b c d : Int} (h : sumOk a b c d = true) (e : eqA a b c d = false) : loA a b c d = lfA a b c d ∧ loB a b c d = lfB a b c d ∧ loC a b c d = lfC a b c d ∧ loD a b c d = lfD a b c d ∧ loK a b c d = 0 := by
  unfold loA loB loC loD loK loOk; simp [h, e]
theorem sum_cases (a b c d : Int) : (isAng a b = false ∧ sumOk a b c d = false) ∨ (isAng a b = true ∧ isAng c d = false ∧ sumOk a b c d = false) ∨ (isAng a b = true ∧ isAng c d = true ∧ sumOk a b c d = true) := by
  unfold sumOk; cases isAng a b <;> cases isAng c d <;> simp

set_option maxHeartbeats 1000000 in
theorem specLeafOf (a b c d : Int) (w : World) :
    Calls Try.prog 17 #[ang a b, ang c d] w fun e w' => e = .returned (resL (loA a b c d) (loB a b c d) (loC a b c d) (loD a b c d) (loK a b c d)) ∧ Below w.heap.size w w' := by
  have H1 := Lib.hid (fun w => specIs1 a b w)
  have H2 := Lib.hid (fun w => specIs1 c d w)
  rcases sum_cases a b c d with ⟨h1, h3⟩ | ⟨h1, h2, h3⟩ | ⟨h1, h2, h3⟩
  · have E := Lib.hid (lo_no h3)
    rw [h1] at H1
    clear h1 h3
    generalize loA a b c d = X1 at *
    generalize loB a b c d = X2 at *
    generalize loC a b c d = X3 at *
    generalize loD a b c d = X4 at *
    generalize loK a b c d = X5 at *
    go_enter Try.func17, Try.ntmps17
    go_wp2_with fail
    refine (H1.out _).mono ?_
    rintro e w1 ⟨rfl, hb1⟩
    obtain ⟨hc1, hf1⟩ := bcell hb1
    have hz1_0 : w.heap.size < w1.heap.size := by have := hb1.size; first | omega | (simp at this; omega)
    have hz1_1 : w.heap.size + 1 < w1.heap.size := by have := hb1.size; first | omega | (simp at this; omega)
    have hz1_2 : w.heap.size + 1 + 1 < w1.heap.size := by have := hb1.size; first | omega | (simp at this; omega)
    have q1_2_0 : w1.cell? ⟨w.heap.size + 1 + 1, 0, none⟩ = some (.int .i64 0) := cellThru hb1 (by simp <;> omega) (by simp [go_sem])
    have q1_2_1 : w1.cell? ⟨w.heap.size + 1 + 1, 1, none⟩ = some (.int .i64 0) := cellThru hb1 (by simp <;> omega) (by simp [go_sem])
    have q1_2_2 : w1.cell? ⟨w.heap.size + 1 + 1, 2, none⟩ = some (.int .i64 0) := cellThru hb1 (by simp <;> omega) (by simp [go_sem])
    have q1_2_3 : w1.cell? ⟨w.heap.size + 1 + 1, 3, none⟩ = some (.int .i64 0) := cellThru hb1 (by simp <;> omega) (by simp [go_sem])
    go_wp2
    refine bodyPost_ret (v := resL 0 0 0 0 1) (by simp [results, Try.results17, go_sem, q1_2_0, q1_2_1, q1_2_2, q1_2_3]) rfl ⟨?_, ?_⟩
    · exact retLC E.out.1.symm E.out.2.1.symm E.out.2.2.1.symm E.out.2.2.2.1.symm E.out.2.2.2.2.symm
    · (repeat' (first | (with_reducible exact Below.refl _ _) | (with_reducible assumption) | (with_reducible refine belowNext ?_ (by with_reducible assumption)) | (with_reducible refine belowAlloc ?_ _) | (with_reducible refine Below.drew ?_) | (with_reducible refine below_drewN ?_ _) | (with_reducible refine Below.setCell ?_ ?_ _) | go_size | (with_reducible refine sizeOf' ?_) | (with_reducible refine sizeAdd ?_) | (dsimp only; first | (with_reducible refine sizeOf' ?_) | (with_reducible refine sizeAdd ?_))))
  · have E := Lib.hid (lo_no h3)
    rw [h1] at H1
    rw [h2] at H2
    clear h1 h2 h3
    generalize loA a b c d = X1 at *
    generalize loB a b c d = X2 at *
    generalize loC a b c d = X3 at *
    generalize loD a b c d = X4 at *
    generalize loK a b c d = X5 at *
    go_enter Try.func17, Try.ntmps17
    go_wp2_with fail
    refine (H1.out _).mono ?_
    rintro e w1 ⟨rfl, hb1⟩
    obtain ⟨hc1, hf1⟩ := bcell hb1
    have hz1_0 : w.heap.size < w1.heap.size := by have := hb1.size; first | omega | (simp at this; omega)
    have hz1_1 : w.heap.size + 1 < w1.heap.size := by have := hb1.size; first | omega | (simp at this; omega)
    have hz1_2 : w.heap.size + 1 + 1 < w1.heap.size := by have := hb1.size; first | omega | (simp at this; omega)
    have q1_2_0 : w1.cell? ⟨w.heap.size + 1 + 1, 0, none⟩ = some (.int .i64 0) := cellThru hb1 (by simp <;> omega) (by simp [go_sem])
    have q1_2_1 : w1.cell? ⟨w.heap.size + 1 + 1, 1, none⟩ = some (.int .i64 0) := cellThru hb1 (by simp <;> omega) (by simp [go_sem])
    have q1_2_2 : w1.cell? ⟨w.heap.size + 1 + 1, 2, none⟩ = some (.int .i64 0) := cellThru hb1 (by simp <;> omega) (by simp [go_sem])
    have q1_2_3 : w1.cell? ⟨w.heap.size + 1 + 1, 3, none⟩ = some (.int .i64 0) := cellThru hb1 (by simp <;> omega) (by simp [go_sem])
    go_wp2_with fail
    refine (H2.out _).mono ?_
    rintro e w2 ⟨rfl, hb2⟩
    obtain ⟨hc2, hf2⟩ := bcell hb2
    have hz2_0 : w.heap.size < w2.heap.size := by have := hb2.size; first | omega | (simp at this; omega)
    have hz2_1 : w.heap.size + 1 < w2.heap.size := by have := hb2.size; first | omega | (simp at this; omega)
    have hz2_2 : w.heap.size + 1 + 1 < w2.heap.size := by have := hb2.size; first | omega | (simp at this; omega)
    have q2_2_0 : w2.cell? ⟨w.heap.size + 1 + 1, 0, none⟩ = some (.int .i64 0) := by first | exact cellThru hb2 hz1_2 q1_2_0 | (refine cellThru hb2 (by simp; omega) ?_; simp [go_sem, q1_2_0])
    have q2_2_1 : w2.cell? ⟨w.heap.size + 1 + 1, 1, none⟩ = some (.int .i64 0) := by first | exact cellThru hb2 hz1_2 q1_2_1 | (refine cellThru hb2 (by simp; omega) ?_; simp [go_sem, q1_2_1])
    have q2_2_2 : w2.cell? ⟨w.heap.size + 1 + 1, 2, none⟩ = some (.int .i64 0) := by first | exact cellThru hb2 hz1_2 q1_2_2 | (refine cellThru hb2 (by simp; omega) ?_; simp [go_sem, q1_2_2])
    have q2_2_3 : w2.cell? ⟨w.heap.size + 1 + 1, 3, none⟩ = some (.int .i64 0) := by first | exact cellThru hb2 hz1_2 q1_2_3 | (refine cellThru hb2 (by simp; omega) ?_; simp [go_sem, q1_2_3])
    go_wp2
    refine bodyPost_ret (v := resL 0 0 0 0 1) (by simp [results, Try.results17, go_sem, q2_2_0, q2_2_1, q2_2_2, q2_2_3]) rfl ⟨?_, ?_⟩
    · exact retLC E.out.1.symm E.out.2.1.symm E.out.2.2.1.symm E.out.2.2.2.1.symm E.out.2.2.2.2.symm
    · (repeat' (first | (with_reducible exact Below.refl _ _) | (with_reducible assumption) | (with_reducible refine belowNext ?_ (by with_reducible assumption)) | (with_reducible refine belowAlloc ?_ _) | (with_reducible refine Below.drew ?_) | (with_reducible refine below_drewN ?_ _) | (with_reducible refine Below.setCell ?_ ?_ _) | go_size | (with_reducible refine sizeOf' ?_) | (with_reducible refine sizeAdd ?_) | (dsimp only; first | (with_reducible refine sizeOf' ?_) | (with_reducible refine sizeAdd ?_))))
  · have r1 := redOf h1
    have r2 := redOf h2
    have HS := Lib.hid (fun w => specLB a b c d w (okOf r1) (okOf r2) (apart_of r1 r2))
    rw [h1] at H1
    rw [h2] at H2
    clear h1 h2 r1 r2
    cases e : eqA a b c d
    · have E := Lib.hid (lo_yes h3 e)
      have Q1 := fun W => eqlAng a b c d W
      rw [e] at Q1
      clear h3 e
      generalize loA a b c d = X1 at *
      generalize loB a b c d = X2 at *
      generalize loC a b c d = X3 at *
      generalize loD a b c d = X4 at *
      generalize loK a b c d = X5 at *
      generalize lfA a b c d = Y1 at *
      generalize lfB a b c d = Y2 at *
      generalize lfC a b c d = Y3 at *
      generalize lfD a b c d = Y4 at *
      go_enter Try.func17, Try.ntmps17
      go_wp2_with fail
      refine (H1.out _).mono ?_
      rintro e w1 ⟨rfl, hb1⟩
      obtain ⟨hc1, hf1⟩ := bcell hb1
      have hz1_0 : w.heap.size < w1.heap.size := by have := hb1.size; first | omega | (simp at this; omega)
      have hz1_1 : w.heap.size + 1 < w1.heap.size := by have := hb1.size; first | omega | (simp at this; omega)
      have hz1_2 : w.heap.size + 1 + 1 < w1.heap.size := by have := hb1.size; first | omega | (simp at this; omega)
      have q1_2_0 : w1.cell? ⟨w.heap.size + 1 + 1, 0, none⟩ = some (.int .i64 0) := cellThru hb1 (by simp <;> omega) (by simp [go_sem])
      have q1_2_1 : w1.cell? ⟨w.heap.size + 1 + 1, 1, none⟩ = some (.int .i64 0) := cellThru hb1 (by simp <;> omega) (by simp [go_sem])
      have q1_2_2 : w1.cell? ⟨w.heap.size + 1 + 1, 2, none⟩ = some (.int .i64 0) := cellThru hb1 (by simp <;> omega) (by simp [go_sem])
      have q1_2_3 : w1.cell? ⟨w.heap.size + 1 + 1, 3, none⟩ = some (.int .i64 0) := cellThru hb1 (by simp <;> omega) (by simp [go_sem])
      go_wp2_with fail
      refine (H2.out _).mono ?_
      rintro e w2 ⟨rfl, hb2⟩
      obtain ⟨hc2, hf2⟩ := bcell hb2
      have hz2_0 : w.heap.size < w2.heap.size := by have := hb2.size; first | omega | (simp at this; omega)
      have hz2_1 : w.heap.size + 1 < w2.heap.size := by have := hb2.size; first | omega | (simp at this; omega)
      have hz2_2 : w.heap.size + 1 + 1 < w2.heap.size := by have := hb2.size; first | omega | (simp at this; omega)
      have q2_2_0 : w2.cell? ⟨w.heap.size + 1 + 1, 0, none⟩ = some (.int .i64 0) := by first | exact cellThru hb2 hz1_2 q1_2_0 | (refine cellThru hb2 (by simp; omega) ?_; simp [go_sem, q1_2_0])
      have q2_2_1 : w2.cell? ⟨w.heap.size + 1 + 1, 1, none⟩ = some (.int .i64 0) := by first | exact cellThru hb2 hz1_2 q1_2_1 | (refine cellThru hb2 (by simp; omega) ?_; simp [go_sem, q1_2_1])
      have q2_2_2 : w2.cell? ⟨w.heap.size + 1 + 1, 2, none⟩ = some (.int .i64 0) := by first | exact cellThru hb2 hz1_2 q1_2_2 | (refine cellThru hb2 (by simp; omega) ?_; simp [go_sem, q1_2_2])
      have q2_2_3 : w2.cell? ⟨w.heap.size + 1 + 1, 3, none⟩ = some (.int .i64 0) := by first | exact cellThru hb2 hz1_2 q1_2_3 | (refine cellThru hb2 (by simp; omega) ?_; simp [go_sem, q1_2_3])
      go_wp2_with fail
      refine (HS.out _).mono ?_
      rintro e w3 ⟨rfl, hb3⟩
      obtain ⟨hc3, hf3⟩ := bcell hb3
      have hz3_0 : w.heap.size < w3.heap.size := by have := hb3.size; first | omega | (simp at this; omega)
      have hz3_1 : w.heap.size + 1 < w3.heap.size := by have := hb3.size; first | omega | (simp at this; omega)
      have hz3_2 : w.heap.size + 1 + 1 < w3.heap.size := by have := hb3.size; first | omega | (simp at this; omega)
      have q3_2_0 : w3.cell? ⟨w.heap.size + 1 + 1, 0, none⟩ = some (.int .i64 0) := by first | exact cellThru hb3 hz2_2 q2_2_0 | (refine cellThru hb3 (by simp; omega) ?_; simp [go_sem, q2_2_0])
      have q3_2_1 : w3.cell? ⟨w.heap.size + 1 + 1, 1, none⟩ = some (.int .i64 0) := by first | exact cellThru hb3 hz2_2 q2_2_1 | (refine cellThru hb3 (by simp; omega) ?_; simp [go_sem, q2_2_1])
      have q3_2_2 : w3.cell? ⟨w.heap.size + 1 + 1, 2, none⟩ = some (.int .i64 0) := by first | exact cellThru hb3 hz2_2 q2_2_2 | (refine cellThru hb3 (by simp; omega) ?_; simp [go_sem, q2_2_2])
      have q3_2_3 : w3.cell? ⟨w.heap.size + 1 + 1, 3, none⟩ = some (.int .i64 0) := by first | exact cellThru hb3 hz2_2 q2_2_3 | (refine cellThru hb3 (by simp; omega) ?_; simp [go_sem, q2_2_3])
      go_wp2
      refine bodyPost_ret (v := resL Y1 Y2 Y3 Y4 0) (by simp [results, Try.results17, go_sem, q3_2_0, q3_2_1, q3_2_2, q3_2_3]) rfl ⟨?_, ?_⟩
      · exact retLC E.out.1.symm E.out.2.1.symm E.out.2.2.1.symm E.out.2.2.2.1.symm E.out.2.2.2.2.symm
      · (repeat' (first | (with_reducible exact Below.refl _ _) | (with_reducible assumption) | (with_reducible refine belowNext ?_ (by with_reducible assumption)) | (with_reducible refine belowAlloc ?_ _) | (with_reducible refine Below.drew ?_) | (with_reducible refine below_drewN ?_ _) | (with_reducible refine Below.setCell ?_ ?_ _) | go_size | (with_reducible refine sizeOf' ?_) | (with_reducible refine sizeAdd ?_) | (dsimp only; first | (with_reducible refine sizeOf' ?_) | (with_reducible refine sizeAdd ?_))))
    · have E := Lib.hid (lo_eq h3 e)
      have Q1 := fun W => eqlAng a b c d W
      rw [e] at Q1
      clear h3 e
      generalize loA a b c d = X1 at *
      generalize loB a b c d = X2 at *
      generalize loC a b c d = X3 at *
      generalize loD a b c d = X4 at *
      generalize loK a b c d = X5 at *
      go_enter Try.func17, Try.ntmps17
      go_wp2_with fail
      refine (H1.out _).mono ?_
      rintro e w1 ⟨rfl, hb1⟩
      obtain ⟨hc1, hf1⟩ := bcell hb1
      have hz1_0 : w.heap.size < w1.heap.size := by have := hb1.size; first | omega | (simp at this; omega)
      have hz1_1 : w.heap.size + 1 < w1.heap.size := by have := hb1.size; first | omega | (simp at this; omega)
      have hz1_2 : w.heap.size + 1 + 1 < w1.heap.size := by have := hb1.size; first | omega | (simp at this; omega)
      have q1_2_0 : w1.cell? ⟨w.heap.size + 1 + 1, 0, none⟩ = some (.int .i64 0) := cellThru hb1 (by simp <;> omega) (by simp [go_sem])
      have q1_2_1 : w1.cell? ⟨w.heap.size + 1 + 1, 1, none⟩ = some (.int .i64 0) := cellThru hb1 (by simp <;> omega) (by simp [go_sem])
      have q1_2_2 : w1.cell? ⟨w.heap.size + 1 + 1, 2, none⟩ = some (.int .i64 0) := cellThru hb1 (by simp <;> omega) (by simp [go_sem])
      have q1_2_3 : w1.cell? ⟨w.heap.size + 1 + 1, 3, none⟩ = some (.int .i64 0) := cellThru hb1 (by simp <;> omega) (by simp [go_sem])
      go_wp2_with fail
      refine (H2.out _).mono ?_
      rintro e w2 ⟨rfl, hb2⟩
      obtain ⟨hc2, hf2⟩ := bcell hb2
      have hz2_0 : w.heap.size < w2.heap.size := by have := hb2.size; first | omega | (simp at this; omega)
      have hz2_1 : w.heap.size + 1 < w2.heap.size := by have := hb2.size; first | omega | (simp at this; omega)
      have hz2_2 : w.heap.size + 1 + 1 < w2.heap.size := by have := hb2.size; first | omega | (simp at this; omega)
      have q2_2_0 : w2.cell? ⟨w.heap.size + 1 + 1, 0, none⟩ = some (.int .i64 0) := by first | exact cellThru hb2 hz1_2 q1_2_0 | (refine cellThru hb2 (by simp; omega) ?_; simp [go_sem, q1_2_0])
      have q2_2_1 : w2.cell? ⟨w.heap.size + 1 + 1, 1, none⟩ = some (.int .i64 0) := by first | exact cellThru hb2 hz1_2 q1_2_1 | (refine cellThru hb2 (by simp; omega) ?_; simp [go_sem, q1_2_1])
      have q2_2_2 : w2.cell? ⟨w.heap.size + 1 + 1, 2, none⟩ = some (.int .i64 0) := by first | exact cellThru hb2 hz1_2 q1_2_2 | (refine cellThru hb2 (by simp; omega) ?_; simp [go_sem, q1_2_2])
      have q2_2_3 : w2.cell? ⟨w.heap.size + 1 + 1, 3, none⟩ = some (.int .i64 0) := by first | exact cellThru hb2 hz1_2 q1_2_3 | (refine cellThru hb2 (by simp; omega) ?_; simp [go_sem, q1_2_3])
      go_wp2
      refine bodyPost_ret (v := resL 0 0 0 0 5) (by simp [results, Try.results17, go_sem, q2_2_0, q2_2_1, q2_2_2, q2_2_3]) rfl ⟨?_, ?_⟩
      · exact retLC E.out.1.symm E.out.2.1.symm E.out.2.2.1.symm E.out.2.2.2.1.symm E.out.2.2.2.2.symm
      · (repeat' (first | (with_reducible exact Below.refl _ _) | (with_reducible assumption) | (with_reducible refine belowNext ?_ (by with_reducible assumption)) | (with_reducible refine belowAlloc ?_ _) | (with_reducible refine Below.drew ?_) | (with_reducible refine below_drewN ?_ _) | (with_reducible refine Below.setCell ?_ ?_ _) | go_size | (with_reducible refine sizeOf' ?_) | (with_reducible refine sizeAdd ?_) | (dsimp only; first | (with_reducible refine sizeOf' ?_) | (with_reducible refine sizeAdd ?_))))

set_option maxHeartbeats 1000000 in
theorem implLeafOf (a b c d : Int) (w : World) :
    Calls Try.prog 19 #[ang a b, ang c d] w fun e w' => e = .returned (resL (loA a b c d) (loB a b c d) (loC a b c d) (loD a b c d) (loK a b c d)) ∧ Below w.heap.size w w' := by
  have HA : Hid (∀ (w : World) B cap, AngRow w w.heap.size (some ⟨B, 0, none⟩) [(a, b), (c, d)] → Calls Try.prog 51 #[.slice (some ⟨B, 0, none⟩) 2 cap] w fun e w' => e = .returned (.bool (sumOk a b c d)) ∧ Below w.heap.size w w') := Lib.hid (fun w B cap h => by
    have := areAng (some ⟨B, 0, none⟩) 2 cap [(a, b), (c, d)] w h rfl (by omega)
    rw [all2] at this
    exact this)
  cases h3 : sumOk a b c d
  · have E := Lib.hid (lo_no h3)
    rw [h3] at HA
    clear h3
    generalize loA a b c d = X1 at *
    generalize loB a b c d = X2 at *
    generalize loC a b c d = X3 at *
    generalize loD a b c d = X4 at *
    generalize loK a b c d = X5 at *
    go_enter Try.func19, Try.ntmps19
    go_wp2_with fail
    refine (HA.out _ _ _ (by exact row2 _ _ _ _ _ _ _ (by simp))).mono ?_
    rintro e w1 ⟨rfl, hb1⟩
    obtain ⟨hc1, hf1⟩ := bcell hb1
    have hz1_0 : w.heap.size < w1.heap.size := by have := hb1.size; first | omega | (simp at this; omega)
    have hz1_1 : w.heap.size + 1 < w1.heap.size := by have := hb1.size; first | omega | (simp at this; omega)
    have hz1_2 : w.heap.size + 1 + 1 < w1.heap.size := by have := hb1.size; first | omega | (simp at this; omega)
    have q1_2_0 : w1.cell? ⟨w.heap.size + 1 + 1, 0, none⟩ = some (.int .i64 0) := cellThru hb1 (by simp <;> omega) (by simp [go_sem])
    have q1_2_1 : w1.cell? ⟨w.heap.size + 1 + 1, 1, none⟩ = some (.int .i64 0) := cellThru hb1 (by simp <;> omega) (by simp [go_sem])
    have q1_2_2 : w1.cell? ⟨w.heap.size + 1 + 1, 2, none⟩ = some (.int .i64 0) := cellThru hb1 (by simp <;> omega) (by simp [go_sem])
    have q1_2_3 : w1.cell? ⟨w.heap.size + 1 + 1, 3, none⟩ = some (.int .i64 0) := cellThru hb1 (by simp <;> omega) (by simp [go_sem])
    go_wp2
    refine bodyPost_ret (v := resL 0 0 0 0 1) (by simp [results, Try.results19, go_sem, q1_2_0, q1_2_1, q1_2_2, q1_2_3]) rfl ⟨?_, ?_⟩
    · exact retLC E.out.1.symm E.out.2.1.symm E.out.2.2.1.symm E.out.2.2.2.1.symm E.out.2.2.2.2.symm
    · (repeat' (first | (with_reducible exact Below.refl _ _) | (with_reducible assumption) | (with_reducible refine belowNext ?_ (by with_reducible assumption)) | (with_reducible refine belowAlloc ?_ _) | (with_reducible refine Below.drew ?_) | (with_reducible refine below_drewN ?_ _) | (with_reducible refine Below.setCell ?_ ?_ _) | go_size | (with_reducible refine sizeOf' ?_) | (with_reducible refine sizeAdd ?_) | (dsimp only; first | (with_reducible refine sizeOf' ?_) | (with_reducible refine sizeAdd ?_))))
  · have h1 : isAng a b = true := by simp [sumOk] at h3; exact h3.1
    have h2 : isAng c d = true := by simp [sumOk] at h3; exact h3.2
    have HS := Lib.hid (fun w => implLB a b c d w (isAng_ok h1) (isAng_ok h2))
    rw [h3] at HA
    clear h1 h2
    cases e : eqA a b c d
    · have E := Lib.hid (lo_yes h3 e)
      have Q1 := fun W => eqlAng a b c d W
      rw [e] at Q1
      clear h3 e
      generalize loA a b c d = X1 at *
      generalize loB a b c d = X2 at *
      generalize loC a b c d = X3 at *
      generalize loD a b c d = X4 at *
      generalize loK a b c d = X5 at *
      generalize lfA a b c d = Y1 at *
      generalize lfB a b c d = Y2 at *
      generalize lfC a b c d = Y3 at *
      generalize lfD a b c d = Y4 at *
      go_enter Try.func19, Try.ntmps19
      go_wp2_with fail
      refine (HA.out _ _ _ (by exact row2 _ _ _ _ _ _ _ (by simp))).mono ?_
      rintro e w1 ⟨rfl, hb1⟩
      obtain ⟨hc1, hf1⟩ := bcell hb1
      have hz1_0 : w.heap.size < w1.heap.size := by have := hb1.size; first | omega | (simp at this; omega)
      have hz1_1 : w.heap.size + 1 < w1.heap.size := by have := hb1.size; first | omega | (simp at this; omega)
      have hz1_2 : w.heap.size + 1 + 1 < w1.heap.size := by have := hb1.size; first | omega | (simp at this; omega)
      have q1_2_0 : w1.cell? ⟨w.heap.size + 1 + 1, 0, none⟩ = some (.int .i64 0) := cellThru hb1 (by simp <;> omega) (by simp [go_sem])
      have q1_2_1 : w1.cell? ⟨w.heap.size + 1 + 1, 1, none⟩ = some (.int .i64 0) := cellThru hb1 (by simp <;> omega) (by simp [go_sem])
      have q1_2_2 : w1.cell? ⟨w.heap.size + 1 + 1, 2, none⟩ = some (.int .i64 0) := cellThru hb1 (by simp <;> omega) (by simp [go_sem])
      have q1_2_3 : w1.cell? ⟨w.heap.size + 1 + 1, 3, none⟩ = some (.int .i64 0) := cellThru hb1 (by simp <;> omega) (by simp [go_sem])
      go_wp2_with fail
      refine (HS.out _).mono ?_
      rintro e w2 ⟨rfl, hb2⟩
      obtain ⟨hc2, hf2⟩ := bcell hb2
      have hz2_0 : w.heap.size < w2.heap.size := by have := hb2.size; first | omega | (simp at this; omega)
      have hz2_1 : w.heap.size + 1 < w2.heap.size := by have := hb2.size; first | omega | (simp at this; omega)
      have hz2_2 : w.heap.size + 1 + 1 < w2.heap.size := by have := hb2.size; first | omega | (simp at this; omega)
      have q2_2_0 : w2.cell? ⟨w.heap.size + 1 + 1, 0, none⟩ = some (.int .i64 0) := by first | exact cellThru hb2 hz1_2 q1_2_0 | (refine cellThru hb2 (by simp; omega) ?_; simp [go_sem, q1_2_0])
      have q2_2_1 : w2.cell? ⟨w.heap.size + 1 + 1, 1, none⟩ = some (.int .i64 0) := by first | exact cellThru hb2 hz1_2 q1_2_1 | (refine cellThru hb2 (by simp; omega) ?_; simp [go_sem, q1_2_1])
      have q2_2_2 : w2.cell? ⟨w.heap.size + 1 + 1, 2, none⟩ = some (.int .i64 0) := by first | exact cellThru hb2 hz1_2 q1_2_2 | (refine cellThru hb2 (by simp; omega) ?_; simp [go_sem, q1_2_2])
      have q2_2_3 : w2.cell? ⟨w.heap.size + 1 + 1, 3, none⟩ = some (.int .i64 0) := by first | exact cellThru hb2 hz1_2 q1_2_3 | (refine cellThru hb2 (by simp; omega) ?_; simp [go_sem, q1_2_3])
      go_wp2
      refine bodyPost_ret (v := resL Y1 Y2 Y3 Y4 0) (by simp [results, Try.results19, go_sem, q2_2_0, q2_2_1, q2_2_2, q2_2_3]) rfl ⟨?_, ?_⟩
      · exact retLC E.out.1.symm E.out.2.1.symm E.out.2.2.1.symm E.out.2.2.2.1.symm E.out.2.2.2.2.symm
      · (repeat' (first | (with_reducible exact Below.refl _ _) | (with_reducible assumption) | (with_reducible refine belowNext ?_ (by with_reducible assumption)) | (with_reducible refine belowAlloc ?_ _) | (with_reducible refine Below.drew ?_) | (with_reducible refine below_drewN ?_ _) | (with_reducible refine Below.setCell ?_ ?_ _) | go_size | (with_reducible refine sizeOf' ?_) | (with_reducible refine sizeAdd ?_) | (dsimp only; first | (with_reducible refine sizeOf' ?_) | (with_reducible refine sizeAdd ?_))))
    · have E := Lib.hid (lo_eq h3 e)
      have Q1 := fun W => eqlAng a b c d W
      rw [e] at Q1
      clear h3 e
      generalize loA a b c d = X1 at *
      generalize loB a b c d = X2 at *
      generalize loC a b c d = X3 at *
      generalize loD a b c d = X4 at *
      generalize loK a b c d = X5 at *
      go_enter Try.func19, Try.ntmps19
      go_wp2_with fail
      refine (HA.out _ _ _ (by exact row2 _ _ _ _ _ _ _ (by simp))).mono ?_
      rintro e w1 ⟨rfl, hb1⟩
      obtain ⟨hc1, hf1⟩ := bcell hb1
      have hz1_0 : w.heap.size < w1.heap.size := by have := hb1.size; first | omega | (simp at this; omega)
      have hz1_1 : w.heap.size + 1 < w1.heap.size := by have := hb1.size; first | omega | (simp at this; omega)
      have hz1_2 : w.heap.size + 1 + 1 < w1.heap.size := by have := hb1.size; first | omega | (simp at this; omega)
      have q1_2_0 : w1.cell? ⟨w.heap.size + 1 + 1, 0, none⟩ = some (.int .i64 0) := cellThru hb1 (by simp <;> omega) (by simp [go_sem])
      have q1_2_1 : w1.cell? ⟨w.heap.size + 1 + 1, 1, none⟩ = some (.int .i64 0) := cellThru hb1 (by simp <;> omega) (by simp [go_sem])
      have q1_2_2 : w1.cell? ⟨w.heap.size + 1 + 1, 2, none⟩ = some (.int .i64 0) := cellThru hb1 (by simp <;> omega) (by simp [go_sem])
      have q1_2_3 : w1.cell? ⟨w.heap.size + 1 + 1, 3, none⟩ = some (.int .i64 0) := cellThru hb1 (by simp <;> omega) (by simp [go_sem])
      go_wp2
      refine bodyPost_ret (v := resL 0 0 0 0 5) (by simp [results, Try.results19, go_sem, q1_2_0, q1_2_1, q1_2_2, q1_2_3]) rfl ⟨?_, ?_⟩
      · exact retLC E.out.1.symm E.out.2.1.symm E.out.2.2.1.symm E.out.2.2.2.1.symm E.out.2.2.2.2.symm
      · (repeat' (first | (with_reducible exact Below.refl _ _) | (with_reducible assumption) | (with_reducible refine belowNext ?_ (by with_reducible assumption)) | (with_reducible refine belowAlloc ?_ _) | (with_reducible refine Below.drew ?_) | (with_reducible refine below_drewN ?_ _) | (with_reducible refine Below.setCell ?_ ?_ _) | go_size | (with_reducible refine sizeOf' ?_) | (with_reducible refine sizeAdd ?_) | (dsimp only; first | (with_reducible refine sizeOf' ?_) | (with_reducible refine sizeAdd ?_))))

/-- A leaf is a diameter: both ends have one double. -/
def diaB (a b c d : Int) : Bool := eqA (redN (2 * a) b) (redD (2 * a) b) (redN (2 * c) d) (redD (2 * c) d)

theorem box4 {w W w1 : World} {a b c d : Int} (hb : Below W.heap.size W w1)
    (H : w.heap.size < W.heap.size ∧ Below w.heap.size w W ∧ W.cell? ⟨w.heap.size, 0, none⟩ = some (.int .i64 a) ∧ W.cell? ⟨w.heap.size, 1, none⟩ = some (.int .i64 b) ∧ W.cell? ⟨w.heap.size, 2, none⟩ = some (.int .i64 c) ∧ W.cell? ⟨w.heap.size, 3, none⟩ = some (.int .i64 d)) :
    w.heap.size < w1.heap.size ∧ Below w.heap.size w w1 ∧ w1.cell? ⟨w.heap.size, 0, none⟩ = some (.int .i64 a) ∧ w1.cell? ⟨w.heap.size, 1, none⟩ = some (.int .i64 b) ∧ w1.cell? ⟨w.heap.size, 2, none⟩ = some (.int .i64 c) ∧ w1.cell? ⟨w.heap.size, 3, none⟩ = some (.int .i64 d) := by
  obtain ⟨hz, hB, h0, h1, h2, h3⟩ := H
  exact ⟨Nat.lt_of_lt_of_le hz hb.size, belowNext hB hb, cellThru hb (by omega) h0, cellThru hb (by omega) h1, cellThru hb (by omega) h2, cellThru hb (by omega) h3⟩

set_option maxHeartbeats 1000000 in
theorem implDia (a b c d : Int) (w : World) (h1 : angOk a b) (h2 : angOk c d) :
    Calls Try.prog 64 #[leafV a b c d] w fun e w' => e = .returned (.bool (diaB a b c d)) ∧ Below w.heap.size w w' := by
  have H1 := Lib.hid (fun w => implDbl a b w h1.1 h1.2.1 h1.2.2.1 (by obtain ⟨_, _, _, _⟩ := h1; omega))
  have H2 := Lib.hid (fun w => implDbl c d w h2.1 h2.2.1 h2.2.2.1 (by obtain ⟨_, _, _, _⟩ := h2; omega))
  have Q1 := fun W => eqlAng (redN (2 * a) b) (redD (2 * a) b) (redN (2 * c) d) (redD (2 * c) d) W
  have E : Hid (diaB a b c d = eqA (redN (2 * a) b) (redD (2 * a) b) (redN (2 * c) d) (redD (2 * c) d)) := Lib.hid rfl
  clear h1 h2
  generalize diaB a b c d = R at *
  generalize redN (2 * a) b = x at *
  generalize redD (2 * a) b = y at *
  generalize redN (2 * c) d = x' at *
  generalize redD (2 * c) d = y' at *
  generalize eqA x y x' y' = U at *
  go_enter Try.func64, Try.ntmps64
  go_wp2_with fail
  go_region_held3 (fun w' => w.heap.size < w'.heap.size ∧ Below w.heap.size w w' ∧ w'.cell? ⟨w.heap.size, 0, none⟩ = some (.int .i64 a) ∧ w'.cell? ⟨w.heap.size, 1, none⟩ = some (.int .i64 b) ∧ w'.cell? ⟨w.heap.size, 2, none⟩ = some (.int .i64 c) ∧ w'.cell? ⟨w.heap.size, 3, none⟩ = some (.int .i64 d))
      (first | exact box4 (by assumption) (by assumption) | exact box4 (Below.refl _ _).drew (by assumption) | (refine ⟨by simp, ?_, by simp [go_sem], by simp [go_sem], by simp [go_sem], by simp [go_sem]⟩; (repeat' (first | (with_reducible exact Below.refl _ _) | (with_reducible assumption) | (with_reducible refine belowNext ?_ (by with_reducible assumption)) | (with_reducible refine belowAlloc ?_ _) | (with_reducible refine Below.drew ?_) | (with_reducible refine below_drewN ?_ _) | (with_reducible refine Below.setCell ?_ ?_ _) | go_size | (with_reducible refine sizeOf' ?_) | (with_reducible refine sizeAdd ?_) | (dsimp only; first | (with_reducible refine sizeOf' ?_) | (with_reducible refine sizeAdd ?_))))))
      (first
      | (go_at_call 70; (with_reducible refine (H1.out _).mono ?_); rintro e' w1 ⟨rfl, hb1⟩)
      | (go_at_call 70; (with_reducible refine (H2.out _).mono ?_); rintro e' w1 ⟨rfl, hb1⟩))
  rename_i hHeld
  have hB := hHeld.2.1
  go_wp2
  go_ret
  refine ⟨retB E.out.symm, ?_⟩
  (repeat' (first | (with_reducible exact Below.refl _ _) | (with_reducible assumption) | (with_reducible refine belowNext ?_ (by with_reducible assumption)) | (with_reducible refine belowAlloc ?_ _) | (with_reducible refine Below.drew ?_) | (with_reducible refine below_drewN ?_ _) | (with_reducible refine Below.setCell ?_ ?_ _) | go_size | (with_reducible refine sizeOf' ?_) | (with_reducible refine sizeAdd ?_) | (dsimp only; first | (with_reducible refine sizeOf' ?_) | (with_reducible refine sizeAdd ?_))))

set_option maxHeartbeats 1000000 in
theorem specDia (a b c d : Int) (w : World) (h1 : angOk a b) (h2 : angOk c d) :
    Calls Try.prog 62 #[leafV a b c d] w fun e w' => e = .returned (.bool (diaB a b c d)) ∧ Below w.heap.size w w' := by
  have H1 := Lib.hid (fun w => specDbl a b w h1.1 h1.2.1 h1.2.2.1 (by obtain ⟨_, _, _, _⟩ := h1; omega))
  have H2 := Lib.hid (fun w => specDbl c d w h2.1 h2.2.1 h2.2.2.1 (by obtain ⟨_, _, _, _⟩ := h2; omega))
  have Q1 := fun W => eqlAng (redN (2 * a) b) (redD (2 * a) b) (redN (2 * c) d) (redD (2 * c) d) W
  have E : Hid (diaB a b c d = eqA (redN (2 * a) b) (redD (2 * a) b) (redN (2 * c) d) (redD (2 * c) d)) := Lib.hid rfl
  clear h1 h2
  generalize diaB a b c d = R at *
  generalize redN (2 * a) b = x at *
  generalize redD (2 * a) b = y at *
  generalize redN (2 * c) d = x' at *
  generalize redD (2 * c) d = y' at *
  generalize eqA x y x' y' = U at *
  go_enter Try.func62, Try.ntmps62
  go_wp2_with fail
  go_region_held3 (fun w' => w.heap.size < w'.heap.size ∧ Below w.heap.size w w' ∧ w'.cell? ⟨w.heap.size, 0, none⟩ = some (.int .i64 a) ∧ w'.cell? ⟨w.heap.size, 1, none⟩ = some (.int .i64 b) ∧ w'.cell? ⟨w.heap.size, 2, none⟩ = some (.int .i64 c) ∧ w'.cell? ⟨w.heap.size, 3, none⟩ = some (.int .i64 d))
      (first | exact box4 (by assumption) (by assumption) | exact box4 (Below.refl _ _).drew (by assumption) | (refine ⟨by simp, ?_, by simp [go_sem], by simp [go_sem], by simp [go_sem], by simp [go_sem]⟩; (repeat' (first | (with_reducible exact Below.refl _ _) | (with_reducible assumption) | (with_reducible refine belowNext ?_ (by with_reducible assumption)) | (with_reducible refine belowAlloc ?_ _) | (with_reducible refine Below.drew ?_) | (with_reducible refine below_drewN ?_ _) | (with_reducible refine Below.setCell ?_ ?_ _) | go_size | (with_reducible refine sizeOf' ?_) | (with_reducible refine sizeAdd ?_) | (dsimp only; first | (with_reducible refine sizeOf' ?_) | (with_reducible refine sizeAdd ?_))))))
      (first
      | (go_at_call 66; (with_reducible refine (H1.out _).mono ?_); rintro e' w1 ⟨rfl, hb1⟩)
      | (go_at_call 66; (with_reducible refine (H2.out _).mono ?_); rintro e' w1 ⟨rfl, hb1⟩))
  rename_i hHeld
  have hB := hHeld.2.1
  go_wp2
  go_ret
  refine ⟨retB E.out.symm, ?_⟩
  (repeat' (first | (with_reducible exact Below.refl _ _) | (with_reducible assumption) | (with_reducible refine belowNext ?_ (by with_reducible assumption)) | (with_reducible refine belowAlloc ?_ _) | (with_reducible refine Below.drew ?_) | (with_reducible refine below_drewN ?_ _) | (with_reducible refine Below.setCell ?_ ?_ _) | go_size | (with_reducible refine sizeOf' ?_) | (with_reducible refine sizeAdd ?_) | (dsimp only; first | (with_reducible refine sizeOf' ?_) | (with_reducible refine sizeAdd ?_))))
end Go.Proofs.Ytoflafpidicipaa

/-
  Contracts: leaves from angles; diameters and images.
  Contracts: images of leaves.
-/
import Derived.Test.YtdmppdfncbljoaaV3
namespace Go.Proofs.Ytdmppdfncbljoaa
open Go.RowKit

abbrev resL (a b c d k : Int) : Value := .tuple #[leafV a b c d, .int .i64 k]
theorem retLC {a b c d k a' b' c' d' k' : Int} (h1 : a = a') (h2 : b = b') (h3 : c = c') (h4 : d = d') (h5 : k = k') : Ending.returned (resL a b c d k) = .returned (resL a' b' c' d' k') := by rw [h1, h2, h3, h4, h5]

/-- Whether there is a leaf between two, and what LeafOf returns. -/
def loOk (a b c d : Int) : Bool := sumOk a b c d && !eqA a b c d
def loA (a b c d : Int) : Int := if loOk a b c d then lfA a b c d else 0
def loB (a b c d : Int) : Int := if loOk a b c d then lfB a b c d else 0
def loC (a b c d : Int) : Int := if loOk a b c d then lfC a b c d else 0
def loD (a b c d : Int) : Int := if loOk a b c d then lfD a b c d else 0
def loK (a b c d : Int) : Int := if sumOk a b c d then (if eqA a b c d then 5 else 0) else 1
theorem lo_no {a b c d : Int} (h : sumOk a b c d = false) : loA a b c d = 0 ∧ loB a b c d = 0 ∧ loC a b c d = 0 ∧ loD a b c d = 0 ∧ loK a b c d = 1 := by
  unfold loA loB loC loD loK loOk; simp [h]
theorem lo_eq {a b c d : Int} (h : sumOk a b c d = true) (e : eqA a b c d = true) : loA a b c d = 0 ∧ loB a b c d = 0 ∧ loC a b c d = 0 ∧ loD a b c d = 0 ∧ loK a b c d = 5 := by
  unfold loA loB loC loD loK loOk; simp [h, e]
theorem lo_yes {a b c d : Int} (h : sumOk a b c d = true) (e : eqA a b c d = false) : loA a b c d = lfA a b c d ∧ loB a b c d = lfB a b c d ∧ loC a b c d = lfC a b c d ∧ loD a b c d = lfD a b c d ∧ loK a b c d = 0 := by
  unfold loA loB loC loD loK loOk; simp [h, e]
theorem sum_cases (a b c d : Int) : (isAng a b = false ∧ sumOk a b c d = false) ∨ (isAng a b = true ∧ isAng c d = false ∧ sumOk a b c d = false) ∨ (isAng a b = true ∧ isAng c d = true ∧ sumOk a b c d = true) := by
  unfold sumOk; cases isAng a b <;> cases isAng c d <;> simp

/-- A leaf is a diameter: both ends have one double. -/
def diaB (a b c d : Int) : Bool := eqA (redN (2 * a) b) (redD (2 * a) b) (redN (2 * c) d) (redD (2 * c) d)

theorem box4 {w W w1 : World} {a b c d : Int} (hb : Below W.heap.size W w1)
    (H : w.heap.size < W.heap.size ∧ Below w.heap.size w W ∧ W.cell? ⟨w.heap.size, 0, none⟩ = some (.int .i64 a) ∧ W.cell? ⟨w.heap.size, 1, none⟩ = some (.int .i64 b) ∧ W.cell? ⟨w.heap.size, 2, none⟩ = some (.int .i64 c) ∧ W.cell? ⟨w.heap.size, 3, none⟩ = some (.int .i64 d)) :
    w.heap.size < w1.heap.size ∧ Below w.heap.size w w1 ∧ w1.cell? ⟨w.heap.size, 0, none⟩ = some (.int .i64 a) ∧ w1.cell? ⟨w.heap.size, 1, none⟩ = some (.int .i64 b) ∧ w1.cell? ⟨w.heap.size, 2, none⟩ = some (.int .i64 c) ∧ w1.cell? ⟨w.heap.size, 3, none⟩ = some (.int .i64 d) := by
  obtain ⟨hz, hB, h0, h1, h2, h3⟩ := H
  exact ⟨Nat.lt_of_lt_of_le hz hb.size, belowNext hB hb, cellThru hb (by omega) h0, cellThru hb (by omega) h1, cellThru hb (by omega) h2, cellThru hb (by omega) h3⟩

set_option maxHeartbeats 1000000 in
theorem implDia (a b c d : Int) (w : World) (h1 : angOk a b) (h2 : angOk c d) :
    Calls Try.prog 190 #[leafV a b c d] w fun e w' => e = .returned (.bool (diaB a b c d)) ∧ Below w.heap.size w w' := by
  have H1 := Lib.hid (fun w => implDbl a b w h1.1 h1.2.1 h1.2.2.1 (by obtain ⟨_, _, _, _⟩ := h1; omega))
  have H2 := Lib.hid (fun w => implDbl c d w h2.1 h2.2.1 h2.2.2.1 (by obtain ⟨_, _, _, _⟩ := h2; omega))
  have Q1 := fun W => eqlAng (redN (2 * a) b) (redD (2 * a) b) (redN (2 * c) d) (redD (2 * c) d) W
  have E : Hid (diaB a b c d = eqA (redN (2 * a) b) (redD (2 * a) b) (redN (2 * c) d) (redD (2 * c) d)) := Lib.hid rfl
  clear h1 h2
  generalize diaB a b c d = R at *
  generalize redN (2 * a) b = x at *
  generalize redD (2 * a) b = y at *
  generalize redN (2 * c) d = x' at *
  generalize redD (2 * c) d = y' at *
  generalize eqA x y x' y' = U at *
  go_enter Try.func190, Try.ntmps190
  go_wp2_with fail
  go_region_held3 (fun w' => w.heap.size < w'.heap.size ∧ Below w.heap.size w w' ∧ w'.cell? ⟨w.heap.size, 0, none⟩ = some (.int .i64 a) ∧ w'.cell? ⟨w.heap.size, 1, none⟩ = some (.int .i64 b) ∧ w'.cell? ⟨w.heap.size, 2, none⟩ = some (.int .i64 c) ∧ w'.cell? ⟨w.heap.size, 3, none⟩ = some (.int .i64 d))
      (first | exact box4 (by assumption) (by assumption) | exact box4 (Below.refl _ _).drew (by assumption) | (refine ⟨by simp, ?_, by simp [go_sem], by simp [go_sem], by simp [go_sem], by simp [go_sem]⟩; (repeat' (first | (with_reducible exact Below.refl _ _) | (with_reducible assumption) | (with_reducible refine belowNext ?_ (by with_reducible assumption)) | (with_reducible refine belowAlloc ?_ _) | (with_reducible refine Below.drew ?_) | (with_reducible refine below_drewN ?_ _) | (with_reducible refine Below.setCell ?_ ?_ _) | go_size | (with_reducible refine sizeOf' ?_) | (with_reducible refine sizeAdd ?_) | (dsimp only; first | (with_reducible refine sizeOf' ?_) | (with_reducible refine sizeAdd ?_))))))
      (first
      | (go_at_call 96; (with_reducible refine (H1.out _).mono ?_); rintro e' w1 ⟨rfl, hb1⟩)
      | (go_at_call 96; (with_reducible refine (H2.out _).mono ?_); rintro e' w1 ⟨rfl, hb1⟩))
  rename_i hHeld
  have hB := hHeld.2.1
  go_wp2
  go_ret
  refine ⟨retB E.out.symm, ?_⟩
  (repeat' (first | (with_reducible exact Below.refl _ _) | (with_reducible assumption) | (with_reducible refine belowNext ?_ (by with_reducible assumption)) | (with_reducible refine belowAlloc ?_ _) | (with_reducible refine Below.drew ?_) | (with_reducible refine below_drewN ?_ _) | (with_reducible refine Below.setCell ?_ ?_ _) | go_size | (with_reducible refine sizeOf' ?_) | (with_reducible refine sizeAdd ?_) | (dsimp only; first | (with_reducible refine sizeOf' ?_) | (with_reducible refine sizeAdd ?_))))

set_option maxHeartbeats 1000000 in
theorem specDia (a b c d : Int) (w : World) (h1 : angOk a b) (h2 : angOk c d) :
    Calls Try.prog 108 #[leafV a b c d] w fun e w' => e = .returned (.bool (diaB a b c d)) ∧ Below w.heap.size w w' := by
  have H1 := Lib.hid (fun w => specDbl a b w h1.1 h1.2.1 h1.2.2.1 (by obtain ⟨_, _, _, _⟩ := h1; omega))
  have H2 := Lib.hid (fun w => specDbl c d w h2.1 h2.2.1 h2.2.2.1 (by obtain ⟨_, _, _, _⟩ := h2; omega))
  have Q1 := fun W => eqlAng (redN (2 * a) b) (redD (2 * a) b) (redN (2 * c) d) (redD (2 * c) d) W
  have E : Hid (diaB a b c d = eqA (redN (2 * a) b) (redD (2 * a) b) (redN (2 * c) d) (redD (2 * c) d)) := Lib.hid rfl
  clear h1 h2
  generalize diaB a b c d = R at *
  generalize redN (2 * a) b = x at *
  generalize redD (2 * a) b = y at *
  generalize redN (2 * c) d = x' at *
  generalize redD (2 * c) d = y' at *
  generalize eqA x y x' y' = U at *
  go_enter Try.func108, Try.ntmps108
  go_wp2_with fail
  go_region_held3 (fun w' => w.heap.size < w'.heap.size ∧ Below w.heap.size w w' ∧ w'.cell? ⟨w.heap.size, 0, none⟩ = some (.int .i64 a) ∧ w'.cell? ⟨w.heap.size, 1, none⟩ = some (.int .i64 b) ∧ w'.cell? ⟨w.heap.size, 2, none⟩ = some (.int .i64 c) ∧ w'.cell? ⟨w.heap.size, 3, none⟩ = some (.int .i64 d))
      (first | exact box4 (by assumption) (by assumption) | exact box4 (Below.refl _ _).drew (by assumption) | (refine ⟨by simp, ?_, by simp [go_sem], by simp [go_sem], by simp [go_sem], by simp [go_sem]⟩; (repeat' (first | (with_reducible exact Below.refl _ _) | (with_reducible assumption) | (with_reducible refine belowNext ?_ (by with_reducible assumption)) | (with_reducible refine belowAlloc ?_ _) | (with_reducible refine Below.drew ?_) | (with_reducible refine below_drewN ?_ _) | (with_reducible refine Below.setCell ?_ ?_ _) | go_size | (with_reducible refine sizeOf' ?_) | (with_reducible refine sizeAdd ?_) | (dsimp only; first | (with_reducible refine sizeOf' ?_) | (with_reducible refine sizeAdd ?_))))))
      (first
      | (go_at_call 90; (with_reducible refine (H1.out _).mono ?_); rintro e' w1 ⟨rfl, hb1⟩)
      | (go_at_call 90; (with_reducible refine (H2.out _).mono ?_); rintro e' w1 ⟨rfl, hb1⟩))
  rename_i hHeld
  have hB := hHeld.2.1
  go_wp2
  go_ret
  refine ⟨retB E.out.symm, ?_⟩
  (repeat' (first | (with_reducible exact Below.refl _ _) | (with_reducible assumption) | (with_reducible refine belowNext ?_ (by with_reducible assumption)) | (with_reducible refine belowAlloc ?_ _) | (with_reducible refine Below.drew ?_) | (with_reducible refine below_drewN ?_ _) | (with_reducible refine Below.setCell ?_ ?_ _) | go_size | (with_reducible refine sizeOf' ?_) | (with_reducible refine sizeAdd ?_) | (dsimp only; first | (with_reducible refine sizeOf' ?_) | (with_reducible refine sizeAdd ?_))))

/-- The ends of the image, in order. -/
def imA (a b c d : Int) : Int := lfA (redN (2 * a) b) (redD (2 * a) b) (redN (2 * c) d) (redD (2 * c) d)
def imB (a b c d : Int) : Int := lfB (redN (2 * a) b) (redD (2 * a) b) (redN (2 * c) d) (redD (2 * c) d)
def imC (a b c d : Int) : Int := lfC (redN (2 * a) b) (redD (2 * a) b) (redN (2 * c) d) (redD (2 * c) d)
def imD (a b c d : Int) : Int := lfD (redN (2 * a) b) (redD (2 * a) b) (redN (2 * c) d) (redD (2 * c) d)

set_option maxHeartbeats 1000000 in
theorem implImage (a b c d : Int) (w : World) (r1 : Red (a, b)) (r2 : Red (c, d)) :
    Calls Try.prog 191 #[leafV a b c d] w fun e w' => e = .returned (leafV (imA a b c d) (imB a b c d) (imC a b c d) (imD a b c d)) ∧ Below w.heap.size w w' := by
  have h1 := okOf r1
  have h2 := okOf r2
  have H1 := Lib.hid (fun w => implDbl a b w h1.1 h1.2.1 h1.2.2.1 (by obtain ⟨_, _, _, _⟩ := h1; omega))
  have H2 := Lib.hid (fun w => implDbl c d w h2.1 h2.2.1 h2.2.2.1 (by obtain ⟨_, _, _, _⟩ := h2; omega))
  have H3 := Lib.hid (fun w => implLB (redN (2 * a) b) (redD (2 * a) b) (redN (2 * c) d) (redD (2 * c) d) w (okOf (dbl_red r1)) (okOf (dbl_red r2)))
  have E : Hid (imA a b c d = lfA (redN (2 * a) b) (redD (2 * a) b) (redN (2 * c) d) (redD (2 * c) d) ∧ imB a b c d = lfB (redN (2 * a) b) (redD (2 * a) b) (redN (2 * c) d) (redD (2 * c) d) ∧
    imC a b c d = lfC (redN (2 * a) b) (redD (2 * a) b) (redN (2 * c) d) (redD (2 * c) d) ∧ imD a b c d = lfD (redN (2 * a) b) (redD (2 * a) b) (redN (2 * c) d) (redD (2 * c) d)) := Lib.hid ⟨rfl, rfl, rfl, rfl⟩
  clear h1 h2 r1 r2
  generalize imA a b c d = X1 at *
  generalize imB a b c d = X2 at *
  generalize imC a b c d = X3 at *
  generalize imD a b c d = X4 at *
  generalize redN (2 * a) b = x at *
  generalize redD (2 * a) b = y at *
  generalize redN (2 * c) d = x' at *
  generalize redD (2 * c) d = y' at *
  generalize lfA x y x' y' = Y1 at *
  generalize lfB x y x' y' = Y2 at *
  generalize lfC x y x' y' = Y3 at *
  generalize lfD x y x' y' = Y4 at *
  go_enter Try.func191, Try.ntmps191
  go_wp2_with fail
  go_region_with (first
      | (go_at_call 96; (with_reducible refine (H1.out _).mono ?_); rintro e' w1 ⟨rfl, hb1⟩; obtain ⟨hc1, hf1⟩ := bcell hb1; have hz1 : w.heap.size < w1.heap.size := (by have := hb1.size; first | omega | (simp at this; omega)); have hz1' : w.heap.size + 1 < w1.heap.size := (by have := hb1.size; first | omega | (simp at this; omega)))
      | (go_at_call 96; (with_reducible refine (H2.out _).mono ?_); rintro e' w2 ⟨rfl, hb2⟩; obtain ⟨hc2, hf2⟩ := bcell hb2; have hz2 : w.heap.size < w2.heap.size := (by have := hb2.size; first | omega | (simp at this; omega)); have hz2' : w.heap.size + 1 < w2.heap.size := (by have := hb2.size; first | omega | (simp at this; omega)))
      | (go_at_call 84; (with_reducible refine (H3.out _).mono ?_); rintro e' w3 ⟨rfl, hb3⟩; obtain ⟨hc3, hf3⟩ := bcell hb3; have hz3 : w.heap.size + 1 < w3.heap.size := (by have := hb3.size; first | omega | (simp at this; omega))))
  all_goals
    have q0 : w3.cell? ⟨w.heap.size + 1, 0, none⟩ = some (.int .i64 0) := by
      first
      | (refine cellThru hb3 hz2' (cellThru hb2 hz1' (cellThru hb1 ?_ ?_)); simp; simp [go_sem])
      | (refine cellThru hb3 hz1' (cellThru hb1 hz2' (cellThru hb2 ?_ ?_)); simp; simp [go_sem])
    have q1 : w3.cell? ⟨w.heap.size + 1, 1, none⟩ = some (.int .i64 0) := by
      first
      | (refine cellThru hb3 hz2' (cellThru hb2 hz1' (cellThru hb1 ?_ ?_)); simp; simp [go_sem])
      | (refine cellThru hb3 hz1' (cellThru hb1 hz2' (cellThru hb2 ?_ ?_)); simp; simp [go_sem])
    have q2 : w3.cell? ⟨w.heap.size + 1, 2, none⟩ = some (.int .i64 0) := by
      first
      | (refine cellThru hb3 hz2' (cellThru hb2 hz1' (cellThru hb1 ?_ ?_)); simp; simp [go_sem])
      | (refine cellThru hb3 hz1' (cellThru hb1 hz2' (cellThru hb2 ?_ ?_)); simp; simp [go_sem])
    have q3 : w3.cell? ⟨w.heap.size + 1, 3, none⟩ = some (.int .i64 0) := by
      first
      | (refine cellThru hb3 hz2' (cellThru hb2 hz1' (cellThru hb1 ?_ ?_)); simp; simp [go_sem])
      | (refine cellThru hb3 hz1' (cellThru hb1 hz2' (cellThru hb2 ?_ ?_)); simp; simp [go_sem])
    go_wp2
    refine bodyPost_ret (v := leafV Y1 Y2 Y3 Y4) (by simp [results, Try.results191, go_sem, q0, q1, q2, q3]) rfl ⟨?_, ?_⟩
    · exact retL E.out.1.symm E.out.2.1.symm E.out.2.2.1.symm E.out.2.2.2.symm
    · (repeat' (first | (with_reducible exact Below.refl _ _) | (with_reducible assumption) | (with_reducible refine belowNext ?_ (by with_reducible assumption)) | (with_reducible refine belowAlloc ?_ _) | (with_reducible refine Below.drew ?_) | (with_reducible refine below_drewN ?_ _) | (with_reducible refine Below.setCell ?_ ?_ _) | go_size | (with_reducible refine sizeOf' ?_) | (with_reducible refine sizeAdd ?_) | (dsimp only; first | (with_reducible refine sizeOf' ?_) | (with_reducible refine sizeAdd ?_))))
set_option maxHeartbeats 1000000 in
theorem specImage (a b c d : Int) (w : World) (r1 : Red (a, b)) (r2 : Red (c, d)) :
    Calls Try.prog 109 #[leafV a b c d] w fun e w' => e = .returned (leafV (imA a b c d) (imB a b c d) (imC a b c d) (imD a b c d)) ∧ Below w.heap.size w w' := by
  have h1 := okOf r1
  have h2 := okOf r2
  have H1 := Lib.hid (fun w => specDbl a b w h1.1 h1.2.1 h1.2.2.1 (by obtain ⟨_, _, _, _⟩ := h1; omega))
  have H2 := Lib.hid (fun w => specDbl c d w h2.1 h2.2.1 h2.2.2.1 (by obtain ⟨_, _, _, _⟩ := h2; omega))
  have H3 := Lib.hid (fun w => specLB (redN (2 * a) b) (redD (2 * a) b) (redN (2 * c) d) (redD (2 * c) d) w (okOf (dbl_red r1)) (okOf (dbl_red r2)) (apart_of (dbl_red r1) (dbl_red r2)))
  have E : Hid (imA a b c d = lfA (redN (2 * a) b) (redD (2 * a) b) (redN (2 * c) d) (redD (2 * c) d) ∧ imB a b c d = lfB (redN (2 * a) b) (redD (2 * a) b) (redN (2 * c) d) (redD (2 * c) d) ∧
    imC a b c d = lfC (redN (2 * a) b) (redD (2 * a) b) (redN (2 * c) d) (redD (2 * c) d) ∧ imD a b c d = lfD (redN (2 * a) b) (redD (2 * a) b) (redN (2 * c) d) (redD (2 * c) d)) := Lib.hid ⟨rfl, rfl, rfl, rfl⟩
  clear h1 h2 r1 r2
  generalize imA a b c d = X1 at *
  generalize imB a b c d = X2 at *
  generalize imC a b c d = X3 at *
  generalize imD a b c d = X4 at *
  generalize redN (2 * a) b = x at *
  generalize redD (2 * a) b = y at *
  generalize redN (2 * c) d = x' at *
  generalize redD (2 * c) d = y' at *
  generalize lfA x y x' y' = Y1 at *
  generalize lfB x y x' y' = Y2 at *
  generalize lfC x y x' y' = Y3 at *
  generalize lfD x y x' y' = Y4 at *
  go_enter Try.func109, Try.ntmps109
  go_wp2_with fail
  go_region_with (first
      | (go_at_call 90; (with_reducible refine (H1.out _).mono ?_); rintro e' w1 ⟨rfl, hb1⟩; obtain ⟨hc1, hf1⟩ := bcell hb1; have hz1 : w.heap.size < w1.heap.size := (by have := hb1.size; first | omega | (simp at this; omega)); have hz1' : w.heap.size + 1 < w1.heap.size := (by have := hb1.size; first | omega | (simp at this; omega)))
      | (go_at_call 90; (with_reducible refine (H2.out _).mono ?_); rintro e' w2 ⟨rfl, hb2⟩; obtain ⟨hc2, hf2⟩ := bcell hb2; have hz2 : w.heap.size < w2.heap.size := (by have := hb2.size; first | omega | (simp at this; omega)); have hz2' : w.heap.size + 1 < w2.heap.size := (by have := hb2.size; first | omega | (simp at this; omega)))
      | (go_at_call 148; (with_reducible refine (H3.out _).mono ?_); rintro e' w3 ⟨rfl, hb3⟩; obtain ⟨hc3, hf3⟩ := bcell hb3; have hz3 : w.heap.size + 1 < w3.heap.size := (by have := hb3.size; first | omega | (simp at this; omega))))
  all_goals
    have q0 : w3.cell? ⟨w.heap.size + 1, 0, none⟩ = some (.int .i64 0) := by
      first
      | (refine cellThru hb3 hz2' (cellThru hb2 hz1' (cellThru hb1 ?_ ?_)); simp; simp [go_sem])
      | (refine cellThru hb3 hz1' (cellThru hb1 hz2' (cellThru hb2 ?_ ?_)); simp; simp [go_sem])
    have q1 : w3.cell? ⟨w.heap.size + 1, 1, none⟩ = some (.int .i64 0) := by
      first
      | (refine cellThru hb3 hz2' (cellThru hb2 hz1' (cellThru hb1 ?_ ?_)); simp; simp [go_sem])
      | (refine cellThru hb3 hz1' (cellThru hb1 hz2' (cellThru hb2 ?_ ?_)); simp; simp [go_sem])
    have q2 : w3.cell? ⟨w.heap.size + 1, 2, none⟩ = some (.int .i64 0) := by
      first
      | (refine cellThru hb3 hz2' (cellThru hb2 hz1' (cellThru hb1 ?_ ?_)); simp; simp [go_sem])
      | (refine cellThru hb3 hz1' (cellThru hb1 hz2' (cellThru hb2 ?_ ?_)); simp; simp [go_sem])
    have q3 : w3.cell? ⟨w.heap.size + 1, 3, none⟩ = some (.int .i64 0) := by
      first
      | (refine cellThru hb3 hz2' (cellThru hb2 hz1' (cellThru hb1 ?_ ?_)); simp; simp [go_sem])
      | (refine cellThru hb3 hz1' (cellThru hb1 hz2' (cellThru hb2 ?_ ?_)); simp; simp [go_sem])
    go_wp2
    refine bodyPost_ret (v := leafV Y1 Y2 Y3 Y4) (by simp [results, Try.results109, go_sem, q0, q1, q2, q3]) rfl ⟨?_, ?_⟩
    · exact retL E.out.1.symm E.out.2.1.symm E.out.2.2.1.symm E.out.2.2.2.symm
    · (repeat' (first | (with_reducible exact Below.refl _ _) | (with_reducible assumption) | (with_reducible refine belowNext ?_ (by with_reducible assumption)) | (with_reducible refine belowAlloc ?_ _) | (with_reducible refine Below.drew ?_) | (with_reducible refine below_drewN ?_ _) | (with_reducible refine Below.setCell ?_ ?_ _) | go_size | (with_reducible refine sizeOf' ?_) | (with_reducible refine sizeAdd ?_) | (dsimp only; first | (with_reducible refine sizeOf' ?_) | (with_reducible refine sizeAdd ?_))))

/-- What ImageOfLeaf returns. -/
def ioOk (a b c d : Int) : Bool := isLf a b c d && !diaB a b c d
def ioA (a b c d : Int) : Int := if ioOk a b c d then imA a b c d else 0
def ioB (a b c d : Int) : Int := if ioOk a b c d then imB a b c d else 0
def ioC (a b c d : Int) : Int := if ioOk a b c d then imC a b c d else 0
def ioD (a b c d : Int) : Int := if ioOk a b c d then imD a b c d else 0
def ioK (a b c d : Int) : Int := if isLf a b c d then (if diaB a b c d then 5 else 0) else 1
theorem io_no {a b c d : Int} (h : isLf a b c d = false) : ioA a b c d = 0 ∧ ioB a b c d = 0 ∧ ioC a b c d = 0 ∧ ioD a b c d = 0 ∧ ioK a b c d = 1 := by
  unfold ioA ioB ioC ioD ioK ioOk; simp [h]
theorem io_eq {a b c d : Int} (h : isLf a b c d = true) (e : diaB a b c d = true) : ioA a b c d = 0 ∧ ioB a b c d = 0 ∧ ioC a b c d = 0 ∧ ioD a b c d = 0 ∧ ioK a b c d = 5 := by
  unfold ioA ioB ioC ioD ioK ioOk; simp [h, e]
theorem io_yes {a b c d : Int} (h : isLf a b c d = true) (e : diaB a b c d = false) : ioA a b c d = imA a b c d ∧ ioB a b c d = imB a b c d ∧ ioC a b c d = imC a b c d ∧ ioD a b c d = imD a b c d ∧ ioK a b c d = 0 := by
  unfold ioA ioB ioC ioD ioK ioOk; simp [h, e]

end Go.Proofs.Ytdmppdfncbljoaa

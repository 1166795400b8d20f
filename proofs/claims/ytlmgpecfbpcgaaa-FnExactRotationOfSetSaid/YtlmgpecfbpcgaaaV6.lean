/-
  Contracts: leaves from angles; diameters and images.
-/
import Derived.Test.YtlmgpecfbpcgaaaV3
namespace Go.Proofs.Ytlmgpecfbpcgaaa
open Go.RowKit

abbrev resL (a b c d k : Int) : Value := .tuple #[leafV a b c d, .int .i64 k]
theorem retLC {a b c d k a' b' c' d' k' : Int} (h1 : a = a') (h2 : b = b') (h3 : c = c') (h4 : d = d') (h5 : k = k') : Ending.returned (resL a b c d k) = .returned (resL a' b' c' d' k') := by rw [h1, h2, h3, h4, h5]

/-- Whether there is a leaf between two, and what LeafOf returns. -/
def loOk (a b c d : Int) : Bool := sumOk a b c d && !eqA a b c d
def loA (a b c d : Int) : Int := if loOk a b c d then lfA a b c d else 0
def loB (a b c d : Int) : Int := if loOk a b c d then lfB a b c d else 0
def loC (a b c d : Int) : Int := if loOk a b c d then lfC a b c d else 0
def loD (a b c d : Int) : Int := if loOk a b c d then lfD a b c d else 0
def loK (a b c d : Int) : Int := if sumOk a b c d then (if eqA a b c d then 5 else 0) else 1
theorem lo_no {a b c d : Int} (h : sumOk a b c d = false) : loA a b c d = 0 ∧ loB a b c d = 0 ∧ loC a b c d = 0 ∧ loD a b c d = 0 ∧ loK a b c d = 1 := by
  unfold loA loB loC loD loK loOk; simp [h]
theorem lo_eq {a b c d : Int} (h : sumOk a b c d = true) (e : eqA a b c d = true) : loA a b c d = 0 ∧ loB a b c d = 0 ∧ loC a b c d = 0 ∧ loD a b c d = 0 ∧ loK a b c d = 5 := by
  unfold loA loB loC loD loK loOk; simp [h, e]
theorem lo_yes {a b c d : Int} (h : sumOk a b c d = true) (e : eqA a b c d = false) : loA a b c d = lfA a b c d ∧ loB a b c d = lfB a b c d ∧ loC a b c d = lfC a b c d ∧ loD a b c d = lfD a b c d ∧ loK a b c d = 0 := by
  unfold loA loB loC loD loK loOk; simp [h, e]
theorem sum_cases (a b c d : Int) : (isAng a b = false ∧ sumOk a b c d = false) ∨ (isAng a b = true ∧ isAng c d = false ∧ sumOk a b c d = false) ∨ (isAng a b = true ∧ isAng c d = true ∧ sumOk a b c d = true) := by
  unfold sumOk; cases isAng a b <;> cases isAng c d <;> simp

/-- A leaf is a diameter: both ends have one double. -/
def diaB (a b c d : Int) : Bool := eqA (redN (2 * a) b) (redD (2 * a) b) (redN (2 * c) d) (redD (2 * c) d)

theorem box4 {w W w1 : World} {a b c d : Int} (hb : Below W.heap.size W w1)
    (H : w.heap.size < W.heap.size ∧ Below w.heap.size w W ∧ W.cell? ⟨w.heap.size, 0, none⟩ = some (.int .i64 a) ∧ W.cell? ⟨w.heap.size, 1, none⟩ = some (.int .i64 b) ∧ W.cell? ⟨w.heap.size, 2, none⟩ = some (.int .i64 c) ∧ W.cell? ⟨w.heap.size, 3, none⟩ = some (.int .i64 d)) :
    w.heap.size < w1.heap.size ∧ Below w.heap.size w w1 ∧ w1.cell? ⟨w.heap.size, 0, none⟩ = some (.int .i64 a) ∧ w1.cell? ⟨w.heap.size, 1, none⟩ = some (.int .i64 b) ∧ w1.cell? ⟨w.heap.size, 2, none⟩ = some (.int .i64 c) ∧ w1.cell? ⟨w.heap.size, 3, none⟩ = some (.int .i64 d) := by
  obtain ⟨hz, hB, h0, h1, h2, h3⟩ := H
  exact ⟨Nat.lt_of_lt_of_le hz hb.size, belowNext hB hb, cellThru hb (by omega) h0, cellThru hb (by omega) h1, cellThru hb (by omega) h2, cellThru hb (by omega) h3⟩

set_option maxHeartbeats 1000000 in
theorem implDia (a b c d : Int) (w : World) (h1 : angOk a b) (h2 : angOk c d) :
    Calls Try.prog 129 #[leafV a b c d] w fun e w' => e = .returned (.bool (diaB a b c d)) ∧ Below w.heap.size w w' := by
  have H1 := Lib.hid (fun w => implDbl a b w h1.1 h1.2.1 h1.2.2.1 (by obtain ⟨_, _, _, _⟩ := h1; omega))
  have H2 := Lib.hid (fun w => implDbl c d w h2.1 h2.2.1 h2.2.2.1 (by obtain ⟨_, _, _, _⟩ := h2; omega))
  have Q1 := fun W => eqlAng (redN (2 * a) b) (redD (2 * a) b) (redN (2 * c) d) (redD (2 * c) d) W
  have E : Hid (diaB a b c d = eqA (redN (2 * a) b) (redD (2 * a) b) (redN (2 * c) d) (redD (2 * c) d)) := Lib.hid rfl
  clear h1 h2
  generalize diaB a b c d = R at *
  generalize redN (2 * a) b = x at *
  generalize redD (2 * a) b = y at *
  generalize redN (2 * c) d = x' at *
  generalize redD (2 * c) d = y' at *
  generalize eqA x y x' y' = U at *
  go_enter Try.func129, Try.ntmps129
  go_wp2_with fail
  go_region_held3 (fun w' => w.heap.size < w'.heap.size ∧ Below w.heap.size w w' ∧ w'.cell? ⟨w.heap.size, 0, none⟩ = some (.int .i64 a) ∧ w'.cell? ⟨w.heap.size, 1, none⟩ = some (.int .i64 b) ∧ w'.cell? ⟨w.heap.size, 2, none⟩ = some (.int .i64 c) ∧ w'.cell? ⟨w.heap.size, 3, none⟩ = some (.int .i64 d))
      (first | exact box4 (by assumption) (by assumption) | exact box4 (Below.refl _ _).drew (by assumption) | (refine ⟨by simp, ?_, by simp [go_sem], by simp [go_sem], by simp [go_sem], by simp [go_sem]⟩; (repeat' (first | (with_reducible exact Below.refl _ _) | (with_reducible assumption) | (with_reducible refine belowNext ?_ (by with_reducible assumption)) | (with_reducible refine belowAlloc ?_ _) | (with_reducible refine Below.drew ?_) | (with_reducible refine below_drewN ?_ _) | (with_reducible refine Below.setCell ?_ ?_ _) | go_size | (with_reducible refine sizeOf' ?_) | (with_reducible refine sizeAdd ?_) | (dsimp only; first | (with_reducible refine sizeOf' ?_) | (with_reducible refine sizeAdd ?_))))))
      (first
      | (go_at_call 121; (with_reducible refine (H1.out _).mono ?_); rintro e' w1 ⟨rfl, hb1⟩)
      | (go_at_call 121; (with_reducible refine (H2.out _).mono ?_); rintro e' w1 ⟨rfl, hb1⟩))
  rename_i hHeld
  have hB := hHeld.2.1
  go_wp2
  go_ret
  refine ⟨retB E.out.symm, ?_⟩
  (repeat' (first | (with_reducible exact Below.refl _ _) | (with_reducible assumption) | (with_reducible refine belowNext ?_ (by with_reducible assumption)) | (with_reducible refine belowAlloc ?_ _) | (with_reducible refine Below.drew ?_) | (with_reducible refine below_drewN ?_ _) | (with_reducible refine Below.setCell ?_ ?_ _) | go_size | (with_reducible refine sizeOf' ?_) | (with_reducible refine sizeAdd ?_) | (dsimp only; first | (with_reducible refine sizeOf' ?_) | (with_reducible refine sizeAdd ?_))))

set_option maxHeartbeats 1000000 in
theorem specDia (a b c d : Int) (w : World) (h1 : angOk a b) (h2 : angOk c d) :
    Calls Try.prog 127 #[leafV a b c d] w fun e w' => e = .returned (.bool (diaB a b c d)) ∧ Below w.heap.size w w' := by
  have H1 := Lib.hid (fun w => specDbl a b w h1.1 h1.2.1 h1.2.2.1 (by obtain ⟨_, _, _, _⟩ := h1; omega))
  have H2 := Lib.hid (fun w => specDbl c d w h2.1 h2.2.1 h2.2.2.1 (by obtain ⟨_, _, _, _⟩ := h2; omega))
  have Q1 := fun W => eqlAng (redN (2 * a) b) (redD (2 * a) b) (redN (2 * c) d) (redD (2 * c) d) W
  have E : Hid (diaB a b c d = eqA (redN (2 * a) b) (redD (2 * a) b) (redN (2 * c) d) (redD (2 * c) d)) := Lib.hid rfl
  clear h1 h2
  generalize diaB a b c d = R at *
  generalize redN (2 * a) b = x at *
  generalize redD (2 * a) b = y at *
  generalize redN (2 * c) d = x' at *
  generalize redD (2 * c) d = y' at *
  generalize eqA x y x' y' = U at *
  go_enter Try.func127, Try.ntmps127
  go_wp2_with fail
  go_region_held3 (fun w' => w.heap.size < w'.heap.size ∧ Below w.heap.size w w' ∧ w'.cell? ⟨w.heap.size, 0, none⟩ = some (.int .i64 a) ∧ w'.cell? ⟨w.heap.size, 1, none⟩ = some (.int .i64 b) ∧ w'.cell? ⟨w.heap.size, 2, none⟩ = some (.int .i64 c) ∧ w'.cell? ⟨w.heap.size, 3, none⟩ = some (.int .i64 d))
      (first | exact box4 (by assumption) (by assumption) | exact box4 (Below.refl _ _).drew (by assumption) | (refine ⟨by simp, ?_, by simp [go_sem], by simp [go_sem], by simp [go_sem], by simp [go_sem]⟩; (repeat' (first | (with_reducible exact Below.refl _ _) | (with_reducible assumption) | (with_reducible refine belowNext ?_ (by with_reducible assumption)) | (with_reducible refine belowAlloc ?_ _) | (with_reducible refine Below.drew ?_) | (with_reducible refine below_drewN ?_ _) | (with_reducible refine Below.setCell ?_ ?_ _) | go_size | (with_reducible refine sizeOf' ?_) | (with_reducible refine sizeAdd ?_) | (dsimp only; first | (with_reducible refine sizeOf' ?_) | (with_reducible refine sizeAdd ?_))))))
      (first
      | (go_at_call 85; (with_reducible refine (H1.out _).mono ?_); rintro e' w1 ⟨rfl, hb1⟩)
      | (go_at_call 85; (with_reducible refine (H2.out _).mono ?_); rintro e' w1 ⟨rfl, hb1⟩))
  rename_i hHeld
  have hB := hHeld.2.1
  go_wp2
  go_ret
  refine ⟨retB E.out.symm, ?_⟩
  (repeat' (first | (with_reducible exact Below.refl _ _) | (with_reducible assumption) | (with_reducible refine belowNext ?_ (by with_reducible assumption)) | (with_reducible refine belowAlloc ?_ _) | (with_reducible refine Below.drew ?_) | (with_reducible refine below_drewN ?_ _) | (with_reducible refine Below.setCell ?_ ?_ _) | go_size | (with_reducible refine sizeOf' ?_) | (with_reducible refine sizeAdd ?_) | (dsimp only; first | (with_reducible refine sizeOf' ?_) | (with_reducible refine sizeAdd ?_))))
end Go.Proofs.Ytlmgpecfbpcgaaa

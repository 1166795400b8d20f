/-
  Contracts: arcs and cyclic orders as the exported functions tell them.
-/
import Derived.Test.YtpladfogajjnnaaW6
namespace Go.Proofs.Ytpladfogajjnnaa
open Go.RowKit

/-- Two angles are one. -/
def eqA (a1 a2 b1 b2 : Int) : Bool := (a1 == b1) && (a2 == b2)
def winOk (n d a1 a2 b1 b2 : Int) : Bool := isAng n d && (isAng a1 a2 && isAng b1 b2)
def winB (n d a1 a2 b1 b2 : Int) : Bool := winOk n d a1 a2 b1 b2 && !eqA a1 a2 b1 b2 && arcB n d a1 a2 b1 b2
def winC (n d a1 a2 b1 b2 : Int) : Int := if winOk n d a1 a2 b1 b2 then (if eqA a1 a2 b1 b2 then 5 else 0) else 1
theorem win_no {n d a1 a2 b1 b2 : Int} (h : winOk n d a1 a2 b1 b2 = false) : winB n d a1 a2 b1 b2 = false ∧ winC n d a1 a2 b1 b2 = 1 := by
  unfold winB winC; simp [h]
theorem win_eq {n d a1 a2 b1 b2 : Int} (h : winOk n d a1 a2 b1 b2 = true) (e : eqA a1 a2 b1 b2 = true) : winB n d a1 a2 b1 b2 = false ∧ winC n d a1 a2 b1 b2 = 5 := by
  unfold winB winC; simp [h, e]
theorem win_yes {n d a1 a2 b1 b2 : Int} (h : winOk n d a1 a2 b1 b2 = true) (e : eqA a1 a2 b1 b2 = false) : winB n d a1 a2 b1 b2 = arcB n d a1 a2 b1 b2 ∧ winC n d a1 a2 b1 b2 = 0 := by
  unfold winB winC; simp [h, e]
theorem ret2B {x x' : Bool} {y y' : Int} (h1 : x = x') (h2 : y = y') : Ending.returned (.tuple #[.bool x, .int .i64 y]) = .returned (.tuple #[.bool x', .int .i64 y']) := by rw [h1, h2]
theorem ret2I {x x' y y' : Int} (h1 : x = x') (h2 : y = y') : Ending.returned (.tuple #[.int .i64 x, .int .i64 y]) = .returned (.tuple #[.int .i64 x', .int .i64 y']) := by rw [h1, h2]
theorem is3 (n d a1 a2 b1 b2 : Int) : (isAng n d = false) ∨ (isAng n d = true ∧ isAng a1 a2 = false) ∨ (isAng n d = true ∧ isAng a1 a2 = true ∧ isAng b1 b2 = false) ∨ (isAng n d = true ∧ isAng a1 a2 = true ∧ isAng b1 b2 = true) := by
  cases isAng n d <;> cases isAng a1 a2 <;> cases isAng b1 b2 <;> simp

theorem eqlAng (a1 a2 b1 b2 : Int) (W : World) : (binOp .eql 25 (ang a1 a2) (ang b1 b2)).run Try.prog W = .ok (.bool (eqA a1 a2 b1 b2)) W := by
  by_cases h1 : a1 = b1
  · by_cases h2 : a2 = b2
    · subst h1 h2
      simp [go_sem, eqA]
    · subst h1
      simp [go_sem, eqA, h2]
  · simp [go_sem, eqA, h1]

/-- The cyclic order, and its code. -/
def cycE (n d a1 a2 b1 b2 : Int) : Bool := eqA n d a1 a2 || (eqA a1 a2 b1 b2 || eqA n d b1 b2)
def cycV (n d a1 a2 b1 b2 : Int) : Int := if winOk n d a1 a2 b1 b2 then (if cycE n d a1 a2 b1 b2 then 0 else if arcB a1 a2 n d b1 b2 then 1 else -1) else 0
def cycC (n d a1 a2 b1 b2 : Int) : Int := if winOk n d a1 a2 b1 b2 then 0 else 1
theorem cyc_no {n d a1 a2 b1 b2 : Int} (h : winOk n d a1 a2 b1 b2 = false) : cycV n d a1 a2 b1 b2 = 0 ∧ cycC n d a1 a2 b1 b2 = 1 := by
  unfold cycV cycC; simp [h]
theorem cyc_eq {n d a1 a2 b1 b2 : Int} (h : winOk n d a1 a2 b1 b2 = true) (e : cycE n d a1 a2 b1 b2 = true) : cycV n d a1 a2 b1 b2 = 0 ∧ cycC n d a1 a2 b1 b2 = 0 := by
  unfold cycV cycC; simp [h, e]
theorem cyc_1 {n d a1 a2 b1 b2 : Int} (h : winOk n d a1 a2 b1 b2 = true) (e : cycE n d a1 a2 b1 b2 = false) (f : arcB a1 a2 n d b1 b2 = true) : cycV n d a1 a2 b1 b2 = 1 ∧ cycC n d a1 a2 b1 b2 = 0 := by
  unfold cycV cycC; simp [h, e, f]
theorem cyc_2 {n d a1 a2 b1 b2 : Int} (h : winOk n d a1 a2 b1 b2 = true) (e : cycE n d a1 a2 b1 b2 = false) (f : arcB a1 a2 n d b1 b2 = false) : cycV n d a1 a2 b1 b2 = -1 ∧ cycC n d a1 a2 b1 b2 = 0 := by
  unfold cycV cycC; simp [h, e, f]
theorem cyc_cases (n d a1 a2 b1 b2 : Int) : (cycE n d a1 a2 b1 b2 = true ∧ eqA n d a1 a2 = true) ∨ (cycE n d a1 a2 b1 b2 = true ∧ eqA n d a1 a2 = false ∧ eqA a1 a2 b1 b2 = true) ∨
    (cycE n d a1 a2 b1 b2 = true ∧ eqA n d a1 a2 = false ∧ eqA a1 a2 b1 b2 = false ∧ eqA n d b1 b2 = true) ∨ (cycE n d a1 a2 b1 b2 = false ∧ eqA n d a1 a2 = false ∧ eqA a1 a2 b1 b2 = false ∧ eqA n d b1 b2 = false) := by
  unfold cycE
  cases eqA n d a1 a2 <;> cases eqA a1 a2 b1 b2 <;> cases eqA n d b1 b2 <;> simp

set_option maxHeartbeats 400000 in
theorem specWin (n d a1 a2 b1 b2 : Int) (w : World) :
    Calls Try.prog 48 #[ang n d, ang a1 a2, ang b1 b2] w fun e w' => e = .returned (.tuple #[.bool (winB n d a1 a2 b1 b2), .int .i64 (winC n d a1 a2 b1 b2)]) ∧ Below w.heap.size w w' := by
  have H1 := Lib.hid (fun w => specIs1 n d w)
  have H2 := Lib.hid (fun w => specIs1 a1 a2 w)
  have H3 := Lib.hid (fun w => specIs1 b1 b2 w)
  rcases is3 n d a1 a2 b1 b2 with h1 | ⟨h1, h2⟩ | ⟨h1, h2, h3⟩ | ⟨h1, h2, h3⟩
  · have E := Lib.hid (win_no (show winOk n d a1 a2 b1 b2 = false by simp [winOk, h1]))
    rw [h1] at H1
    clear h1
    generalize winB n d a1 a2 b1 b2 = X at *
    generalize winC n d a1 a2 b1 b2 = Y at *
    go_enter Try.func48, Try.ntmps48
    go_wp2_with fail
    refine (H1.out _).mono ?_
    rintro e w1 ⟨rfl, hb1⟩
    obtain ⟨hc1, hf1⟩ := bcell hb1
    have hz10 : w.heap.size  < w1.heap.size := by have := hb1.size; simp at this; omega
    have hz13 : w.heap.size + 1 < w1.heap.size := by have := hb1.size; simp at this; omega
    have hz17 : w.heap.size + 1 + 1 < w1.heap.size := by have := hb1.size; simp at this; omega
    go_wp2
    go_ret2
    refine ⟨ret2B E.out.1.symm E.out.2.symm, ?_⟩
    (repeat' (first | (with_reducible exact Below.refl _ _) | (with_reducible assumption) | (with_reducible refine belowNext ?_ (by with_reducible assumption)) | (with_reducible refine belowAlloc ?_ _) | (with_reducible refine Below.drew ?_) | (with_reducible refine below_drewN ?_ _) | (with_reducible refine Below.setCell ?_ ?_ _) | go_size | (with_reducible refine sizeOf' ?_) | (with_reducible refine sizeAdd ?_) | (dsimp only; first | (with_reducible refine sizeOf' ?_) | (with_reducible refine sizeAdd ?_))))
  · have E := Lib.hid (win_no (show winOk n d a1 a2 b1 b2 = false by simp [winOk, h2]))
    rw [h1] at H1
    rw [h2] at H2
    clear h1 h2
    generalize winB n d a1 a2 b1 b2 = X at *
    generalize winC n d a1 a2 b1 b2 = Y at *
    go_enter Try.func48, Try.ntmps48
    go_wp2_with fail
    refine (H1.out _).mono ?_
    rintro e w1 ⟨rfl, hb1⟩
    obtain ⟨hc1, hf1⟩ := bcell hb1
    have hz10 : w.heap.size  < w1.heap.size := by have := hb1.size; simp at this; omega
    have hz13 : w.heap.size + 1 < w1.heap.size := by have := hb1.size; simp at this; omega
    have hz17 : w.heap.size + 1 + 1 < w1.heap.size := by have := hb1.size; simp at this; omega
    go_wp2_with fail
    refine (H2.out _).mono ?_
    rintro e w2 ⟨rfl, hb2⟩
    obtain ⟨hc2, hf2⟩ := bcell hb2
    have hz20 : w.heap.size  < w2.heap.size := by have := hb2.size; omega
    have hz23 : w.heap.size + 1 < w2.heap.size := by have := hb2.size; omega
    have hz27 : w.heap.size + 1 + 1 < w2.heap.size := by have := hb2.size; omega
    go_wp2
    go_ret2
    refine ⟨ret2B E.out.1.symm E.out.2.symm, ?_⟩
    (repeat' (first | (with_reducible exact Below.refl _ _) | (with_reducible assumption) | (with_reducible refine belowNext ?_ (by with_reducible assumption)) | (with_reducible refine belowAlloc ?_ _) | (with_reducible refine Below.drew ?_) | (with_reducible refine below_drewN ?_ _) | (with_reducible refine Below.setCell ?_ ?_ _) | go_size | (with_reducible refine sizeOf' ?_) | (with_reducible refine sizeAdd ?_) | (dsimp only; first | (with_reducible refine sizeOf' ?_) | (with_reducible refine sizeAdd ?_))))
  · have E := Lib.hid (win_no (show winOk n d a1 a2 b1 b2 = false by simp [winOk, h3]))
    rw [h1] at H1
    rw [h2] at H2
    rw [h3] at H3
    clear h1 h2 h3
    generalize winB n d a1 a2 b1 b2 = X at *
    generalize winC n d a1 a2 b1 b2 = Y at *
    go_enter Try.func48, Try.ntmps48
    go_wp2_with fail
    refine (H1.out _).mono ?_
    rintro e w1 ⟨rfl, hb1⟩
    obtain ⟨hc1, hf1⟩ := bcell hb1
    have hz10 : w.heap.size  < w1.heap.size := by have := hb1.size; simp at this; omega
    have hz13 : w.heap.size + 1 < w1.heap.size := by have := hb1.size; simp at this; omega
    have hz17 : w.heap.size + 1 + 1 < w1.heap.size := by have := hb1.size; simp at this; omega
    go_wp2_with fail
    refine (H2.out _).mono ?_
    rintro e w2 ⟨rfl, hb2⟩
    obtain ⟨hc2, hf2⟩ := bcell hb2
    have hz20 : w.heap.size  < w2.heap.size := by have := hb2.size; omega
    have hz23 : w.heap.size + 1 < w2.heap.size := by have := hb2.size; omega
    have hz27 : w.heap.size + 1 + 1 < w2.heap.size := by have := hb2.size; omega
    go_wp2_with fail
    refine (H3.out _).mono ?_
    rintro e w3 ⟨rfl, hb3⟩
    obtain ⟨hc3, hf3⟩ := bcell hb3
    have hz30 : w.heap.size  < w3.heap.size := by have := hb3.size; omega
    have hz33 : w.heap.size + 1 < w3.heap.size := by have := hb3.size; omega
    have hz37 : w.heap.size + 1 + 1 < w3.heap.size := by have := hb3.size; omega
    go_wp2
    go_ret2
    refine ⟨ret2B E.out.1.symm E.out.2.symm, ?_⟩
    (repeat' (first | (with_reducible exact Below.refl _ _) | (with_reducible assumption) | (with_reducible refine belowNext ?_ (by with_reducible assumption)) | (with_reducible refine belowAlloc ?_ _) | (with_reducible refine Below.drew ?_) | (with_reducible refine below_drewN ?_ _) | (with_reducible refine Below.setCell ?_ ?_ _) | go_size | (with_reducible refine sizeOf' ?_) | (with_reducible refine sizeAdd ?_) | (dsimp only; first | (with_reducible refine sizeOf' ?_) | (with_reducible refine sizeAdd ?_))))
  · have ok := show winOk n d a1 a2 b1 b2 = true by simp [winOk, h1, h2, h3]
    have HS := Lib.hid (fun w => specArc n d a1 a2 b1 b2 w (isAng_ok h1) (isAng_ok h2) (isAng_ok h3))
    rw [h1] at H1
    rw [h2] at H2
    rw [h3] at H3
    clear h1 h2 h3
    cases e : eqA a1 a2 b1 b2
    · have E := Lib.hid (win_yes ok e)
      have Q1 := fun W => eqlAng a1 a2 b1 b2 W
      rw [e] at Q1
      clear ok e
      generalize winB n d a1 a2 b1 b2 = X at *
      generalize winC n d a1 a2 b1 b2 = Y at *
      generalize arcB n d a1 a2 b1 b2 = R at *
      go_enter Try.func48, Try.ntmps48
      go_wp2_with fail
      refine (H1.out _).mono ?_
      rintro e w1 ⟨rfl, hb1⟩
      obtain ⟨hc1, hf1⟩ := bcell hb1
      have hz10 : w.heap.size  < w1.heap.size := by have := hb1.size; simp at this; omega
      have hz13 : w.heap.size + 1 < w1.heap.size := by have := hb1.size; simp at this; omega
      have hz17 : w.heap.size + 1 + 1 < w1.heap.size := by have := hb1.size; simp at this; omega
      go_wp2_with fail
      refine (H2.out _).mono ?_
      rintro e w2 ⟨rfl, hb2⟩
      obtain ⟨hc2, hf2⟩ := bcell hb2
      have hz20 : w.heap.size  < w2.heap.size := by have := hb2.size; omega
      have hz23 : w.heap.size + 1 < w2.heap.size := by have := hb2.size; omega
      have hz27 : w.heap.size + 1 + 1 < w2.heap.size := by have := hb2.size; omega
      go_wp2_with fail
      refine (H3.out _).mono ?_
      rintro e w3 ⟨rfl, hb3⟩
      obtain ⟨hc3, hf3⟩ := bcell hb3
      have hz30 : w.heap.size  < w3.heap.size := by have := hb3.size; omega
      have hz33 : w.heap.size + 1 < w3.heap.size := by have := hb3.size; omega
      have hz37 : w.heap.size + 1 + 1 < w3.heap.size := by have := hb3.size; omega
      go_wp2_with fail
      refine (HS.out _).mono ?_
      rintro e w4 ⟨rfl, hb4⟩
      go_wp2
      go_ret2
      refine ⟨ret2B E.out.1.symm E.out.2.symm, ?_⟩
      (repeat' (first | (with_reducible exact Below.refl _ _) | (with_reducible assumption) | (with_reducible refine belowNext ?_ (by with_reducible assumption)) | (with_reducible refine belowAlloc ?_ _) | (with_reducible refine Below.drew ?_) | (with_reducible refine below_drewN ?_ _) | (with_reducible refine Below.setCell ?_ ?_ _) | go_size | (with_reducible refine sizeOf' ?_) | (with_reducible refine sizeAdd ?_) | (dsimp only; first | (with_reducible refine sizeOf' ?_) | (with_reducible refine sizeAdd ?_))))
    · have E := Lib.hid (win_eq ok e)
      have Q1 := fun W => eqlAng a1 a2 b1 b2 W
      rw [e] at Q1
      clear ok e
      generalize winB n d a1 a2 b1 b2 = X at *
      generalize winC n d a1 a2 b1 b2 = Y at *
      go_enter Try.func48, Try.ntmps48
      go_wp2_with fail
      refine (H1.out _).mono ?_
      rintro e w1 ⟨rfl, hb1⟩
      obtain ⟨hc1, hf1⟩ := bcell hb1
      have hz10 : w.heap.size  < w1.heap.size := by have := hb1.size; simp at this; omega
      have hz13 : w.heap.size + 1 < w1.heap.size := by have := hb1.size; simp at this; omega
      have hz17 : w.heap.size + 1 + 1 < w1.heap.size := by have := hb1.size; simp at this; omega
      go_wp2_with fail
      refine (H2.out _).mono ?_
      rintro e w2 ⟨rfl, hb2⟩
      obtain ⟨hc2, hf2⟩ := bcell hb2
      have hz20 : w.heap.size  < w2.heap.size := by have := hb2.size; omega
      have hz23 : w.heap.size + 1 < w2.heap.size := by have := hb2.size; omega
      have hz27 : w.heap.size + 1 + 1 < w2.heap.size := by have := hb2.size; omega
      go_wp2_with fail
      refine (H3.out _).mono ?_
      rintro e w3 ⟨rfl, hb3⟩
      obtain ⟨hc3, hf3⟩ := bcell hb3
      have hz30 : w.heap.size  < w3.heap.size := by have := hb3.size; omega
      have hz33 : w.heap.size + 1 < w3.heap.size := by have := hb3.size; omega
      have hz37 : w.heap.size + 1 + 1 < w3.heap.size := by have := hb3.size; omega
      go_wp2
      go_ret2
      refine ⟨ret2B E.out.1.symm E.out.2.symm, ?_⟩
      (repeat' (first | (with_reducible exact Below.refl _ _) | (with_reducible assumption) | (with_reducible refine belowNext ?_ (by with_reducible assumption)) | (with_reducible refine belowAlloc ?_ _) | (with_reducible refine Below.drew ?_) | (with_reducible refine below_drewN ?_ _) | (with_reducible refine Below.setCell ?_ ?_ _) | go_size | (with_reducible refine sizeOf' ?_) | (with_reducible refine sizeAdd ?_) | (dsimp only; first | (with_reducible refine sizeOf' ?_) | (with_reducible refine sizeAdd ?_))))

set_option maxHeartbeats 400000 in
theorem implWin (n d a1 a2 b1 b2 : Int) (w : World) :
    Calls Try.prog 49 #[ang n d, ang a1 a2, ang b1 b2] w fun e w' => e = .returned (.tuple #[.bool (winB n d a1 a2 b1 b2), .int .i64 (winC n d a1 a2 b1 b2)]) ∧ Below w.heap.size w w' := by
  have HA : Hid (∀ (w : World) b cap, AngRow w w.heap.size (some ⟨b, 0, none⟩) [(n, d), (a1, a2), (b1, b2)] → Calls Try.prog 69 #[.slice (some ⟨b, 0, none⟩) 3 cap] w fun e w' => e = .returned (.bool (winOk n d a1 a2 b1 b2)) ∧ Below w.heap.size w w') := Lib.hid (fun w b cap h => by
    have := areAng (some ⟨b, 0, none⟩) 3 cap [(n, d), (a1, a2), (b1, b2)] w h rfl (by omega)
    rw [all3] at this
    exact this)
  cases ok : winOk n d a1 a2 b1 b2
  · have E := Lib.hid (win_no ok)
    rw [ok] at HA
    clear ok
    generalize winB n d a1 a2 b1 b2 = X at *
    generalize winC n d a1 a2 b1 b2 = Y at *
    go_enter Try.func49, Try.ntmps49
    go_wp2_with fail
    refine (HA.out _ _ _ (by exact row3 _ _ _ _ _ _ _ _ _ (by simp))).mono ?_
    rintro e w1 ⟨rfl, hb1⟩
    obtain ⟨hc1, hf1⟩ := bcell hb1
    have hz10 : w.heap.size  < w1.heap.size := by have := hb1.size; simp at this; omega
    have hz13 : w.heap.size + 1 < w1.heap.size := by have := hb1.size; simp at this; omega
    have hz17 : w.heap.size + 1 + 1 < w1.heap.size := by have := hb1.size; simp at this; omega
    go_wp2
    go_ret2
    refine ⟨ret2B E.out.1.symm E.out.2.symm, ?_⟩
    (repeat' (first | (with_reducible exact Below.refl _ _) | (with_reducible assumption) | (with_reducible refine belowNext ?_ (by with_reducible assumption)) | (with_reducible refine belowAlloc ?_ _) | (with_reducible refine Below.drew ?_) | (with_reducible refine below_drewN ?_ _) | (with_reducible refine Below.setCell ?_ ?_ _) | go_size | (with_reducible refine sizeOf' ?_) | (with_reducible refine sizeAdd ?_) | (dsimp only; first | (with_reducible refine sizeOf' ?_) | (with_reducible refine sizeAdd ?_))))
  · have h1 : isAng n d = true := by simp [winOk] at ok; exact ok.1
    have h2 : isAng a1 a2 = true := by simp [winOk] at ok; exact ok.2.1
    have h3 : isAng b1 b2 = true := by simp [winOk] at ok; exact ok.2.2
    have HS := Lib.hid (fun w => implArc n d a1 a2 b1 b2 w (isAng_ok h1) (isAng_ok h2) (isAng_ok h3))
    rw [ok] at HA
    clear h1 h2 h3
    cases e : eqA a1 a2 b1 b2
    · have E := Lib.hid (win_yes ok e)
      have Q1 := fun W => eqlAng a1 a2 b1 b2 W
      rw [e] at Q1
      clear ok e
      generalize winB n d a1 a2 b1 b2 = X at *
      generalize winC n d a1 a2 b1 b2 = Y at *
      generalize arcB n d a1 a2 b1 b2 = R at *
      go_enter Try.func49, Try.ntmps49
      go_wp2_with fail
      refine (HA.out _ _ _ (by exact row3 _ _ _ _ _ _ _ _ _ (by simp))).mono ?_
      rintro e w1 ⟨rfl, hb1⟩
      obtain ⟨hc1, hf1⟩ := bcell hb1
      have hz10 : w.heap.size  < w1.heap.size := by have := hb1.size; simp at this; omega
      have hz13 : w.heap.size + 1 < w1.heap.size := by have := hb1.size; simp at this; omega
      have hz17 : w.heap.size + 1 + 1 < w1.heap.size := by have := hb1.size; simp at this; omega
      go_wp2_with fail
      refine (HS.out _).mono ?_
      rintro e w2 ⟨rfl, hb2⟩
      go_wp2
      go_ret2
      refine ⟨ret2B E.out.1.symm E.out.2.symm, ?_⟩
      (repeat' (first | (with_reducible exact Below.refl _ _) | (with_reducible assumption) | (with_reducible refine belowNext ?_ (by with_reducible assumption)) | (with_reducible refine belowAlloc ?_ _) | (with_reducible refine Below.drew ?_) | (with_reducible refine below_drewN ?_ _) | (with_reducible refine Below.setCell ?_ ?_ _) | go_size | (with_reducible refine sizeOf' ?_) | (with_reducible refine sizeAdd ?_) | (dsimp only; first | (with_reducible refine sizeOf' ?_) | (with_reducible refine sizeAdd ?_))))
    · have E := Lib.hid (win_eq ok e)
      have Q1 := fun W => eqlAng a1 a2 b1 b2 W
      rw [e] at Q1
      clear ok e
      generalize winB n d a1 a2 b1 b2 = X at *
      generalize winC n d a1 a2 b1 b2 = Y at *
      go_enter Try.func49, Try.ntmps49
      go_wp2_with fail
      refine (HA.out _ _ _ (by exact row3 _ _ _ _ _ _ _ _ _ (by simp))).mono ?_
      rintro e w1 ⟨rfl, hb1⟩
      obtain ⟨hc1, hf1⟩ := bcell hb1
      have hz10 : w.heap.size  < w1.heap.size := by have := hb1.size; simp at this; omega
      have hz13 : w.heap.size + 1 < w1.heap.size := by have := hb1.size; simp at this; omega
      have hz17 : w.heap.size + 1 + 1 < w1.heap.size := by have := hb1.size; simp at this; omega
      go_wp2
      go_ret2
      refine ⟨ret2B E.out.1.symm E.out.2.symm, ?_⟩
      (repeat' (first | (with_reducible exact Below.refl _ _) | (with_reducible assumption) | (with_reducible refine belowNext ?_ (by with_reducible assumption)) | (with_reducible refine belowAlloc ?_ _) | (with_reducible refine Below.drew ?_) | (with_reducible refine below_drewN ?_ _) | (with_reducible refine Below.setCell ?_ ?_ _) | go_size | (with_reducible refine sizeOf' ?_) | (with_reducible refine sizeAdd ?_) | (dsimp only; first | (with_reducible refine sizeOf' ?_) | (with_reducible refine sizeAdd ?_))))

set_option maxHeartbeats 400000 in
theorem specCyc (n d a1 a2 b1 b2 : Int) (w : World) :
    Calls Try.prog 50 #[ang n d, ang a1 a2, ang b1 b2] w fun e w' => e = .returned (.tuple #[.int .i64 (cycV n d a1 a2 b1 b2), .int .i64 (cycC n d a1 a2 b1 b2)]) ∧ Below w.heap.size w w' := by
  have H1 := Lib.hid (fun w => specIs1 n d w)
  have H2 := Lib.hid (fun w => specIs1 a1 a2 w)
  have H3 := Lib.hid (fun w => specIs1 b1 b2 w)
  rcases is3 n d a1 a2 b1 b2 with h1 | ⟨h1, h2⟩ | ⟨h1, h2, h3⟩ | ⟨h1, h2, h3⟩
  · have E := Lib.hid (cyc_no (show winOk n d a1 a2 b1 b2 = false by simp [winOk, h1]))
    rw [h1] at H1
    clear h1
    generalize cycV n d a1 a2 b1 b2 = X at *
    generalize cycC n d a1 a2 b1 b2 = Y at *
    go_enter Try.func50, Try.ntmps50
    go_wp2_with fail
    refine (H1.out _).mono ?_
    rintro e w1 ⟨rfl, hb1⟩
    obtain ⟨hc1, hf1⟩ := bcell hb1
    have hz10 : w.heap.size  < w1.heap.size := by have := hb1.size; simp at this; omega
    have hz13 : w.heap.size + 1 < w1.heap.size := by have := hb1.size; simp at this; omega
    have hz17 : w.heap.size + 1 + 1 < w1.heap.size := by have := hb1.size; simp at this; omega
    go_wp2
    go_ret2
    refine ⟨ret2I E.out.1.symm E.out.2.symm, ?_⟩
    (repeat' (first | (with_reducible exact Below.refl _ _) | (with_reducible assumption) | (with_reducible refine belowNext ?_ (by with_reducible assumption)) | (with_reducible refine belowAlloc ?_ _) | (with_reducible refine Below.drew ?_) | (with_reducible refine below_drewN ?_ _) | (with_reducible refine Below.setCell ?_ ?_ _) | go_size | (with_reducible refine sizeOf' ?_) | (with_reducible refine sizeAdd ?_) | (dsimp only; first | (with_reducible refine sizeOf' ?_) | (with_reducible refine sizeAdd ?_))))
  · have E := Lib.hid (cyc_no (show winOk n d a1 a2 b1 b2 = false by simp [winOk, h2]))
    rw [h1] at H1
    rw [h2] at H2
    clear h1 h2
    generalize cycV n d a1 a2 b1 b2 = X at *
    generalize cycC n d a1 a2 b1 b2 = Y at *
    go_enter Try.func50, Try.ntmps50
    go_wp2_with fail
    refine (H1.out _).mono ?_
    rintro e w1 ⟨rfl, hb1⟩
    obtain ⟨hc1, hf1⟩ := bcell hb1
    have hz10 : w.heap.size  < w1.heap.size := by have := hb1.size; simp at this; omega
    have hz13 : w.heap.size + 1 < w1.heap.size := by have := hb1.size; simp at this; omega
    have hz17 : w.heap.size + 1 + 1 < w1.heap.size := by have := hb1.size; simp at this; omega
    go_wp2_with fail
    refine (H2.out _).mono ?_
    rintro e w2 ⟨rfl, hb2⟩
    obtain ⟨hc2, hf2⟩ := bcell hb2
    have hz20 : w.heap.size  < w2.heap.size := by have := hb2.size; omega
    have hz23 : w.heap.size + 1 < w2.heap.size := by have := hb2.size; omega
    have hz27 : w.heap.size + 1 + 1 < w2.heap.size := by have := hb2.size; omega
    go_wp2
    go_ret2
    refine ⟨ret2I E.out.1.symm E.out.2.symm, ?_⟩
    (repeat' (first | (with_reducible exact Below.refl _ _) | (with_reducible assumption) | (with_reducible refine belowNext ?_ (by with_reducible assumption)) | (with_reducible refine belowAlloc ?_ _) | (with_reducible refine Below.drew ?_) | (with_reducible refine below_drewN ?_ _) | (with_reducible refine Below.setCell ?_ ?_ _) | go_size | (with_reducible refine sizeOf' ?_) | (with_reducible refine sizeAdd ?_) | (dsimp only; first | (with_reducible refine sizeOf' ?_) | (with_reducible refine sizeAdd ?_))))
  · have E := Lib.hid (cyc_no (show winOk n d a1 a2 b1 b2 = false by simp [winOk, h3]))
    rw [h1] at H1
    rw [h2] at H2
    rw [h3] at H3
    clear h1 h2 h3
    generalize cycV n d a1 a2 b1 b2 = X at *
    generalize cycC n d a1 a2 b1 b2 = Y at *
    go_enter Try.func50, Try.ntmps50
    go_wp2_with fail
    refine (H1.out _).mono ?_
    rintro e w1 ⟨rfl, hb1⟩
    obtain ⟨hc1, hf1⟩ := bcell hb1
    have hz10 : w.heap.size  < w1.heap.size := by have := hb1.size; simp at this; omega
    have hz13 : w.heap.size + 1 < w1.heap.size := by have := hb1.size; simp at this; omega
    have hz17 : w.heap.size + 1 + 1 < w1.heap.size := by have := hb1.size; simp at this; omega
    go_wp2_with fail
    refine (H2.out _).mono ?_
    rintro e w2 ⟨rfl, hb2⟩
    obtain ⟨hc2, hf2⟩ := bcell hb2
    have hz20 : w.heap.size  < w2.heap.size := by have := hb2.size; omega
    have hz23 : w.heap.size + 1 < w2.heap.size := by have := hb2.size; omega
    have hz27 : w.heap.size + 1 + 1 < w2.heap.size := by have := hb2.size; omega
    go_wp2_with fail
    refine (H3.out _).mono ?_
    rintro e w3 ⟨rfl, hb3⟩
    obtain ⟨hc3, hf3⟩ := bcell hb3
    have hz30 : w.heap.size  < w3.heap.size := by have := hb3.size; omega
    have hz33 : w.heap.size + 1 < w3.heap.size := by have := hb3.size; omega
    have hz37 : w.heap.size + 1 + 1 < w3.heap.size := by have := hb3.size; omega
    go_wp2
    go_ret2
    refine ⟨ret2I E.out.1.symm E.out.2.symm, ?_⟩
    (repeat' (first | (with_reducible exact Below.refl _ _) | (with_reducible assumption) | (with_reducible refine belowNext ?_ (by with_reducible assumption)) | (with_reducible refine belowAlloc ?_ _) | (with_reducible refine Below.drew ?_) | (with_reducible refine below_drewN ?_ _) | (with_reducible refine Below.setCell ?_ ?_ _) | go_size | (with_reducible refine sizeOf' ?_) | (with_reducible refine sizeAdd ?_) | (dsimp only; first | (with_reducible refine sizeOf' ?_) | (with_reducible refine sizeAdd ?_))))
  · have ok := show winOk n d a1 a2 b1 b2 = true by simp [winOk, h1, h2, h3]
    have HS := Lib.hid (fun w => specArc a1 a2 n d b1 b2 w (isAng_ok h2) (isAng_ok h1) (isAng_ok h3))
    rw [h1] at H1
    rw [h2] at H2
    rw [h3] at H3
    clear h1 h2 h3
    rcases cyc_cases n d a1 a2 b1 b2 with ⟨e, e1⟩ | ⟨e, e1, e2⟩ | ⟨e, e1, e2, e3⟩ | ⟨e, e1, e2, e3⟩
    · have Q1 := fun W => eqlAng n d a1 a2 W
      rw [e1] at Q1
      have E := Lib.hid (cyc_eq ok e)
      clear ok e e1
      generalize cycV n d a1 a2 b1 b2 = X at *
      generalize cycC n d a1 a2 b1 b2 = Y at *
      go_enter Try.func50, Try.ntmps50
      go_wp2_with fail
      refine (H1.out _).mono ?_
      rintro e w1 ⟨rfl, hb1⟩
      obtain ⟨hc1, hf1⟩ := bcell hb1
      have hz10 : w.heap.size  < w1.heap.size := by have := hb1.size; simp at this; omega
      have hz13 : w.heap.size + 1 < w1.heap.size := by have := hb1.size; simp at this; omega
      have hz17 : w.heap.size + 1 + 1 < w1.heap.size := by have := hb1.size; simp at this; omega
      go_wp2_with fail
      refine (H2.out _).mono ?_
      rintro e w2 ⟨rfl, hb2⟩
      obtain ⟨hc2, hf2⟩ := bcell hb2
      have hz20 : w.heap.size  < w2.heap.size := by have := hb2.size; omega
      have hz23 : w.heap.size + 1 < w2.heap.size := by have := hb2.size; omega
      have hz27 : w.heap.size + 1 + 1 < w2.heap.size := by have := hb2.size; omega
      go_wp2_with fail
      refine (H3.out _).mono ?_
      rintro e w3 ⟨rfl, hb3⟩
      obtain ⟨hc3, hf3⟩ := bcell hb3
      have hz30 : w.heap.size  < w3.heap.size := by have := hb3.size; omega
      have hz33 : w.heap.size + 1 < w3.heap.size := by have := hb3.size; omega
      have hz37 : w.heap.size + 1 + 1 < w3.heap.size := by have := hb3.size; omega
      go_wp2
      go_ret2
      refine ⟨ret2I E.out.1.symm E.out.2.symm, ?_⟩
      (repeat' (first | (with_reducible exact Below.refl _ _) | (with_reducible assumption) | (with_reducible refine belowNext ?_ (by with_reducible assumption)) | (with_reducible refine belowAlloc ?_ _) | (with_reducible refine Below.drew ?_) | (with_reducible refine below_drewN ?_ _) | (with_reducible refine Below.setCell ?_ ?_ _) | go_size | (with_reducible refine sizeOf' ?_) | (with_reducible refine sizeAdd ?_) | (dsimp only; first | (with_reducible refine sizeOf' ?_) | (with_reducible refine sizeAdd ?_))))
    · have Q1 := fun W => eqlAng n d a1 a2 W
      rw [e1] at Q1
      have Q2 := fun W => eqlAng a1 a2 b1 b2 W
      rw [e2] at Q2
      have E := Lib.hid (cyc_eq ok e)
      clear ok e e1 e2
      generalize cycV n d a1 a2 b1 b2 = X at *
      generalize cycC n d a1 a2 b1 b2 = Y at *
      go_enter Try.func50, Try.ntmps50
      go_wp2_with fail
      refine (H1.out _).mono ?_
      rintro e w1 ⟨rfl, hb1⟩
      obtain ⟨hc1, hf1⟩ := bcell hb1
      have hz10 : w.heap.size  < w1.heap.size := by have := hb1.size; simp at this; omega
      have hz13 : w.heap.size + 1 < w1.heap.size := by have := hb1.size; simp at this; omega
      have hz17 : w.heap.size + 1 + 1 < w1.heap.size := by have := hb1.size; simp at this; omega
      go_wp2_with fail
      refine (H2.out _).mono ?_
      rintro e w2 ⟨rfl, hb2⟩
      obtain ⟨hc2, hf2⟩ := bcell hb2
      have hz20 : w.heap.size  < w2.heap.size := by have := hb2.size; omega
      have hz23 : w.heap.size + 1 < w2.heap.size := by have := hb2.size; omega
      have hz27 : w.heap.size + 1 + 1 < w2.heap.size := by have := hb2.size; omega
      go_wp2_with fail
      refine (H3.out _).mono ?_
      rintro e w3 ⟨rfl, hb3⟩
      obtain ⟨hc3, hf3⟩ := bcell hb3
      have hz30 : w.heap.size  < w3.heap.size := by have := hb3.size; omega
      have hz33 : w.heap.size + 1 < w3.heap.size := by have := hb3.size; omega
      have hz37 : w.heap.size + 1 + 1 < w3.heap.size := by have := hb3.size; omega
      go_wp2
      go_ret2
      refine ⟨ret2I E.out.1.symm E.out.2.symm, ?_⟩
      (repeat' (first | (with_reducible exact Below.refl _ _) | (with_reducible assumption) | (with_reducible refine belowNext ?_ (by with_reducible assumption)) | (with_reducible refine belowAlloc ?_ _) | (with_reducible refine Below.drew ?_) | (with_reducible refine below_drewN ?_ _) | (with_reducible refine Below.setCell ?_ ?_ _) | go_size | (with_reducible refine sizeOf' ?_) | (with_reducible refine sizeAdd ?_) | (dsimp only; first | (with_reducible refine sizeOf' ?_) | (with_reducible refine sizeAdd ?_))))
    · have Q1 := fun W => eqlAng n d a1 a2 W
      rw [e1] at Q1
      have Q2 := fun W => eqlAng a1 a2 b1 b2 W
      rw [e2] at Q2
      have Q3 := fun W => eqlAng n d b1 b2 W
      rw [e3] at Q3
      have E := Lib.hid (cyc_eq ok e)
      clear ok e e1 e2 e3
      generalize cycV n d a1 a2 b1 b2 = X at *
      generalize cycC n d a1 a2 b1 b2 = Y at *
      go_enter Try.func50, Try.ntmps50
      go_wp2_with fail
      refine (H1.out _).mono ?_
      rintro e w1 ⟨rfl, hb1⟩
      obtain ⟨hc1, hf1⟩ := bcell hb1
      have hz10 : w.heap.size  < w1.heap.size := by have := hb1.size; simp at this; omega
      have hz13 : w.heap.size + 1 < w1.heap.size := by have := hb1.size; simp at this; omega
      have hz17 : w.heap.size + 1 + 1 < w1.heap.size := by have := hb1.size; simp at this; omega
      go_wp2_with fail
      refine (H2.out _).mono ?_
      rintro e w2 ⟨rfl, hb2⟩
      obtain ⟨hc2, hf2⟩ := bcell hb2
      have hz20 : w.heap.size  < w2.heap.size := by have := hb2.size; omega
      have hz23 : w.heap.size + 1 < w2.heap.size := by have := hb2.size; omega
      have hz27 : w.heap.size + 1 + 1 < w2.heap.size := by have := hb2.size; omega
      go_wp2_with fail
      refine (H3.out _).mono ?_
      rintro e w3 ⟨rfl, hb3⟩
      obtain ⟨hc3, hf3⟩ := bcell hb3
      have hz30 : w.heap.size  < w3.heap.size := by have := hb3.size; omega
      have hz33 : w.heap.size + 1 < w3.heap.size := by have := hb3.size; omega
      have hz37 : w.heap.size + 1 + 1 < w3.heap.size := by have := hb3.size; omega
      go_wp2
      go_ret2
      refine ⟨ret2I E.out.1.symm E.out.2.symm, ?_⟩
      (repeat' (first | (with_reducible exact Below.refl _ _) | (with_reducible assumption) | (with_reducible refine belowNext ?_ (by with_reducible assumption)) | (with_reducible refine belowAlloc ?_ _) | (with_reducible refine Below.drew ?_) | (with_reducible refine below_drewN ?_ _) | (with_reducible refine Below.setCell ?_ ?_ _) | go_size | (with_reducible refine sizeOf' ?_) | (with_reducible refine sizeAdd ?_) | (dsimp only; first | (with_reducible refine sizeOf' ?_) | (with_reducible refine sizeAdd ?_))))
    · have Q1 := fun W => eqlAng n d a1 a2 W
      rw [e1] at Q1
      have Q2 := fun W => eqlAng a1 a2 b1 b2 W
      rw [e2] at Q2
      have Q3 := fun W => eqlAng n d b1 b2 W
      rw [e3] at Q3
      cases f : arcB a1 a2 n d b1 b2
      · have E := Lib.hid (cyc_2 ok e f)
        rw [f] at HS
        clear ok e f e1 e2 e3
        generalize cycV n d a1 a2 b1 b2 = X at *
        generalize cycC n d a1 a2 b1 b2 = Y at *
        go_enter Try.func50, Try.ntmps50
        go_wp2_with fail
        refine (H1.out _).mono ?_
        rintro e w1 ⟨rfl, hb1⟩
        obtain ⟨hc1, hf1⟩ := bcell hb1
        have hz10 : w.heap.size  < w1.heap.size := by have := hb1.size; simp at this; omega
        have hz13 : w.heap.size + 1 < w1.heap.size := by have := hb1.size; simp at this; omega
        have hz17 : w.heap.size + 1 + 1 < w1.heap.size := by have := hb1.size; simp at this; omega
        go_wp2_with fail
        refine (H2.out _).mono ?_
        rintro e w2 ⟨rfl, hb2⟩
        obtain ⟨hc2, hf2⟩ := bcell hb2
        have hz20 : w.heap.size  < w2.heap.size := by have := hb2.size; omega
        have hz23 : w.heap.size + 1 < w2.heap.size := by have := hb2.size; omega
        have hz27 : w.heap.size + 1 + 1 < w2.heap.size := by have := hb2.size; omega
        go_wp2_with fail
        refine (H3.out _).mono ?_
        rintro e w3 ⟨rfl, hb3⟩
        obtain ⟨hc3, hf3⟩ := bcell hb3
        have hz30 : w.heap.size  < w3.heap.size := by have := hb3.size; omega
        have hz33 : w.heap.size + 1 < w3.heap.size := by have := hb3.size; omega
        have hz37 : w.heap.size + 1 + 1 < w3.heap.size := by have := hb3.size; omega
        go_wp2_with fail
        refine (HS.out _).mono ?_
        rintro e w4 ⟨rfl, hb4⟩
        go_wp2
        go_ret2
        refine ⟨ret2I E.out.1.symm E.out.2.symm, ?_⟩
        (repeat' (first | (with_reducible exact Below.refl _ _) | (with_reducible assumption) | (with_reducible refine belowNext ?_ (by with_reducible assumption)) | (with_reducible refine belowAlloc ?_ _) | (with_reducible refine Below.drew ?_) | (with_reducible refine below_drewN ?_ _) | (with_reducible refine Below.setCell ?_ ?_ _) | go_size | (with_reducible refine sizeOf' ?_) | (with_reducible refine sizeAdd ?_) | (dsimp only; first | (with_reducible refine sizeOf' ?_) | (with_reducible refine sizeAdd ?_))))
      · have E := Lib.hid (cyc_1 ok e f)
        rw [f] at HS
        clear ok e f e1 e2 e3
        generalize cycV n d a1 a2 b1 b2 = X at *
        generalize cycC n d a1 a2 b1 b2 = Y at *
        go_enter Try.func50, Try.ntmps50
        go_wp2_with fail
        refine (H1.out _).mono ?_
        rintro e w1 ⟨rfl, hb1⟩
        obtain ⟨hc1, hf1⟩ := bcell hb1
        have hz10 : w.heap.size  < w1.heap.size := by have := hb1.size; simp at this; omega
        have hz13 : w.heap.size + 1 < w1.heap.size := by have := hb1.size; simp at this; omega
        have hz17 : w.heap.size + 1 + 1 < w1.heap.size := by have := hb1.size; simp at this; omega
        go_wp2_with fail
        refine (H2.out _).mono ?_
        rintro e w2 ⟨rfl, hb2⟩
        obtain ⟨hc2, hf2⟩ := bcell hb2
        have hz20 : w.heap.size  < w2.heap.size := by have := hb2.size; omega
        have hz23 : w.heap.size + 1 < w2.heap.size := by have := hb2.size; omega
        have hz27 : w.heap.size + 1 + 1 < w2.heap.size := by have := hb2.size; omega
        go_wp2_with fail
        refine (H3.out _).mono ?_
        rintro e w3 ⟨rfl, hb3⟩
        obtain ⟨hc3, hf3⟩ := bcell hb3
        have hz30 : w.heap.size  < w3.heap.size := by have := hb3.size; omega
        have hz33 : w.heap.size + 1 < w3.heap.size := by have := hb3.size; omega
        have hz37 : w.heap.size + 1 + 1 < w3.heap.size := by have := hb3.size; omega
        go_wp2_with fail
        refine (HS.out _).mono ?_
        rintro e w4 ⟨rfl, hb4⟩
        go_wp2
        go_ret2
        refine ⟨ret2I E.out.1.symm E.out.2.symm, ?_⟩
        (repeat' (first | (with_reducible exact Below.refl _ _) | (with_reducible assumption) | (with_reducible refine belowNext ?_ (by with_reducible assumption)) | (with_reducible refine belowAlloc ?_ _) | (with_reducible refine Below.drew ?_) | (with_reducible refine below_drewN ?_ _) | (with_reducible refine Below.setCell ?_ ?_ _) | go_size | (with_reducible refine sizeOf' ?_) | (with_reducible refine sizeAdd ?_) | (dsimp only; first | (with_reducible refine sizeOf' ?_) | (with_reducible refine sizeAdd ?_))))

set_option maxHeartbeats 400000 in
theorem implCyc (n d a1 a2 b1 b2 : Int) (w : World) :
    Calls Try.prog 51 #[ang n d, ang a1 a2, ang b1 b2] w fun e w' => e = .returned (.tuple #[.int .i64 (cycV n d a1 a2 b1 b2), .int .i64 (cycC n d a1 a2 b1 b2)]) ∧ Below w.heap.size w w' := by
  have HA : Hid (∀ (w : World) b cap, AngRow w w.heap.size (some ⟨b, 0, none⟩) [(n, d), (a1, a2), (b1, b2)] → Calls Try.prog 69 #[.slice (some ⟨b, 0, none⟩) 3 cap] w fun e w' => e = .returned (.bool (winOk n d a1 a2 b1 b2)) ∧ Below w.heap.size w w') := Lib.hid (fun w b cap h => by
    have := areAng (some ⟨b, 0, none⟩) 3 cap [(n, d), (a1, a2), (b1, b2)] w h rfl (by omega)
    rw [all3] at this
    exact this)
  cases ok : winOk n d a1 a2 b1 b2
  · have E := Lib.hid (cyc_no ok)
    rw [ok] at HA
    clear ok
    generalize cycV n d a1 a2 b1 b2 = X at *
    generalize cycC n d a1 a2 b1 b2 = Y at *
    go_enter Try.func51, Try.ntmps51
    go_wp2_with fail
    refine (HA.out _ _ _ (by exact row3 _ _ _ _ _ _ _ _ _ (by simp))).mono ?_
    rintro e w1 ⟨rfl, hb1⟩
    obtain ⟨hc1, hf1⟩ := bcell hb1
    have hz10 : w.heap.size  < w1.heap.size := by have := hb1.size; simp at this; omega
    have hz13 : w.heap.size + 1 < w1.heap.size := by have := hb1.size; simp at this; omega
    have hz17 : w.heap.size + 1 + 1 < w1.heap.size := by have := hb1.size; simp at this; omega
    go_wp2
    go_ret2
    refine ⟨ret2I E.out.1.symm E.out.2.symm, ?_⟩
    (repeat' (first | (with_reducible exact Below.refl _ _) | (with_reducible assumption) | (with_reducible refine belowNext ?_ (by with_reducible assumption)) | (with_reducible refine belowAlloc ?_ _) | (with_reducible refine Below.drew ?_) | (with_reducible refine below_drewN ?_ _) | (with_reducible refine Below.setCell ?_ ?_ _) | go_size | (with_reducible refine sizeOf' ?_) | (with_reducible refine sizeAdd ?_) | (dsimp only; first | (with_reducible refine sizeOf' ?_) | (with_reducible refine sizeAdd ?_))))
  · have h1 : isAng n d = true := by simp [winOk] at ok; exact ok.1
    have h2 : isAng a1 a2 = true := by simp [winOk] at ok; exact ok.2.1
    have h3 : isAng b1 b2 = true := by simp [winOk] at ok; exact ok.2.2
    have HS := Lib.hid (fun w => implArc a1 a2 n d b1 b2 w (isAng_ok h2) (isAng_ok h1) (isAng_ok h3))
    rw [ok] at HA
    clear h1 h2 h3
    rcases cyc_cases n d a1 a2 b1 b2 with ⟨e, e1⟩ | ⟨e, e1, e2⟩ | ⟨e, e1, e2, e3⟩ | ⟨e, e1, e2, e3⟩
    · have Q1 := fun W => eqlAng n d a1 a2 W
      rw [e1] at Q1
      have E := Lib.hid (cyc_eq ok e)
      clear ok e e1
      generalize cycV n d a1 a2 b1 b2 = X at *
      generalize cycC n d a1 a2 b1 b2 = Y at *
      go_enter Try.func51, Try.ntmps51
      go_wp2_with fail
      refine (HA.out _ _ _ (by exact row3 _ _ _ _ _ _ _ _ _ (by simp))).mono ?_
      rintro e w1 ⟨rfl, hb1⟩
      obtain ⟨hc1, hf1⟩ := bcell hb1
      have hz10 : w.heap.size  < w1.heap.size := by have := hb1.size; simp at this; omega
      have hz13 : w.heap.size + 1 < w1.heap.size := by have := hb1.size; simp at this; omega
      have hz17 : w.heap.size + 1 + 1 < w1.heap.size := by have := hb1.size; simp at this; omega
      go_wp2
      go_ret2
      refine ⟨ret2I E.out.1.symm E.out.2.symm, ?_⟩
      (repeat' (first | (with_reducible exact Below.refl _ _) | (with_reducible assumption) | (with_reducible refine belowNext ?_ (by with_reducible assumption)) | (with_reducible refine belowAlloc ?_ _) | (with_reducible refine Below.drew ?_) | (with_reducible refine below_drewN ?_ _) | (with_reducible refine Below.setCell ?_ ?_ _) | go_size | (with_reducible refine sizeOf' ?_) | (with_reducible refine sizeAdd ?_) | (dsimp only; first | (with_reducible refine sizeOf' ?_) | (with_reducible refine sizeAdd ?_))))
    · have Q1 := fun W => eqlAng n d a1 a2 W
      rw [e1] at Q1
      have Q2 := fun W => eqlAng a1 a2 b1 b2 W
      rw [e2] at Q2
      have E := Lib.hid (cyc_eq ok e)
      clear ok e e1 e2
      generalize cycV n d a1 a2 b1 b2 = X at *
      generalize cycC n d a1 a2 b1 b2 = Y at *
      go_enter Try.func51, Try.ntmps51
      go_wp2_with fail
      refine (HA.out _ _ _ (by exact row3 _ _ _ _ _ _ _ _ _ (by simp))).mono ?_
      rintro e w1 ⟨rfl, hb1⟩
      obtain ⟨hc1, hf1⟩ := bcell hb1
      have hz10 : w.heap.size  < w1.heap.size := by have := hb1.size; simp at this; omega
      have hz13 : w.heap.size + 1 < w1.heap.size := by have := hb1.size; simp at this; omega
      have hz17 : w.heap.size + 1 + 1 < w1.heap.size := by have := hb1.size; simp at this; omega
      go_wp2
      go_ret2
      refine ⟨ret2I E.out.1.symm E.out.2.symm, ?_⟩
      (repeat' (first | (with_reducible exact Below.refl _ _) | (with_reducible assumption) | (with_reducible refine belowNext ?_ (by with_reducible assumption)) | (with_reducible refine belowAlloc ?_ _) | (with_reducible refine Below.drew ?_) | (with_reducible refine below_drewN ?_ _) | (with_reducible refine Below.setCell ?_ ?_ _) | go_size | (with_reducible refine sizeOf' ?_) | (with_reducible refine sizeAdd ?_) | (dsimp only; first | (with_reducible refine sizeOf' ?_) | (with_reducible refine sizeAdd ?_))))
    · have Q1 := fun W => eqlAng n d a1 a2 W
      rw [e1] at Q1
      have Q2 := fun W => eqlAng a1 a2 b1 b2 W
      rw [e2] at Q2
      have Q3 := fun W => eqlAng n d b1 b2 W
      rw [e3] at Q3
      have E := Lib.hid (cyc_eq ok e)
      clear ok e e1 e2 e3
      generalize cycV n d a1 a2 b1 b2 = X at *
      generalize cycC n d a1 a2 b1 b2 = Y at *
      go_enter Try.func51, Try.ntmps51
      go_wp2_with fail
      refine (HA.out _ _ _ (by exact row3 _ _ _ _ _ _ _ _ _ (by simp))).mono ?_
      rintro e w1 ⟨rfl, hb1⟩
      obtain ⟨hc1, hf1⟩ := bcell hb1
      have hz10 : w.heap.size  < w1.heap.size := by have := hb1.size; simp at this; omega
      have hz13 : w.heap.size + 1 < w1.heap.size := by have := hb1.size; simp at this; omega
      have hz17 : w.heap.size + 1 + 1 < w1.heap.size := by have := hb1.size; simp at this; omega
      go_wp2
      go_ret2
      refine ⟨ret2I E.out.1.symm E.out.2.symm, ?_⟩
      (repeat' (first | (with_reducible exact Below.refl _ _) | (with_reducible assumption) | (with_reducible refine belowNext ?_ (by with_reducible assumption)) | (with_reducible refine belowAlloc ?_ _) | (with_reducible refine Below.drew ?_) | (with_reducible refine below_drewN ?_ _) | (with_reducible refine Below.setCell ?_ ?_ _) | go_size | (with_reducible refine sizeOf' ?_) | (with_reducible refine sizeAdd ?_) | (dsimp only; first | (with_reducible refine sizeOf' ?_) | (with_reducible refine sizeAdd ?_))))
    · have Q1 := fun W => eqlAng n d a1 a2 W
      rw [e1] at Q1
      have Q2 := fun W => eqlAng a1 a2 b1 b2 W
      rw [e2] at Q2
      have Q3 := fun W => eqlAng n d b1 b2 W
      rw [e3] at Q3
      cases f : arcB a1 a2 n d b1 b2
      · have E := Lib.hid (cyc_2 ok e f)
        rw [f] at HS
        clear ok e f e1 e2 e3
        generalize cycV n d a1 a2 b1 b2 = X at *
        generalize cycC n d a1 a2 b1 b2 = Y at *
        go_enter Try.func51, Try.ntmps51
        go_wp2_with fail
        refine (HA.out _ _ _ (by exact row3 _ _ _ _ _ _ _ _ _ (by simp))).mono ?_
        rintro e w1 ⟨rfl, hb1⟩
        obtain ⟨hc1, hf1⟩ := bcell hb1
        have hz10 : w.heap.size  < w1.heap.size := by have := hb1.size; simp at this; omega
        have hz13 : w.heap.size + 1 < w1.heap.size := by have := hb1.size; simp at this; omega
        have hz17 : w.heap.size + 1 + 1 < w1.heap.size := by have := hb1.size; simp at this; omega
        go_wp2_with fail
        refine (HS.out _).mono ?_
        rintro e w2 ⟨rfl, hb2⟩
        go_wp2
        go_ret2
        refine ⟨ret2I E.out.1.symm E.out.2.symm, ?_⟩
        (repeat' (first | (with_reducible exact Below.refl _ _) | (with_reducible assumption) | (with_reducible refine belowNext ?_ (by with_reducible assumption)) | (with_reducible refine belowAlloc ?_ _) | (with_reducible refine Below.drew ?_) | (with_reducible refine below_drewN ?_ _) | (with_reducible refine Below.setCell ?_ ?_ _) | go_size | (with_reducible refine sizeOf' ?_) | (with_reducible refine sizeAdd ?_) | (dsimp only; first | (with_reducible refine sizeOf' ?_) | (with_reducible refine sizeAdd ?_))))
      · have E := Lib.hid (cyc_1 ok e f)
        rw [f] at HS
        clear ok e f e1 e2 e3
        generalize cycV n d a1 a2 b1 b2 = X at *
        generalize cycC n d a1 a2 b1 b2 = Y at *
        go_enter Try.func51, Try.ntmps51
        go_wp2_with fail
        refine (HA.out _ _ _ (by exact row3 _ _ _ _ _ _ _ _ _ (by simp))).mono ?_
        rintro e w1 ⟨rfl, hb1⟩
        obtain ⟨hc1, hf1⟩ := bcell hb1
        have hz10 : w.heap.size  < w1.heap.size := by have := hb1.size; simp at this; omega
        have hz13 : w.heap.size + 1 < w1.heap.size := by have := hb1.size; simp at this; omega
        have hz17 : w.heap.size + 1 + 1 < w1.heap.size := by have := hb1.size; simp at this; omega
        go_wp2_with fail
        refine (HS.out _).mono ?_
        rintro e w2 ⟨rfl, hb2⟩
        go_wp2
        go_ret2
        refine ⟨ret2I E.out.1.symm E.out.2.symm, ?_⟩
        (repeat' (first | (with_reducible exact Below.refl _ _) | (with_reducible assumption) | (with_reducible refine belowNext ?_ (by with_reducible assumption)) | (with_reducible refine belowAlloc ?_ _) | (with_reducible refine Below.drew ?_) | (with_reducible refine below_drewN ?_ _) | (with_reducible refine Below.setCell ?_ ?_ _) | go_size | (with_reducible refine sizeOf' ?_) | (with_reducible refine sizeAdd ?_) | (dsimp only; first | (with_reducible refine sizeOf' ?_) | (with_reducible refine sizeAdd ?_))))

end Go.Proofs.Ytpladfogajjnnaa

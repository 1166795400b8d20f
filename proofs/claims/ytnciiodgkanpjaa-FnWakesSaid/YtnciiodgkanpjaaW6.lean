/-
  Contracts: sums, arcs and cyclic orders as the exported functions tell them.
-/
import Derived.Test.YtnciiodgkanpjaaW5
namespace Go.Proofs.Ytnciiodgkanpjaa
open Go.RowKit

theorem row2 (W : World) (T : TypeId) (a b c d : Int) (g : Nat) (hg : g = W.heap.size) : AngRow (W.alloc (.cells #[.int .i64 a, .int .i64 b, .int .i64 c, .int .i64 d] T)) (W.alloc (.cells #[.int .i64 a, .int .i64 b, .int .i64 c, .int .i64 d] T)).heap.size (some ⟨g, 0, none⟩) [(a, b), (c, d)] := by
  subst hg
  intro _
  refine ⟨W.heap.size, 0, rfl, by simp, fun i n m hi => ?_⟩
  match i, hi with
  | 0, hi => simp at hi; obtain ⟨rfl, rfl⟩ := hi; exact ⟨by simp [go_sem], by simp [go_sem]⟩
  | 1, hi => simp at hi; obtain ⟨rfl, rfl⟩ := hi; exact ⟨by simp [go_sem], by simp [go_sem]⟩
theorem row3 (W : World) (T : TypeId) (a b c d e f : Int) (g : Nat) (hg : g = W.heap.size) : AngRow (W.alloc (.cells #[.int .i64 a, .int .i64 b, .int .i64 c, .int .i64 d, .int .i64 e, .int .i64 f] T)) (W.alloc (.cells #[.int .i64 a, .int .i64 b, .int .i64 c, .int .i64 d, .int .i64 e, .int .i64 f] T)).heap.size (some ⟨g, 0, none⟩) [(a, b), (c, d), (e, f)] := by
  subst hg
  intro _
  refine ⟨W.heap.size, 0, rfl, by simp, fun i n m hi => ?_⟩
  match i, hi with
  | 0, hi => simp at hi; obtain ⟨rfl, rfl⟩ := hi; exact ⟨by simp [go_sem], by simp [go_sem]⟩
  | 1, hi => simp at hi; obtain ⟨rfl, rfl⟩ := hi; exact ⟨by simp [go_sem], by simp [go_sem]⟩
  | 2, hi => simp at hi; obtain ⟨rfl, rfl⟩ := hi; exact ⟨by simp [go_sem], by simp [go_sem]⟩
theorem all2 (a b c d : Int) : allAng [(a, b), (c, d)] = (isAng a b && isAng c d) := by simp [allAng]
theorem all3 (a b c d e f : Int) : allAng [(a, b), (c, d), (e, f)] = (isAng a b && (isAng c d && isAng e f)) := by simp [allAng]

set_option maxHeartbeats 400000 in
theorem specSum (n d m c : Int) (w : World) (h1 : angOk n d) (h2 : angOk m c) :
    Calls Try.prog 59 #[ang n d, ang m c] w fun e w' => e = .returned (ang (redN (n * c + m * d) (d * c)) (redD (n * c + m * d) (d * c))) ∧ Below w.heap.size w w' := by
  obtain ⟨a1, a2, a3, a4⟩ := h1
  obtain ⟨b1, b2, b3, b4⟩ := h2
  obtain ⟨p1, p2⟩ := mul_bound (a := n) (b := c) (by omega) (by omega) (by omega) (by omega)
  obtain ⟨q1, q2⟩ := mul_bound (a := m) (b := d) (by omega) (by omega) (by omega) (by omega)
  obtain ⟨r1, r2⟩ := mul_bound (a := d) (b := c) (by omega) (by omega) (by omega) (by omega)
  have r3 : 1 ≤ d * c := Int.mul_pos (by omega) (by omega)
  have HR := Lib.hid (fun w => specRed (n * c + m * d) (d * c) w (by omega) (by omega) (by omega) (by omega))
  generalize redN (n * c + m * d) (d * c) = x at *
  generalize redD (n * c + m * d) (d * c) = y at *
  go_enter Try.func59, Try.ntmps59
  go_wp2_with fail
  refine (HR.out _).mono ?_
  rintro e w1 ⟨rfl, hb1⟩
  obtain ⟨hc1, hf1⟩ := bcell hb1
  have k0 : w1.cell? ⟨w.heap.size + 1 + 1, 0, none⟩ = some (.int .i64 0) := cellThru hb1 (by simp) (by simp [go_sem])
  have k1 : w1.cell? ⟨w.heap.size + 1 + 1, 1, none⟩ = some (.int .i64 0) := cellThru hb1 (by simp) (by simp [go_sem])
  go_wp2
  refine bodyPost_ret (v := ang x y) (by simp [results, Try.results59, go_sem, k0, k1]) rfl ⟨rfl, ?_⟩
  (repeat' (first | (with_reducible exact Below.refl _ _) | (with_reducible assumption) | (with_reducible refine belowNext ?_ (by with_reducible assumption)) | (with_reducible refine belowAlloc ?_ _) | (with_reducible refine Below.drew ?_) | (with_reducible refine below_drewN ?_ _) | (with_reducible refine Below.setCell ?_ ?_ _) | go_size | (with_reducible refine sizeOf' ?_) | (with_reducible refine sizeAdd ?_) | (dsimp only; first | (with_reducible refine sizeOf' ?_) | (with_reducible refine sizeAdd ?_))))

def sumOk (n d m c : Int) : Bool := isAng n d && isAng m c
def sumN (n d m c : Int) : Int := if sumOk n d m c then toldN (redN (n * c + m * d) (d * c)) (redD (n * c + m * d) (d * c)) else 0
def sumD (n d m c : Int) : Int := if sumOk n d m c then toldD (redD (n * c + m * d) (d * c)) else 0
def sumC (n d m c : Int) : Int := if sumOk n d m c then toldC (redD (n * c + m * d) (d * c)) else 1
theorem sum_yes {n d m c : Int} (h : sumOk n d m c = true) : sumN n d m c = toldN (redN (n * c + m * d) (d * c)) (redD (n * c + m * d) (d * c)) ∧ sumD n d m c = toldD (redD (n * c + m * d) (d * c)) ∧ sumC n d m c = toldC (redD (n * c + m * d) (d * c)) := by
  unfold sumN sumD sumC; simp [h]
theorem sum_no {n d m c : Int} (h : sumOk n d m c = false) : sumN n d m c = 0 ∧ sumD n d m c = 0 ∧ sumC n d m c = 1 := by
  unfold sumN sumD sumC; simp [h]

set_option maxHeartbeats 400000 in
theorem specAdd (n d m c : Int) (w : World) :
    Calls Try.prog 21 #[ang n d, ang m c] w fun e w' => e = .returned (res3 (sumN n d m c) (sumD n d m c) (sumC n d m c)) ∧ Below w.heap.size w w' := by
  have H1 := Lib.hid (fun w => specIs1 n d w)
  have H2 := Lib.hid (fun w => specIs1 m c w)
  have hcase : (isAng n d = false) ∨ (isAng n d = true ∧ isAng m c = false) ∨ (isAng n d = true ∧ isAng m c = true) := by
    cases isAng n d <;> cases isAng m c <;> simp
  rcases hcase with hi1 | ⟨hi1, hi2⟩ | ⟨hi1, hi2⟩
  · have E := Lib.hid (sum_no (show sumOk n d m c = false by simp [sumOk, hi1]))
    rw [hi1] at H1
    clear hi1
    generalize sumN n d m c = X at *
    generalize sumD n d m c = Y at *
    generalize sumC n d m c = C at *
    go_enter Try.func21, Try.ntmps21
    go_wp2_with fail
    refine (H1.out _).mono ?_
    rintro e w1 ⟨rfl, hb1⟩
    have hz0 : w.heap.size < w1.heap.size := by have := hb1.size; simp at this; omega
    have hz1 : w.heap.size + 1 < w1.heap.size := by have := hb1.size; simp at this; omega
    have hz2 : w.heap.size + 1 + 1 < w1.heap.size := by have := hb1.size; simp at this; omega
    obtain ⟨hc1, hf1⟩ := bcell hb1
    have k0 : w1.cell? ⟨w.heap.size + 1 + 1, 0, none⟩ = some (.int .i64 0) := (cellThru hb1 (by simp) (by simp [go_sem]))
    have k1 : w1.cell? ⟨w.heap.size + 1 + 1, 1, none⟩ = some (.int .i64 0) := (cellThru hb1 (by simp) (by simp [go_sem]))
    go_wp2
    refine bodyPost_ret (v := res3 0 0 1) (by simp [results, Try.results21, go_sem, k0, k1]) rfl ⟨ret3 E.out.1.symm E.out.2.1.symm E.out.2.2.symm, ?_⟩
    (repeat' (first | (with_reducible exact Below.refl _ _) | (with_reducible assumption) | (with_reducible refine belowNext ?_ (by with_reducible assumption)) | (with_reducible refine belowAlloc ?_ _) | (with_reducible refine Below.drew ?_) | (with_reducible refine below_drewN ?_ _) | (with_reducible refine Below.setCell ?_ ?_ _) | go_size | (with_reducible refine sizeOf' ?_) | (with_reducible refine sizeAdd ?_) | (dsimp only; first | (with_reducible refine sizeOf' ?_) | (with_reducible refine sizeAdd ?_))))
  · have E := Lib.hid (sum_no (show sumOk n d m c = false by simp [sumOk, hi2]))
    rw [hi1] at H1
    rw [hi2] at H2
    clear hi1 hi2
    generalize sumN n d m c = X at *
    generalize sumD n d m c = Y at *
    generalize sumC n d m c = C at *
    go_enter Try.func21, Try.ntmps21
    go_wp2_with fail
    refine (H1.out _).mono ?_
    rintro e w1 ⟨rfl, hb1⟩
    have hz0 : w.heap.size < w1.heap.size := by have := hb1.size; simp at this; omega
    have hz1 : w.heap.size + 1 < w1.heap.size := by have := hb1.size; simp at this; omega
    have hz2 : w.heap.size + 1 + 1 < w1.heap.size := by have := hb1.size; simp at this; omega
    obtain ⟨hc1, hf1⟩ := bcell hb1
    go_wp2_with fail
    refine (H2.out _).mono ?_
    rintro e w2 ⟨rfl, hb2⟩
    obtain ⟨hc2, hf2⟩ := bcell hb2
    have k0 : w2.cell? ⟨w.heap.size + 1 + 1, 0, none⟩ = some (.int .i64 0) := (cellThru hb2 hz2 (cellThru hb1 (by simp) (by simp [go_sem])))
    have k1 : w2.cell? ⟨w.heap.size + 1 + 1, 1, none⟩ = some (.int .i64 0) := (cellThru hb2 hz2 (cellThru hb1 (by simp) (by simp [go_sem])))
    go_wp2
    refine bodyPost_ret (v := res3 0 0 1) (by simp [results, Try.results21, go_sem, k0, k1]) rfl ⟨ret3 E.out.1.symm E.out.2.1.symm E.out.2.2.symm, ?_⟩
    (repeat' (first | (with_reducible exact Below.refl _ _) | (with_reducible assumption) | (with_reducible refine belowNext ?_ (by with_reducible assumption)) | (with_reducible refine belowAlloc ?_ _) | (with_reducible refine Below.drew ?_) | (with_reducible refine below_drewN ?_ _) | (with_reducible refine Below.setCell ?_ ?_ _) | go_size | (with_reducible refine sizeOf' ?_) | (with_reducible refine sizeAdd ?_) | (dsimp only; first | (with_reducible refine sizeOf' ?_) | (with_reducible refine sizeAdd ?_))))
  · have E := Lib.hid (sum_yes (show sumOk n d m c = true by simp [sumOk, hi1, hi2]))
    have HS := Lib.hid (fun w => specSum n d m c w (isAng_ok hi1) (isAng_ok hi2))
    rw [hi1] at H1
    rw [hi2] at H2
    clear hi1 hi2
    generalize redN (n * c + m * d) (d * c) = x at *
    generalize redD (n * c + m * d) (d * c) = y at *
    generalize sumN n d m c = X at *
    generalize sumD n d m c = Y at *
    generalize sumC n d m c = C at *
    go_enter Try.func21, Try.ntmps21
    go_wp2_with fail
    refine (H1.out _).mono ?_
    rintro e w1 ⟨rfl, hb1⟩
    have hz0 : w.heap.size < w1.heap.size := by have := hb1.size; simp at this; omega
    have hz1 : w.heap.size + 1 < w1.heap.size := by have := hb1.size; simp at this; omega
    have hz2 : w.heap.size + 1 + 1 < w1.heap.size := by have := hb1.size; simp at this; omega
    obtain ⟨hc1, hf1⟩ := bcell hb1
    go_wp2_with fail
    refine (H2.out _).mono ?_
    rintro e w2 ⟨rfl, hb2⟩
    obtain ⟨hc2, hf2⟩ := bcell hb2
    have hy0 : w.heap.size < w2.heap.size := by have := hb2.size; omega
    have hy1 : w.heap.size + 1 < w2.heap.size := by have := hb2.size; omega
    have hy2 : w.heap.size + 1 + 1 < w2.heap.size := by have := hb2.size; omega
    go_wp2_with fail
    refine (HS.out _).mono ?_
    rintro e w3 ⟨rfl, hb3⟩
    obtain ⟨hc3, hf3⟩ := bcell hb3
    have hx2 : w.heap.size + 1 + 1 < w3.heap.size := by have := hb3.size; omega
    go_wp2_with fail
    refine (specTold _ _ _).mono ?_
    rintro e w4 ⟨rfl, hb4⟩
    obtain ⟨hc4, hf4⟩ := bcell hb4
    have k0 : w4.cell? ⟨w.heap.size + 1 + 1, 0, none⟩ = some (.int .i64 0) := (cellThru hb4 hx2 (cellThru hb3 hy2 (cellThru hb2 hz2 (cellThru hb1 (by simp) (by simp [go_sem])))))
    have k1 : w4.cell? ⟨w.heap.size + 1 + 1, 1, none⟩ = some (.int .i64 0) := (cellThru hb4 hx2 (cellThru hb3 hy2 (cellThru hb2 hz2 (cellThru hb1 (by simp) (by simp [go_sem])))))
    go_wp2
    refine bodyPost_ret (v := res3 (toldN x y) (toldD y) (toldC y)) (by simp [results, Try.results21, go_sem, k0, k1]) rfl ⟨ret3 E.out.1.symm E.out.2.1.symm E.out.2.2.symm, ?_⟩
    (repeat' (first | (with_reducible exact Below.refl _ _) | (with_reducible assumption) | (with_reducible refine belowNext ?_ (by with_reducible assumption)) | (with_reducible refine belowAlloc ?_ _) | (with_reducible refine Below.drew ?_) | (with_reducible refine below_drewN ?_ _) | (with_reducible refine Below.setCell ?_ ?_ _) | go_size | (with_reducible refine sizeOf' ?_) | (with_reducible refine sizeAdd ?_) | (dsimp only; first | (with_reducible refine sizeOf' ?_) | (with_reducible refine sizeAdd ?_))))

set_option maxHeartbeats 400000 in
theorem implAdd (n d m c : Int) (w : World) :
    Calls Try.prog 20 #[ang n d, ang m c] w fun e w' => e = .returned (res3 (sumN n d m c) (sumD n d m c) (sumC n d m c)) ∧ Below w.heap.size w w' := by
  have HA : Hid (∀ (w : World) b cap, AngRow w w.heap.size (some ⟨b, 0, none⟩) [(n, d), (m, c)] → Calls Try.prog 55 #[.slice (some ⟨b, 0, none⟩) 2 cap] w fun e w' => e = .returned (.bool (sumOk n d m c)) ∧ Below w.heap.size w w') := Lib.hid (fun w b cap h => by
    have := areAng (some ⟨b, 0, none⟩) 2 cap [(n, d), (m, c)] w h rfl (by omega)
    rw [all2] at this
    exact this)
  cases hi : sumOk n d m c
  case' false =>
    obtain ⟨e1, e2, e3⟩ := sum_no hi
  case' true =>
    obtain ⟨e1, e2, e3⟩ := sum_yes hi
    have hi' := hi
    simp only [sumOk, Bool.and_eq_true] at hi'
    obtain ⟨a1, a2, a3, a4⟩ := isAng_ok hi'.1
    obtain ⟨b1, b2, b3, b4⟩ := isAng_ok hi'.2
    clear hi'
    obtain ⟨p1, p2⟩ := mul_bound (a := n) (b := c) (by omega) (by omega) (by omega) (by omega)
    obtain ⟨q1, q2⟩ := mul_bound (a := m) (b := d) (by omega) (by omega) (by omega) (by omega)
    obtain ⟨r1, r2⟩ := mul_bound (a := d) (b := c) (by omega) (by omega) (by omega) (by omega)
    have r3 : 1 ≤ d * c := Int.mul_pos (by omega) (by omega)
    have HR := Lib.hid (fun w => implRed (n * c + m * d) (d * c) w (by omega) (by omega) (by omega) (by omega))
  all_goals
    rw [hi] at HA
    clear hi
    have E := Lib.hid (And.intro e1 (And.intro e2 e3))
    clear e1 e2 e3
    generalize sumN n d m c = X at *
    generalize sumD n d m c = Y at *
    generalize sumC n d m c = C at *
    try generalize redN (n * c + m * d) (d * c) = x at *
    try generalize redD (n * c + m * d) (d * c) = y at *
    go_enter Try.func20, Try.ntmps20
    go_wp2_with fail
    refine (HA.out _ _ _ (by exact row2 _ _ _ _ _ _ _ (by simp))).mono ?_
    rintro e w1 ⟨rfl, hb1⟩
    have hz0 : w.heap.size < w1.heap.size := by have := hb1.size; simp at this; omega
    have hz1 : w.heap.size + 1 < w1.heap.size := by have := hb1.size; simp at this; omega
    have hz2 : w.heap.size + 1 + 1 < w1.heap.size := by have := hb1.size; simp at this; omega
    obtain ⟨hc1, hf1⟩ := bcell hb1
  · go_wp2_with fail
    refine (HR.out _).mono ?_
    rintro e w2 ⟨rfl, hb2⟩
    obtain ⟨hc2, hf2⟩ := bcell hb2
    have hy2 : w.heap.size + 1 + 1 < w2.heap.size := by have := hb2.size; omega
    go_wp2_with fail
    refine (implLim _ _ _).mono ?_
    rintro e w3 ⟨rfl, hb3⟩
    obtain ⟨hc3, hf3⟩ := bcell hb3
    have k0 : w3.cell? ⟨w.heap.size + 1 + 1, 0, none⟩ = some (.int .i64 0) := cellThru hb3 hy2 (cellThru hb2 hz2 (cellThru hb1 (by simp) (by simp [go_sem])))
    have k1 : w3.cell? ⟨w.heap.size + 1 + 1, 1, none⟩ = some (.int .i64 0) := cellThru hb3 hy2 (cellThru hb2 hz2 (cellThru hb1 (by simp) (by simp [go_sem])))
    go_wp2
    refine bodyPost_ret (v := res3 (toldN x y) (toldD y) (toldC y)) (by simp [results, Try.results20, go_sem, k0, k1]) rfl ⟨ret3 E.out.1.symm E.out.2.1.symm E.out.2.2.symm, ?_⟩
    (repeat' (first | (with_reducible exact Below.refl _ _) | (with_reducible assumption) | (with_reducible refine belowNext ?_ (by with_reducible assumption)) | (with_reducible refine belowAlloc ?_ _) | (with_reducible refine Below.drew ?_) | (with_reducible refine below_drewN ?_ _) | (with_reducible refine Below.setCell ?_ ?_ _) | go_size | (with_reducible refine sizeOf' ?_) | (with_reducible refine sizeAdd ?_) | (dsimp only; first | (with_reducible refine sizeOf' ?_) | (with_reducible refine sizeAdd ?_))))
  · have k0 : w1.cell? ⟨w.heap.size + 1 + 1, 0, none⟩ = some (.int .i64 0) := cellThru hb1 (by simp) (by simp [go_sem])
    have k1 : w1.cell? ⟨w.heap.size + 1 + 1, 1, none⟩ = some (.int .i64 0) := cellThru hb1 (by simp) (by simp [go_sem])
    go_wp2
    refine bodyPost_ret (v := res3 0 0 1) (by simp [results, Try.results20, go_sem, k0, k1]) rfl ⟨ret3 E.out.1.symm E.out.2.1.symm E.out.2.2.symm, ?_⟩
    (repeat' (first | (with_reducible exact Below.refl _ _) | (with_reducible assumption) | (with_reducible refine belowNext ?_ (by with_reducible assumption)) | (with_reducible refine belowAlloc ?_ _) | (with_reducible refine Below.drew ?_) | (with_reducible refine below_drewN ?_ _) | (with_reducible refine Below.setCell ?_ ?_ _) | go_size | (with_reducible refine sizeOf' ?_) | (with_reducible refine sizeAdd ?_) | (dsimp only; first | (with_reducible refine sizeOf' ?_) | (with_reducible refine sizeAdd ?_))))
end Go.Proofs.Ytnciiodgkanpjaa

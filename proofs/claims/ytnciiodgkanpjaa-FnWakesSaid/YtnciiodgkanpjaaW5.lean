/-
  Contracts: the order of angles, arcs.
-/
import Derived.Test.YtnciiodgkanpjaaW4
import Derived.Deep.RegionHeld3
namespace Go.Proofs.Ytnciiodgkanpjaa
open Go.RowKit

/-- The order of two integers, as cmp.Compare tells it. -/
def cmpI (x y : Int) : Int := if x < y then -1 else if y < x then 1 else 0
theorem cmpI_neg {x y : Int} (h : x < y) : cmpI x y < 0 := by unfold cmpI; rw [if_pos h]; omega
theorem cmpI_nonneg {x y : Int} (h : ¬ x < y) : 0 ≤ cmpI x y := by unfold cmpI; rw [if_neg h]; split <;> omega
theorem cmpI_range (x y : Int) : -1 ≤ cmpI x y ∧ cmpI x y ≤ 1 := by unfold cmpI; split <;> (try split) <;> omega

set_option maxHeartbeats 400000 in
theorem cmpInt (x y : Int) (w : World) :
    Calls Try.prog 100 #[.int .i64 x, .int .i64 y] w fun e w' => e = .returned (.int .i64 (cmpI x y)) ∧ w = w' := by
  rcases Int.lt_trichotomy x y with h | h | h
  · have E : Hid (cmpI x y = -1) := Lib.hid (by unfold cmpI; rw [if_pos h])
    generalize cmpI x y = C at *
    go_enter Try.func100, Try.ntmps100
    go_wp2
    go_ret
    exact ⟨retI E.out.symm, rfl⟩
  · subst h
    have E : Hid (cmpI x x = 0) := Lib.hid (by unfold cmpI; rw [if_neg (by omega), if_neg (by omega)])
    generalize cmpI x x = C at *
    go_enter Try.func100, Try.ntmps100
    go_wp2
    go_ret
    exact ⟨retI E.out.symm, rfl⟩
  · have E : Hid (cmpI x y = 1) := Lib.hid (by unfold cmpI; rw [if_neg (by omega), if_pos h])
    generalize cmpI x y = C at *
    go_enter Try.func100, Try.ntmps100
    go_wp2
    go_ret
    exact ⟨retI E.out.symm, rfl⟩

/-- The numbers of an angle lie within their bounds. -/
def angOk (n d : Int) : Prop := 1 ≤ d ∧ d ≤ 8191 ∧ 0 ≤ n ∧ n < d
theorem isAng_ok {n d : Int} (h : isAng n d = true) : angOk n d := ⟨(isAng_yes h).1, (isAng_yes h).2.1, (isAng_yes h).2.2.1, (isAng_yes h).2.2.2.1⟩
theorem mul_bound {a b : Int} (ha : 0 ≤ a) (hA : a ≤ 8191) (hb : 0 ≤ b) (hB : b ≤ 8191) : 0 ≤ a * b ∧ a * b ≤ 67092481 :=
  ⟨Int.mul_nonneg ha hb, Int.le_trans (Int.mul_le_mul hA hB hb (by omega)) (by omega)⟩

set_option maxHeartbeats 400000 in
theorem cmpAng (n d m c : Int) (w : World) (h1 : angOk n d) (h2 : angOk m c) :
    Calls Try.prog 87 #[ang n d, ang m c] w fun e w' => e = .returned (.int .i64 (cmpI (n * c) (m * d))) ∧ Below w.heap.size w w' := by
  obtain ⟨a1, a2, a3, a4⟩ := h1
  obtain ⟨b1, b2, b3, b4⟩ := h2
  obtain ⟨p1, p2⟩ := mul_bound (a := n) (b := c) (by omega) (by omega) (by omega) (by omega)
  obtain ⟨q1, q2⟩ := mul_bound (a := m) (b := d) (by omega) (by omega) (by omega) (by omega)
  have HC := Lib.hid (fun w => cmpInt (n * c) (m * d) w)
  generalize cmpI (n * c) (m * d) = C at *
  go_enter Try.func87, Try.ntmps87
  go_wp2_with fail
  refine (HC.out _).mono ?_
  rintro e w1 ⟨rfl, rfl⟩
  go_wp2
  go_ret
  refine ⟨rfl, ?_⟩
  (repeat' (first | (with_reducible exact Below.refl _ _) | (with_reducible assumption) | (with_reducible refine belowNext ?_ (by with_reducible assumption)) | (with_reducible refine belowAlloc ?_ _) | (with_reducible refine Below.drew ?_) | (with_reducible refine below_drewN ?_ _) | (with_reducible refine Below.setCell ?_ ?_ _) | go_size | (with_reducible refine sizeOf' ?_) | (with_reducible refine sizeAdd ?_) | (dsimp only; first | (with_reducible refine sizeOf' ?_) | (with_reducible refine sizeAdd ?_))))

/-- n/d is less than m/c. -/
def ltA (n d m c : Int) : Bool := decide (n * c < m * d)
set_option maxHeartbeats 400000 in
theorem specLess (n d m c : Int) (w : World) (h1 : angOk n d) (h2 : angOk m c) :
    Calls Try.prog 88 #[ang n d, ang m c] w fun e w' => e = .returned (.bool (ltA n d m c)) ∧ Below w.heap.size w w' := by
  obtain ⟨a1, a2, a3, a4⟩ := h1
  obtain ⟨b1, b2, b3, b4⟩ := h2
  obtain ⟨p1, p2⟩ := mul_bound (a := n) (b := c) (by omega) (by omega) (by omega) (by omega)
  obtain ⟨q1, q2⟩ := mul_bound (a := m) (b := d) (by omega) (by omega) (by omega) (by omega)
  have E : Hid (ltA n d m c = decide (n * c < m * d)) := Lib.hid rfl
  generalize ltA n d m c = L at *
  go_enter Try.func88, Try.ntmps88
  go_wp2
  go_ret
  refine ⟨retB ?_, ?_⟩
  · rw [E.out]
  · (repeat' (first | (with_reducible exact Below.refl _ _) | (with_reducible assumption) | (with_reducible refine belowNext ?_ (by with_reducible assumption)) | (with_reducible refine belowAlloc ?_ _) | (with_reducible refine Below.drew ?_) | (with_reducible refine below_drewN ?_ _) | (with_reducible refine Below.setCell ?_ ?_ _) | go_size | (with_reducible refine sizeOf' ?_) | (with_reducible refine sizeAdd ?_) | (dsimp only; first | (with_reducible refine sizeOf' ?_) | (with_reducible refine sizeAdd ?_))))

/-- x lies in the arc from a to b. -/
def arcB (n d a1 a2 b1 b2 : Int) : Bool := if ltA a1 a2 b1 b2 then ltA a1 a2 n d && ltA n d b1 b2 else ltA a1 a2 n d || ltA n d b1 b2

set_option maxHeartbeats 400000 in
theorem specArc (n d a1 a2 b1 b2 : Int) (w : World) (h1 : angOk n d) (h2 : angOk a1 a2) (h3 : angOk b1 b2) :
    Calls Try.prog 104 #[ang n d, ang a1 a2, ang b1 b2] w fun e w' => e = .returned (.bool (arcB n d a1 a2 b1 b2)) ∧ Below w.heap.size w w' := by
  have H1 := Lib.hid (fun w => specLess a1 a2 b1 b2 w h2 h3)
  have H2 := Lib.hid (fun w => specLess a1 a2 n d w h2 h1)
  have H3 := Lib.hid (fun w => specLess n d b1 b2 w h1 h3)
  have E : Hid (arcB n d a1 a2 b1 b2 = if ltA a1 a2 b1 b2 then ltA a1 a2 n d && ltA n d b1 b2 else ltA a1 a2 n d || ltA n d b1 b2) := Lib.hid rfl
  clear h1 h2 h3
  generalize arcB n d a1 a2 b1 b2 = R at *
  generalize ltA a1 a2 b1 b2 = L1 at *
  generalize ltA a1 a2 n d = L2 at *
  generalize ltA n d b1 b2 = L3 at *
  cases L1
  all_goals
    cases L2
    all_goals
      go_enter Try.func104, Try.ntmps104
      go_wp2_with fail
      refine (H1.out _).mono ?_
      rintro e w1 ⟨rfl, hb1⟩
      have hz1 : w.heap.size < w1.heap.size := by have := hb1.size; simp at this; omega
      have hz1' : w.heap.size + 1 < w1.heap.size := by have := hb1.size; simp at this; omega
      have hz1'' : w.heap.size + 2 < w1.heap.size := by have := hb1.size; simp at this; omega
      obtain ⟨hc1, hf1⟩ := bcell hb1
      go_wp2_with fail
      refine (H2.out _).mono ?_
      rintro e w2 ⟨rfl, hb2⟩
      obtain ⟨hc2, hf2⟩ := bcell hb2
      go_wp2_with (refine (H3.out _).mono ?_; rintro e w3 ⟨rfl, hb3⟩)
      go_ret
      refine ⟨retB (by rw [E.out]; simp), ?_⟩
      (repeat' (first | (with_reducible exact Below.refl _ _) | (with_reducible assumption) | (with_reducible refine belowNext ?_ (by with_reducible assumption)) | (with_reducible refine belowAlloc ?_ _) | (with_reducible refine Below.drew ?_) | (with_reducible refine below_drewN ?_ _) | (with_reducible refine Below.setCell ?_ ?_ _) | go_size | (with_reducible refine sizeOf' ?_) | (with_reducible refine sizeAdd ?_) | (dsimp only; first | (with_reducible refine sizeOf' ?_) | (with_reducible refine sizeAdd ?_))))

theorem boxKeep {w W w1 : World} {n d a1 a2 b1 b2 : Int} (hb : Below W.heap.size W w1)
    (h : w.heap.size + 2 < W.heap.size ∧ Below w.heap.size w W ∧ W.cell? ⟨w.heap.size, 0, none⟩ = some (.int .i64 n) ∧ W.cell? ⟨w.heap.size, 1, none⟩ = some (.int .i64 d) ∧
      W.cell? ⟨w.heap.size + 1, 0, none⟩ = some (.int .i64 a1) ∧ W.cell? ⟨w.heap.size + 1, 1, none⟩ = some (.int .i64 a2) ∧ W.cell? ⟨w.heap.size + 1 + 1, 0, none⟩ = some (.int .i64 b1) ∧ W.cell? ⟨w.heap.size + 1 + 1, 1, none⟩ = some (.int .i64 b2)) :
    w.heap.size + 2 < w1.heap.size ∧ Below w.heap.size w w1 ∧ w1.cell? ⟨w.heap.size, 0, none⟩ = some (.int .i64 n) ∧ w1.cell? ⟨w.heap.size, 1, none⟩ = some (.int .i64 d) ∧
      w1.cell? ⟨w.heap.size + 1, 0, none⟩ = some (.int .i64 a1) ∧ w1.cell? ⟨w.heap.size + 1, 1, none⟩ = some (.int .i64 a2) ∧ w1.cell? ⟨w.heap.size + 1 + 1, 0, none⟩ = some (.int .i64 b1) ∧ w1.cell? ⟨w.heap.size + 1 + 1, 1, none⟩ = some (.int .i64 b2) := by
  obtain ⟨hz, hB, h0, h1, h2, h3, h4, h5⟩ := h
  exact ⟨Nat.lt_of_lt_of_le hz hb.size, belowNext hB hb, cellThru hb (by omega) h0, cellThru hb (by omega) h1, cellThru hb (by omega) h2, cellThru hb (by omega) h3, cellThru hb (by omega) h4, cellThru hb (by omega) h5⟩

set_option maxHeartbeats 400000 in
theorem implArc (n d a1 a2 b1 b2 : Int) (w : World) (h1 : angOk n d) (h2 : angOk a1 a2) (h3 : angOk b1 b2) :
    Calls Try.prog 92 #[ang n d, ang a1 a2, ang b1 b2] w fun e w' => e = .returned (.bool (arcB n d a1 a2 b1 b2)) ∧ Below w.heap.size w w' := by
  have H1 := Lib.hid (fun w => cmpAng a1 a2 b1 b2 w h2 h3)
  have H2 := Lib.hid (fun w => cmpAng a1 a2 n d w h2 h1)
  have H3 := Lib.hid (fun w => cmpAng n d b1 b2 w h1 h3)
  have E : Hid (arcB n d a1 a2 b1 b2 = if ltA a1 a2 b1 b2 then ltA a1 a2 n d && ltA n d b1 b2 else ltA a1 a2 n d || ltA n d b1 b2) := Lib.hid rfl
  have g1 : ltA a1 a2 b1 b2 = decide (cmpI (a1 * b2) (b1 * a2) < 0) := by
    unfold ltA; by_cases h : a1 * b2 < b1 * a2
    · have := cmpI_neg h; simp [h, this]
    · have := cmpI_nonneg h; simp [h]; omega
  have g2 : ltA a1 a2 n d = decide (cmpI (a1 * d) (n * a2) < 0) := by
    unfold ltA; by_cases h : a1 * d < n * a2
    · have := cmpI_neg h; simp [h, this]
    · have := cmpI_nonneg h; simp [h]; omega
  have g3 : ltA n d b1 b2 = decide (cmpI (n * b2) (b1 * d) < 0) := by
    unfold ltA; by_cases h : n * b2 < b1 * d
    · have := cmpI_neg h; simp [h, this]
    · have := cmpI_nonneg h; simp [h]; omega
  rw [g1, g2, g3] at E
  clear h1 h2 h3 g1 g2 g3
  generalize arcB n d a1 a2 b1 b2 = R at *
  generalize cmpI (a1 * b2) (b1 * a2) = L1 at *
  generalize cmpI (a1 * d) (n * a2) = L2 at *
  generalize cmpI (n * b2) (b1 * d) = L3 at *
  by_cases l1 : L1 < 0
  all_goals
    by_cases l2 : L2 < 0
    all_goals
      go_enter Try.func92, Try.ntmps92
      go_wp2_with fail
      go_region_held3 (fun w' => w.heap.size + 2 < w'.heap.size ∧ Below w.heap.size w w' ∧ w'.cell? ⟨w.heap.size, 0, none⟩ = some (.int .i64 n) ∧ w'.cell? ⟨w.heap.size, 1, none⟩ = some (.int .i64 d) ∧ w'.cell? ⟨w.heap.size + 1, 0, none⟩ = some (.int .i64 a1) ∧ w'.cell? ⟨w.heap.size + 1, 1, none⟩ = some (.int .i64 a2) ∧ w'.cell? ⟨w.heap.size + 1 + 1, 0, none⟩ = some (.int .i64 b1) ∧ w'.cell? ⟨w.heap.size + 1 + 1, 1, none⟩ = some (.int .i64 b2))
        (first | exact boxKeep (by assumption) (by assumption) | (refine ⟨by simp, ?_, by simp [go_sem], by simp [go_sem], by simp [go_sem], by simp [go_sem], by simp [go_sem], by simp [go_sem]⟩; (repeat' (first | (with_reducible exact Below.refl _ _) | (with_reducible assumption) | (with_reducible refine belowNext ?_ (by with_reducible assumption)) | (with_reducible refine belowAlloc ?_ _) | (with_reducible refine Below.drew ?_) | (with_reducible refine below_drewN ?_ _) | (with_reducible refine Below.setCell ?_ ?_ _) | go_size | (with_reducible refine sizeOf' ?_) | (with_reducible refine sizeAdd ?_) | (dsimp only; first | (with_reducible refine sizeOf' ?_) | (with_reducible refine sizeAdd ?_))))))
        (first
        | (go_at_call 87; (with_reducible refine (H2.out _).mono ?_); rintro e w1 ⟨rfl, hb1⟩)
        | (go_at_call 87; (with_reducible refine (H3.out _).mono ?_); rintro e w2 ⟨rfl, hb2⟩))
      rename_i hHeld
      obtain ⟨hz, hB, c0, c1, c2, c3, c4, c5⟩ := hHeld
      clear hb1 hb2
      go_wp2_with fail
      refine (H1.out _).mono ?_
      rintro e w3 ⟨rfl, hb3⟩
      go_wp2
      go_ret
      refine ⟨retB (by rw [E.out]; simp [Int.not_lt.2, *]), ?_⟩
      (repeat' (first | (with_reducible exact Below.refl _ _) | (with_reducible assumption) | (with_reducible refine belowNext ?_ (by with_reducible assumption)) | (with_reducible refine belowAlloc ?_ _) | (with_reducible refine Below.drew ?_) | (with_reducible refine below_drewN ?_ _) | (with_reducible refine Below.setCell ?_ ?_ _) | go_size | (with_reducible refine sizeOf' ?_) | (with_reducible refine sizeAdd ?_) | (dsimp only; first | (with_reducible refine sizeOf' ?_) | (with_reducible refine sizeAdd ?_))))
end Go.Proofs.Ytnciiodgkanpjaa

/-
  Contracts: letters of angles for angles.
-/
import Derived.Test.YtnciiodgkanpjaaW20
import Derived.Test.YtnciiodgkanpjaaL2
namespace Go.Proofs.Ytnciiodgkanpjaa
open Go.RowKit

/-- The numbers of a half lie within these bounds. -/
def angWd (n d : Int) : Prop := 1 ≤ d ∧ d ≤ 16382 ∧ 0 ≤ n ∧ n < d
theorem angOk.wide {n d : Int} (h : angOk n d) : angWd n d := by obtain ⟨a, b, c, e⟩ := h; exact ⟨a, by omega, c, e⟩
theorem mul_boundW {a b : Int} (ha : 0 ≤ a) (hA : a ≤ 16382) (hb : 0 ≤ b) (hB : b ≤ 16382) : 0 ≤ a * b ∧ a * b ≤ 268369924 :=
  ⟨Int.mul_nonneg ha hb, Int.le_trans (Int.mul_le_mul hA hB hb (by omega)) (by omega)⟩

set_option maxHeartbeats 400000 in
theorem cmpAngW (n d m c : Int) (w : World) (h1 : angWd n d) (h2 : angWd m c) :
    Calls Try.prog 87 #[ang n d, ang m c] w fun e w' => e = .returned (.int .i64 (cmpI (n * c) (m * d))) ∧ Below w.heap.size w w' := by
  obtain ⟨a1, a2, a3, a4⟩ := h1
  obtain ⟨b1, b2, b3, b4⟩ := h2
  obtain ⟨p1, p2⟩ := mul_boundW (a := n) (b := c) (by omega) (by omega) (by omega) (by omega)
  obtain ⟨q1, q2⟩ := mul_boundW (a := m) (b := d) (by omega) (by omega) (by omega) (by omega)
  have HC := Lib.hid (fun w => cmpInt (n * c) (m * d) w)
  generalize cmpI (n * c) (m * d) = C at *
  go_enter Try.func87, Try.ntmps87
  go_wp2_with fail
  refine (HC.out _).mono ?_
  rintro e w1 ⟨rfl, rfl⟩
  go_wp2
  go_ret
  refine ⟨rfl, ?_⟩
  (repeat' (first | (with_reducible exact Below.refl _ _) | (with_reducible assumption) | (with_reducible refine belowNext ?_ (by with_reducible assumption)) | (with_reducible refine belowAlloc ?_ _) | (with_reducible refine Below.drew ?_) | (with_reducible refine below_drewN ?_ _) | (with_reducible refine Below.setCell ?_ ?_ _) | go_size | (with_reducible refine sizeOf' ?_) | (with_reducible refine sizeAdd ?_) | (dsimp only; first | (with_reducible refine sizeOf' ?_) | (with_reducible refine sizeAdd ?_))))

set_option maxHeartbeats 400000 in
theorem implArcW (n d a1 a2 b1 b2 : Int) (w : World) (h1 : angWd n d) (h2 : angWd a1 a2) (h3 : angWd b1 b2) :
    Calls Try.prog 92 #[ang n d, ang a1 a2, ang b1 b2] w fun e w' => e = .returned (.bool (arcB n d a1 a2 b1 b2)) ∧ Below w.heap.size w w' := by
  have H1 := Lib.hid (fun w => cmpAngW a1 a2 b1 b2 w h2 h3)
  have H2 := Lib.hid (fun w => cmpAngW a1 a2 n d w h2 h1)
  have H3 := Lib.hid (fun w => cmpAngW n d b1 b2 w h1 h3)
  have E : Hid (arcB n d a1 a2 b1 b2 = if ltA a1 a2 b1 b2 then ltA a1 a2 n d && ltA n d b1 b2 else ltA a1 a2 n d || ltA n d b1 b2) := Lib.hid rfl
  have g1 : ltA a1 a2 b1 b2 = decide (cmpI (a1 * b2) (b1 * a2) < 0) := by
    unfold ltA; by_cases h : a1 * b2 < b1 * a2
    · have := cmpI_neg h; simp [h, this]
    · have := cmpI_nonneg h; simp [h]; omega
  have g2 : ltA a1 a2 n d = decide (cmpI (a1 * d) (n * a2) < 0) := by
    unfold ltA; by_cases h : a1 * d < n * a2
    · have := cmpI_neg h; simp [h, this]
    · have := cmpI_nonneg h; simp [h]; omega
  have g3 : ltA n d b1 b2 = decide (cmpI (n * b2) (b1 * d) < 0) := by
    unfold ltA; by_cases h : n * b2 < b1 * d
    · have := cmpI_neg h; simp [h, this]
    · have := cmpI_nonneg h; simp [h]; omega
  rw [g1, g2, g3] at E
  clear h1 h2 h3 g1 g2 g3
  generalize arcB n d a1 a2 b1 b2 = R at *
  generalize cmpI (a1 * b2) (b1 * a2) = L1 at *
  generalize cmpI (a1 * d) (n * a2) = L2 at *
  generalize cmpI (n * b2) (b1 * d) = L3 at *
  by_cases l1 : L1 < 0
  all_goals
    by_cases l2 : L2 < 0
    all_goals
      go_enter Try.func92, Try.ntmps92
      go_wp2_with fail
      go_region_held3 (fun w' => w.heap.size + 2 < w'.heap.size ∧ Below w.heap.size w w' ∧ w'.cell? ⟨w.heap.size, 0, none⟩ = some (.int .i64 n) ∧ w'.cell? ⟨w.heap.size, 1, none⟩ = some (.int .i64 d) ∧ w'.cell? ⟨w.heap.size + 1, 0, none⟩ = some (.int .i64 a1) ∧ w'.cell? ⟨w.heap.size + 1, 1, none⟩ = some (.int .i64 a2) ∧ w'.cell? ⟨w.heap.size + 1 + 1, 0, none⟩ = some (.int .i64 b1) ∧ w'.cell? ⟨w.heap.size + 1 + 1, 1, none⟩ = some (.int .i64 b2))
        (first | exact boxKeep (by assumption) (by assumption) | (refine ⟨by simp, ?_, by simp [go_sem], by simp [go_sem], by simp [go_sem], by simp [go_sem], by simp [go_sem], by simp [go_sem]⟩; (repeat' (first | (with_reducible exact Below.refl _ _) | (with_reducible assumption) | (with_reducible refine belowNext ?_ (by with_reducible assumption)) | (with_reducible refine belowAlloc ?_ _) | (with_reducible refine Below.drew ?_) | (with_reducible refine below_drewN ?_ _) | (with_reducible refine Below.setCell ?_ ?_ _) | go_size | (with_reducible refine sizeOf' ?_) | (with_reducible refine sizeAdd ?_) | (dsimp only; first | (with_reducible refine sizeOf' ?_) | (with_reducible refine sizeAdd ?_))))))
        (first
        | (go_at_call 87; (with_reducible refine (H2.out _).mono ?_); rintro e w1 ⟨rfl, hb1⟩)
        | (go_at_call 87; (with_reducible refine (H3.out _).mono ?_); rintro e w2 ⟨rfl, hb2⟩))
      rename_i hHeld
      obtain ⟨hz, hB, c0, c1, c2, c3, c4, c5⟩ := hHeld
      clear hb1 hb2
      go_wp2_with fail
      refine (H1.out _).mono ?_
      rintro e w3 ⟨rfl, hb3⟩
      go_wp2
      go_ret
      refine ⟨retB (by rw [E.out]; simp [Int.not_lt.2, *]), ?_⟩
      (repeat' (first | (with_reducible exact Below.refl _ _) | (with_reducible assumption) | (with_reducible refine belowNext ?_ (by with_reducible assumption)) | (with_reducible refine belowAlloc ?_ _) | (with_reducible refine Below.drew ?_) | (with_reducible refine below_drewN ?_ _) | (with_reducible refine Below.setCell ?_ ?_ _) | go_size | (with_reducible refine sizeOf' ?_) | (with_reducible refine sizeAdd ?_) | (dsimp only; first | (with_reducible refine sizeOf' ?_) | (with_reducible refine sizeAdd ?_))))

/-- A fraction and its reduced form. -/
theorem red_parts {m e : Int} (h0 : 0 ≤ m) (h1 : m < e) : ∃ g, 0 < g ∧ redN m e * g = m ∧ redD m e * g = e := by
  have hm : m % e = m := Int.emod_eq_of_lt h0 h1
  refine ⟨gcdI m e, gcdI_pos m e (by omega), ?_, ?_⟩
  · unfold redN; rw [hm]; unfold gcdI
    exact Int.ediv_mul_cancel (Int.gcd_dvd_left ..)
  · unfold redD; rw [hm]; unfold gcdI
    exact Int.ediv_mul_cancel (Int.gcd_dvd_right ..)
theorem red_wd {m e : Int} (h0 : 0 ≤ m) (h1 : m < e) (h2 : e ≤ 16382) : angWd (redN m e) (redD m e) := by
  obtain ⟨g, hg, hn, hd⟩ := red_parts h0 h1
  generalize redN m e = x at *
  generalize redD m e = y at *
  have p1 : 1 ≤ y := by
    rcases Int.lt_or_le 0 y with h | h
    · omega
    · have := Int.mul_nonneg (show 0 ≤ -y by omega) (show 0 ≤ g by omega)
      rw [Int.neg_mul] at this; omega
  have p2 : y ≤ 16382 := by
    have : y * 1 ≤ y * g := Int.mul_le_mul_of_nonneg_left (by omega) (by omega)
    omega
  have p3 : 0 ≤ x := by
    rcases Int.lt_or_le x 0 with h | h
    · have := Int.mul_pos (show 0 < -x by omega) hg
      rw [Int.neg_mul] at this; omega
    · exact h
  have p4 : x < y := by
    rcases Int.lt_or_le x y with h | h
    · exact h
    · have := Int.mul_le_mul_of_nonneg_right h (show 0 ≤ g by omega)
      omega
  exact ⟨p1, p2, p3, p4⟩
theorem ltA_left {m e n d : Int} (h0 : 0 ≤ m) (h1 : m < e) : ltA (redN m e) (redD m e) n d = decide (m * d < n * e) := by
  obtain ⟨g, hg, hn, hd⟩ := red_parts h0 h1
  unfold ltA
  generalize redN m e = x at *
  generalize redD m e = y at *
  subst hn hd
  have e1 : x * g * d = (x * d) * g := by rw [Int.mul_assoc, Int.mul_comm g d, Int.mul_assoc]
  have e2 : n * (y * g) = (n * y) * g := by rw [Int.mul_assoc]
  rw [e1, e2, Bool.eq_iff_iff, decide_eq_true_eq, decide_eq_true_eq]
  exact ⟨fun h => Int.mul_lt_mul_of_pos_right h hg, fun h => Int.lt_of_mul_lt_mul_right h (by omega)⟩
theorem ltA_right {m e n d : Int} (h0 : 0 ≤ m) (h1 : m < e) : ltA n d (redN m e) (redD m e) = decide (n * e < m * d) := by
  obtain ⟨g, hg, hn, hd⟩ := red_parts h0 h1
  unfold ltA
  generalize redN m e = x at *
  generalize redD m e = y at *
  subst hn hd
  have e1 : x * g * d = (x * d) * g := by rw [Int.mul_assoc, Int.mul_comm g d, Int.mul_assoc]
  have e2 : n * (y * g) = (n * y) * g := by rw [Int.mul_assoc]
  rw [e1, e2, Bool.eq_iff_iff, decide_eq_true_eq, decide_eq_true_eq]
  exact ⟨fun h => Int.mul_lt_mul_of_pos_right h hg, fun h => Int.lt_of_mul_lt_mul_right h (by omega)⟩

/-- The letter of n/d for m/c. -/
def midB (n d m c : Int) : Bool := decide (m * d < 2 * c * n) && decide (2 * c * n < (m + c) * d)
def ltrI (n d m c : Int) : Int := if eqA (redN (2 * n) d) (redD (2 * n) d) m c then 42 else if midB n d m c then 49 else 48
theorem mid_arc (n d m c : Int) (h2 : angOk m c) : arcB n d (redN m (2 * c)) (redD m (2 * c)) (redN (m + c) (2 * c)) (redD (m + c) (2 * c)) = midB n d m c := by
  obtain ⟨b1, b2, b3, b4⟩ := h2
  have l1 : ltA (redN m (2 * c)) (redD m (2 * c)) (redN (m + c) (2 * c)) (redD (m + c) (2 * c)) = true := by
    rw [ltA_left (by omega) (by omega)]
    obtain ⟨g, hg, hn, hd⟩ := red_parts (m := m + c) (e := 2 * c) (by omega) (by omega)
    rw [decide_eq_true_eq]
    generalize redN (m + c) (2 * c) = x at *
    generalize redD (m + c) (2 * c) = y at *
    refine Int.lt_of_mul_lt_mul_right (a := g) ?_ (by omega)
    have e1 : m * y * g = m * (2 * c) := by rw [Int.mul_assoc, hd]
    have e2 : x * (2 * c) * g = (m + c) * (2 * c) := by rw [Int.mul_assoc, Int.mul_comm (2 * c) g, ← Int.mul_assoc, hn]
    rw [e1, e2]
    exact Int.mul_lt_mul_of_pos_right (by omega) (by omega)
  unfold arcB midB
  rw [if_pos l1, ltA_left (by omega) (by omega), ltA_right (by omega) (by omega)]
  have e3 : n * (2 * c) = 2 * c * n := Int.mul_comm ..
  rw [e3]

end Go.Proofs.Ytnciiodgkanpjaa

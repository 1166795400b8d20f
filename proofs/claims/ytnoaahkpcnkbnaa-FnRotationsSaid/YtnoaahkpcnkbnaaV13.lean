/-
  Contracts: leaves that are pulled back past a diameter: the program's way with an answer.
  Plain mathematics of halves; the order of leaves on the model's side.
-/
import Derived.Test.YtnoaahkpcnkbnaaV11
import Derived.Test.YtnoaahkpcnkbnaaW10
import Derived.Test.YtnoaahkpcnkbnaaW21
namespace Go.Proofs.Ytnoaahkpcnkbnaa
open Go.RowKit

theorem lf4_eq {a b c d p q r s : Int} (h : lf4 a b c d = (p, q, r, s)) : lfA a b c d = p ∧ lfB a b c d = q ∧ lfC a b c d = r ∧ lfD a b c d = s := by
  unfold lf4 at h
  simpa using h

/-- What the region of the two leaves reads, kept. -/
theorem keepR {w W w1 : World} {b1 b2 o1 o2 : Nat} {x y x' y' u v u' v' : Int} (hb : Below W.heap.size W w1)
    (H : b1 < W.heap.size ∧ b2 < W.heap.size ∧ Below w.heap.size w W ∧ W.cell? ⟨b1, o1, none⟩ = some (.int .i64 x) ∧ W.cell? ⟨b1, o1 + 1, none⟩ = some (.int .i64 y) ∧ W.cell? ⟨b1, o1 + 2, none⟩ = some (.int .i64 x') ∧ W.cell? ⟨b1, o1 + 2 + 1, none⟩ = some (.int .i64 y') ∧
      W.cell? ⟨b2, o2, none⟩ = some (.int .i64 u) ∧ W.cell? ⟨b2, o2 + 1, none⟩ = some (.int .i64 v) ∧ W.cell? ⟨b2, o2 + 2, none⟩ = some (.int .i64 u') ∧ W.cell? ⟨b2, o2 + 2 + 1, none⟩ = some (.int .i64 v')) :
    b1 < w1.heap.size ∧ b2 < w1.heap.size ∧ Below w.heap.size w w1 ∧ w1.cell? ⟨b1, o1, none⟩ = some (.int .i64 x) ∧ w1.cell? ⟨b1, o1 + 1, none⟩ = some (.int .i64 y) ∧ w1.cell? ⟨b1, o1 + 2, none⟩ = some (.int .i64 x') ∧ w1.cell? ⟨b1, o1 + 2 + 1, none⟩ = some (.int .i64 y') ∧
      w1.cell? ⟨b2, o2, none⟩ = some (.int .i64 u) ∧ w1.cell? ⟨b2, o2 + 1, none⟩ = some (.int .i64 v) ∧ w1.cell? ⟨b2, o2 + 2, none⟩ = some (.int .i64 u') ∧ w1.cell? ⟨b2, o2 + 2 + 1, none⟩ = some (.int .i64 v') := by
  obtain ⟨z1, z2, hB, h0, h1, h2, h3, h4, h5, h6, h7⟩ := H
  have hs := hb.size
  exact ⟨by omega, by omega, belowNext hB hb, cellThru hb z1 h0, cellThru hb z1 h1, cellThru hb z1 h2, cellThru hb z1 h3, cellThru hb z2 h4, cellThru hb z2 h5, cellThru hb z2 h6, cellThru hb z2 h7⟩

theorem redBd (n d : Int) (hd : 0 < d) : 0 ≤ redN n d ∧ redN n d < redD n d ∧ 1 ≤ redD n d ∧ redD n d ≤ d := by
  have h1 := Int.emod_nonneg n (b := d) (by omega)
  have h2 := Int.emod_lt_of_pos n hd
  have hp := gcdI_pos (n % d) d hd
  have d1 : gcdI (n % d) d ∣ n % d := by unfold gcdI; exact Int.gcd_dvd_left ..
  have d2 : gcdI (n % d) d ∣ d := by unfold gcdI; exact Int.gcd_dvd_right ..
  obtain ⟨x, hx⟩ := d1
  obtain ⟨y, hy⟩ := d2
  unfold redN redD
  generalize gcdI (n % d) d = g at *
  generalize n % d = r at *
  subst hx hy
  rw [Int.mul_ediv_cancel_left _ (by omega), Int.mul_ediv_cancel_left _ (by omega)]
  have p0 : 0 ≤ x := by
    rcases (show x < 0 ∨ 0 ≤ x by omega) with h | h
    · have := Int.mul_neg_of_pos_of_neg hp h; omega
    · exact h
  have p1 : x < y := Int.lt_of_mul_lt_mul_left h2 (by omega)
  refine ⟨p0, p1, by omega, ?_⟩
  have := Int.mul_le_mul_of_nonneg_right (show 1 ≤ g by omega) (show 0 ≤ y by omega)
  omega

theorem eqA_comm (a b c d : Int) : eqA a b c d = eqA c d a b := by
  unfold eqA
  rw [Bool.eq_iff_iff]
  simp
  omega
theorem neqAng (a1 a2 b1 b2 : Int) (W : World) : (binOp .neq 32 (ang a1 a2) (ang b1 b2)).run Try.prog W = .ok (.bool (!eqA a1 a2 b1 b2)) W := by
  by_cases h1 : a1 = b1
  · by_cases h2 : a2 = b2
    · subst h1 h2
      simp [go_sem, eqA]
    · subst h1
      simp [go_sem, eqA, h2]
  · simp [go_sem, eqA, h1]

/-- A leaf comes before another one. -/
def lessL (a b c d e f g h : Int) : Bool := if eqA a b e f then ltA c d g h else ltA a b e f

theorem ltA_self (n d : Int) : ltA n d n d = false := decide_eq_false (by omega)
theorem lt_ne {n d m c : Int} (h : ltA n d m c = true) : eqA m c n d = false := by
  cases e : eqA m c n d
  · rfl
  · obtain ⟨rfl, rfl⟩ := (eqA_iff _ _ _ _).1 e
    rw [ltA_self] at h; cases h
theorem lt_anti {n d m c : Int} (h : ltA n d m c = true) : ltA m c n d = false := by
  have := of_decide_eq_true h
  exact decide_eq_false (by omega)
/-- The one with the least of all ends comes first. -/
theorem less_no {x y u v x' y' u' v' : Int} (h1 : ltA x y u v = true) (h2 : ltA x y x' y' = true) (h3 : ltA x y u' v' = true) :
    lessL (lfA x' y' u' v') (lfB x' y' u' v') (lfC x' y' u' v') (lfD x' y' u' v') (lfA x y u v) (lfB x y u v) (lfC x y u v) (lfD x y u v) = false := by
  obtain ⟨e1, e2, e3, e4⟩ := lf_yes h1
  rw [e1, e2, e3, e4]
  cases h : ltA x' y' u' v'
  · obtain ⟨d1, d2, d3, d4⟩ := lf_no h
    rw [d1, d2, d3, d4]
    unfold lessL
    rw [lt_ne h3, lt_anti h3]; rfl
  · obtain ⟨d1, d2, d3, d4⟩ := lf_yes h
    rw [d1, d2, d3, d4]
    unfold lessL
    rw [lt_ne h2, lt_anti h2]; rfl

theorem lt_halves {m e n f : Int} (h0 : 0 ≤ m) (h1 : m < e) (h2 : 0 ≤ n) (h3 : n < f) (h : m * f < n * e) : ltA (redN m e) (redD m e) (redN n f) (redD n f) = true := by
  rw [ltA_left h0 h1, decide_eq_true_eq]
  have := ltA_right (m := n) (e := f) (n := m) (d := e) h2 h3
  obtain ⟨g, hg, hn, hd⟩ := red_parts h2 h3
  generalize redN n f = x at *
  generalize redD n f = y at *
  subst hn hd
  refine Int.lt_of_mul_lt_mul_right (a := g) ?_ (by omega)
  have e1 : m * y * g = m * (y * g) := Int.mul_assoc ..
  have e2 : x * e * g = x * g * e := by ac_rfl
  rw [e1, e2]; exact h

/-- The halves of the ends of a leaf: the first one is the least. -/
theorem half_order {a b c d : Int} (r1 : Red (a, b)) (r2 : Red (c, d)) (h : ltA a b c d = true) :
    ltA (redN a (2 * b)) (redD a (2 * b)) (redN c (2 * d)) (redD c (2 * d)) = true ∧ ltA (redN a (2 * b)) (redD a (2 * b)) (redN (c + d) (2 * d)) (redD (c + d) (2 * d)) = true ∧
    ltA (redN a (2 * b)) (redD a (2 * b)) (redN (a + b) (2 * b)) (redD (a + b) (2 * b)) = true := by
  obtain ⟨a1, -, a3, a4, -⟩ := r1
  obtain ⟨b1, -, b3, b4, -⟩ := r2
  dsimp only at *
  have h' := of_decide_eq_true h
  refine ⟨lt_halves a3 (by omega) b3 (by omega) ?_, lt_halves a3 (by omega) (by omega) (by omega) ?_, lt_halves a3 (by omega) (by omega) (by omega) ?_⟩
  · have e1 : a * (2 * d) = 2 * (a * d) := by ac_rfl
    have e2 : c * (2 * b) = 2 * (c * b) := by ac_rfl
    omega
  · have e1 : a * (2 * d) = 2 * (a * d) := by ac_rfl
    have e2 : (c + d) * (2 * b) = 2 * (c * b) + 2 * (d * b) := by rw [Int.add_mul]; congr 1 <;> ac_rfl
    have := Int.mul_pos (show 0 < d by omega) (show 0 < b by omega)
    omega
  · have e1 : (a + b) * (2 * b) = a * (2 * b) + 2 * (b * b) := by rw [Int.add_mul]; congr 1; ac_rfl
    have := Int.mul_pos (show 0 < b by omega) (show 0 < b by omega)
    omega
end Go.Proofs.Ytnoaahkpcnkbnaa

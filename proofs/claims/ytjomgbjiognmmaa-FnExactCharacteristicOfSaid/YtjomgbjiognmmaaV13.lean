/-
  Plain mathematics of halves; the order of leaves on the model's side.
-/
import Derived.Test.YtjomgbjiognmmaaV12
import Derived.Test.YtjomgbjiognmmaaW10
import Derived.Test.YtjomgbjiognmmaaW21
namespace Go.Proofs.Ytjomgbjiognmmaa
open Go.RowKit

theorem eqA_comm (a b c d : Int) : eqA a b c d = eqA c d a b := by
  unfold eqA
  rw [Bool.eq_iff_iff]
  simp
  omega
theorem neqAng (a1 a2 b1 b2 : Int) (W : World) : (binOp .neq 27 (ang a1 a2) (ang b1 b2)).run Try.prog W = .ok (.bool (!eqA a1 a2 b1 b2)) W := by
  by_cases h1 : a1 = b1
  · by_cases h2 : a2 = b2
    · subst h1 h2
      simp [go_sem, eqA]
    · subst h1
      simp [go_sem, eqA, h2]
  · simp [go_sem, eqA, h1]

/-- A leaf comes before another one. -/
def lessL (a b c d e f g h : Int) : Bool := if eqA a b e f then ltA c d g h else ltA a b e f

theorem ltA_self (n d : Int) : ltA n d n d = false := decide_eq_false (by omega)
theorem lt_ne {n d m c : Int} (h : ltA n d m c = true) : eqA m c n d = false := by
  cases e : eqA m c n d
  · rfl
  · obtain ⟨rfl, rfl⟩ := (eqA_iff _ _ _ _).1 e
    rw [ltA_self] at h; cases h
theorem lt_anti {n d m c : Int} (h : ltA n d m c = true) : ltA m c n d = false := by
  have := of_decide_eq_true h
  exact decide_eq_false (by omega)
/-- The one with the least of all ends comes first. -/
theorem less_no {x y u v x' y' u' v' : Int} (h1 : ltA x y u v = true) (h2 : ltA x y x' y' = true) (h3 : ltA x y u' v' = true) :
    lessL (lfA x' y' u' v') (lfB x' y' u' v') (lfC x' y' u' v') (lfD x' y' u' v') (lfA x y u v) (lfB x y u v) (lfC x y u v) (lfD x y u v) = false := by
  obtain ⟨e1, e2, e3, e4⟩ := lf_yes h1
  rw [e1, e2, e3, e4]
  cases h : ltA x' y' u' v'
  · obtain ⟨d1, d2, d3, d4⟩ := lf_no h
    rw [d1, d2, d3, d4]
    unfold lessL
    rw [lt_ne h3, lt_anti h3]; rfl
  · obtain ⟨d1, d2, d3, d4⟩ := lf_yes h
    rw [d1, d2, d3, d4]
    unfold lessL
    rw [lt_ne h2, lt_anti h2]; rfl

theorem lt_halves {m e n f : Int} (h0 : 0 ≤ m) (h1 : m < e) (h2 : 0 ≤ n) (h3 : n < f) (h : m * f < n * e) : ltA (redN m e) (redD m e) (redN n f) (redD n f) = true := by
  rw [ltA_left h0 h1, decide_eq_true_eq]
  have := ltA_right (m := n) (e := f) (n := m) (d := e) h2 h3
  obtain ⟨g, hg, hn, hd⟩ := red_parts h2 h3
  generalize redN n f = x at *
  generalize redD n f = y at *
  subst hn hd
  refine Int.lt_of_mul_lt_mul_right (a := g) ?_ (by omega)
  have e1 : m * y * g = m * (y * g) := Int.mul_assoc ..
  have e2 : x * e * g = x * g * e := by ac_rfl
  rw [e1, e2]; exact h

/-- The halves of the ends of a leaf: the first one is the least. -/
theorem half_order {a b c d : Int} (r1 : Red (a, b)) (r2 : Red (c, d)) (h : ltA a b c d = true) :
    ltA (redN a (2 * b)) (redD a (2 * b)) (redN c (2 * d)) (redD c (2 * d)) = true ∧ ltA (redN a (2 * b)) (redD a (2 * b)) (redN (c + d) (2 * d)) (redD (c + d) (2 * d)) = true ∧
    ltA (redN a (2 * b)) (redD a (2 * b)) (redN (a + b) (2 * b)) (redD (a + b) (2 * b)) = true := by
  obtain ⟨a1, -, a3, a4, -⟩ := r1
  obtain ⟨b1, -, b3, b4, -⟩ := r2
  dsimp only at *
  have h' := of_decide_eq_true h
  refine ⟨lt_halves a3 (by omega) b3 (by omega) ?_, lt_halves a3 (by omega) (by omega) (by omega) ?_, lt_halves a3 (by omega) (by omega) (by omega) ?_⟩
  · have e1 : a * (2 * d) = 2 * (a * d) := by ac_rfl
    have e2 : c * (2 * b) = 2 * (c * b) := by ac_rfl
    omega
  · have e1 : a * (2 * d) = 2 * (a * d) := by ac_rfl
    have e2 : (c + d) * (2 * b) = 2 * (c * b) + 2 * (d * b) := by rw [Int.add_mul]; congr 1 <;> ac_rfl
    have := Int.mul_pos (show 0 < d by omega) (show 0 < b by omega)
    omega
  · have e1 : (a + b) * (2 * b) = a * (2 * b) + 2 * (b * b) := by rw [Int.add_mul]; congr 1; ac_rfl
    have := Int.mul_pos (show 0 < b by omega) (show 0 < b by omega)
    omega
end Go.Proofs.Ytjomgbjiognmmaa

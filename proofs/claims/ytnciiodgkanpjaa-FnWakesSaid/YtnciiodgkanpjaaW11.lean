/-
  Contracts: distances.
-/
import Derived.Test.YtnciiodgkanpjaaW6
import Derived.Deep.DeepCutAuto
namespace Go.Proofs.Ytnciiodgkanpjaa
open Go.RowKit

theorem gcdI_neg (r d : Int) : gcdI (d - r) d = gcdI r d := by
  unfold gcdI
  have : Int.gcd (d - r) d = Int.gcd r d := by
    have e : d - r = -r + d * 1 := by omega
    rw [e, Int.gcd_add_mul_left_left, Int.neg_gcd]
  rw [this]
theorem emod_neg_pos (n d : Int) (hd : 0 < d) (hr : 0 < n % d) : (-n) % d = d - n % d := by
  have e := Int.emod_add_mul_ediv n d
  have b := Int.emod_lt_of_pos n hd
  have : -n = (d - n % d) + d * (-(n / d) - 1) := by
    rw [Int.mul_sub, Int.mul_neg, Int.mul_one]; omega
  rw [this, Int.add_mul_emod_self_left, Int.emod_eq_of_lt (by omega) (by omega)]
theorem gcdI_dvd_left (a b : Int) : gcdI a b ∣ a := by unfold gcdI; exact Int.gcd_dvd_left ..
theorem gcdI_dvd_right (a b : Int) : gcdI a b ∣ b := by unfold gcdI; exact Int.gcd_dvd_right ..
theorem gcdI_div (a b : Int) (h : 0 < b) : gcdI (a / gcdI a b) (b / gcdI a b) = 1 := by
  have hp := gcdI_pos a b h
  unfold gcdI at *
  have := Int.gcd_ediv_gcd_ediv_gcd (i := a) (j := b) (by omega)
  rw [this]; rfl
theorem red_bounds (n d : Int) (hd : 0 < d) : 0 ≤ redN n d ∧ redN n d < redD n d ∧ 1 ≤ redD n d ∧ redD n d ≤ d := by
  have hp := gcdI_pos (n % d) d hd
  have h1 := Int.emod_nonneg n (b := d) (by omega)
  have h2 := Int.emod_lt_of_pos n hd
  obtain ⟨x, hx⟩ := gcdI_dvd_left (n % d) d
  obtain ⟨y, hy⟩ := gcdI_dvd_right (n % d) d
  unfold redN redD
  generalize gcdI (n % d) d = g at *
  generalize n % d = r at *
  subst hx hy
  rw [Int.mul_ediv_cancel_left _ (by omega), Int.mul_ediv_cancel_left _ (by omega)]
  have p0 : 0 ≤ x := by
    rcases (show x < 0 ∨ 0 ≤ x by omega) with h | h
    · have := Int.mul_neg_of_pos_of_neg hp h; omega
    · exact h
  have p1 : x < y := Int.lt_of_mul_lt_mul_left h2 (by omega)
  refine ⟨p0, p1, by omega, ?_⟩
  have := Int.mul_le_mul_of_nonneg_right (show 1 ≤ g by omega) (show 0 ≤ y by omega)
  omega
theorem red_neg (n d : Int) (hd : 0 < d) : redN (-n) d = redN (-(redN n d)) (redD n d) ∧ redD (-n) d = redD (-(redN n d)) (redD n d) := by
  have hb := red_bounds n d hd
  by_cases hr : n % d = 0
  · have hn : (-n) % d = 0 := Int.emod_eq_zero_of_dvd (Int.dvd_neg.2 (Int.dvd_of_emod_eq_zero hr))
    have e0 : redN n d = 0 := by unfold redN; rw [hr]; simp
    have g0 : gcdI 0 d = d := by unfold gcdI; rw [Int.gcd_zero_left]; omega
    have e1 : redD n d = 1 := by unfold redD; rw [hr, g0]; exact Int.ediv_self (by omega)
    rw [e0, e1]
    unfold redN redD
    rw [hn, g0]
    simp [Int.ediv_self (show d ≠ 0 by omega)]
    unfold gcdI; rfl
  · have h1 := Int.emod_nonneg n (b := d) (by omega)
    have hn := emod_neg_pos n d hd (by omega)
    have hp := gcdI_pos (n % d) d hd
    have hq := gcdI_div (n % d) d hd
    obtain ⟨x, hx⟩ := gcdI_dvd_left (n % d) d
    obtain ⟨y, hy⟩ := gcdI_dvd_right (n % d) d
    have hN : redN n d = x := by unfold redN; generalize gcdI (n % d) d = g at *; rw [hx, Int.mul_ediv_cancel_left _ (by omega)]
    have hD : redD n d = y := by
      unfold redD
      generalize gcdI (n % d) d = g at *
      rw [hy, Int.mul_ediv_cancel_left _ (by omega)]
    have hx0 : 0 < x := by
      rcases (show 0 < x ∨ x ≤ 0 by omega) with h | h
      · exact h
      · have := Int.mul_nonpos_of_nonneg_of_nonpos (show 0 ≤ gcdI (n % d) d by omega) h; omega
    have e2 : redN (-n) d = y - x ∧ redD (-n) d = y := by
      unfold redN redD
      rw [hn, gcdI_neg]
      generalize gcdI (n % d) d = g at *
      constructor
      · rw [hx, hy, ← Int.mul_sub, Int.mul_ediv_cancel_left _ (by omega)]
      · rw [hy, Int.mul_ediv_cancel_left _ (by omega)]
    have hq' : gcdI x y = 1 := by
      have := hq
      generalize gcdI (n % d) d = g at *
      rw [hx, hy, Int.mul_ediv_cancel_left _ (by omega), Int.mul_ediv_cancel_left _ (by omega)] at this
      exact this
    rw [hN, hD] at hb ⊢
    have hxm : x % y = x := Int.emod_eq_of_lt (by omega) hb.2.1
    have hm := emod_neg_pos x y (by omega) (by omega)
    rw [hxm] at hm
    rw [e2.1, e2.2]
    unfold redN redD
    rw [hm, gcdI_neg, hq']
    simp
end Go.Proofs.Ytnciiodgkanpjaa

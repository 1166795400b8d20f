/-
  Plain mathematics: greatest common divisors, reduced fractions. No program in sight.
-/
import Derived.WalkKit
namespace Go.Proofs.Ytnciiodgkanpjaa
open Go.RowKit

/-- The greatest common divisor, as an integer. -/
def gcdI (a b : Int) : Int := ((Int.gcd a b : Nat) : Int)

theorem gcdI_zero (a : Int) (h : 0 ≤ a) : gcdI a 0 = a := by
  unfold gcdI; rw [Int.gcd_zero_right]; omega
theorem gcdI_step (a b : Int) : gcdI b (a % b) = gcdI a b := by
  unfold gcdI
  have h : Int.gcd b (a % b) = Int.gcd a b := by
    have e : a % b = a + b * (-(a / b)) := by
      have := Int.emod_add_mul_ediv a b
      rw [Int.mul_neg]; omega
    rw [e, Int.gcd_add_mul_left_right, Int.gcd_comm]
  rw [h]
theorem gcdI_nonneg (a b : Int) : 0 ≤ gcdI a b := by unfold gcdI; omega
theorem gcdI_pos (a b : Int) (h : 0 < b) : 0 < gcdI a b := by
  unfold gcdI
  have := Int.gcd_pos_of_ne_zero_right a (b := b) (by omega)
  omega
theorem gcdI_le (a b : Int) (h : 0 < b) : gcdI a b ≤ b := by
  unfold gcdI
  exact Int.gcd_le_right (a := a) h

/-- The reduced fraction of n/d, taken into a turn. -/
def redN (n d : Int) : Int := (n % d) / gcdI (n % d) d
def redD (n d : Int) : Int := d / gcdI (n % d) d

theorem tmod_nonneg (n d : Int) (h : 0 ≤ n) : n.tmod d = n % d := Int.tmod_eq_emod_of_nonneg h
theorem tmod_neg0 (n d : Int) (h : n < 0) (hr : n % d = 0) : n.tmod d = 0 := by
  have h1 : n.tmod d = -((-n).tmod d) := by rw [Int.neg_tmod]; omega
  rw [h1, Int.tmod_eq_emod_of_nonneg (by omega)]
  have : (-n) % d = 0 := Int.emod_eq_zero_of_dvd (Int.dvd_neg.2 (Int.dvd_of_emod_eq_zero hr))
  omega
theorem tmod_neg1 (n d : Int) (h : n < 0) (hd : 0 < d) (hr : 0 < n % d) : n.tmod d = n % d - d := by
  have h1 : n.tmod d = -((-n).tmod d) := by rw [Int.neg_tmod]; omega
  rw [h1, Int.tmod_eq_emod_of_nonneg (by omega)]
  have e := Int.emod_add_mul_ediv n d
  have b := Int.emod_lt_of_pos n hd
  have e2 : (-n) % d = d - n % d := by
    have : -n = (d - n % d) + d * (-(n / d) - 1) := by
      rw [Int.mul_sub, Int.mul_neg, Int.mul_one]; omega
    rw [this, Int.add_mul_emod_self_left, Int.emod_eq_of_lt (by omega) (by omega)]
  omega
end Go.Proofs.Ytnciiodgkanpjaa

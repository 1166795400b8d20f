/-
  Plain mathematics: the digits of an angle tell it, so its expansion is told in the one way.
-/
import Derived.Test.YtnoaahkpcnkbnaaOrb2
import Derived.Test.YtnoaahkpcnkbnaaSeq
namespace Go.Proofs.Ytnoaahkpcnkbnaa
open Go.RowKit

/-- The first digit. -/
def dgt (p : Int × Int) : Int := if p.2 ≤ 2 * p.1 then 1 else 0
theorem dbl_eq {p : Int × Int} (h : Red p) : (dbl p).1 * p.2 = (2 * p.1 - dgt p * p.2) * (dbl p).2 := by
  obtain ⟨h1, h2, h3, h4, _⟩ := id h
  rcases (show p.2 % 2 = 1 ∨ p.2 % 2 = 0 by omega) with ho | he
  · rw [dbl_odd h ho]
    dsimp only
    unfold dgt
    by_cases hd : p.2 ≤ 2 * p.1
    · rw [if_pos hd]
      have e : (2 * p.1) % p.2 = 2 * p.1 - p.2 := by
        have : 2 * p.1 = (2 * p.1 - p.2) + p.2 * 1 := by omega
        rw [this, Int.add_mul_emod_self_left, Int.emod_eq_of_lt (by omega) (by omega)]
        omega
      rw [e, Int.one_mul]
    · rw [if_neg hd, Int.emod_eq_of_lt (by omega) (by omega), Int.zero_mul, Int.sub_zero]
  · rw [dbl_even h he]
    dsimp only
    obtain ⟨e, hE⟩ : ∃ e, p.2 = 2 * e := ⟨p.2 / 2, by omega⟩
    have e1 : p.2 / 2 = e := by omega
    rw [e1, hE]
    unfold dgt
    rw [hE]
    by_cases hd : 2 * e ≤ 2 * p.1
    · rw [if_pos hd]
      have e2 : p.1 % e = p.1 - e := by
        have : p.1 = (p.1 - e) + e * 1 := by omega
        rw [this, Int.add_mul_emod_self_left, Int.emod_eq_of_lt (by omega) (by omega)]
        omega
      rw [e2, Int.one_mul, ← Int.mul_sub, Int.mul_comm 2 e, Int.mul_comm 2 (p.1 - e), ← Int.mul_assoc, Int.mul_assoc (p.1 - e) 2 e, Int.mul_comm 2 e, ← Int.mul_assoc]
    · rw [if_neg hd, Int.emod_eq_of_lt (by omega) (by omega), Int.zero_mul, Int.sub_zero, Int.mul_comm 2 p.1, Int.mul_assoc]

/-- The digits as a number. -/
def mm (p : Int × Int) : Nat → Int
  | 0 => 0
  | k + 1 => 2 * mm p k + dgt (orb p k)
theorem orb_num {p : Int × Int} (h : Red p) : ∀ k, (orb p k).1 * p.2 = (2 ^ k * p.1 - mm p k * p.2) * (orb p k).2
  | 0 => by simp [orb, mm]
  | k + 1 => by
    have ih := orb_num h k
    have hr := orb_red h k
    have e := dbl_eq hr
    have hd : (orb p k).2 ≠ 0 := by have := hr.1; omega
    show (dbl (orb p k)).1 * p.2 = (2 ^ (k + 1) * p.1 - (2 * mm p k + dgt (orb p k)) * p.2) * (dbl (orb p k)).2
    generalize (dbl (orb p k)).1 = n' at *
    generalize (dbl (orb p k)).2 = d' at *
    generalize dgt (orb p k) = δ at *
    generalize (orb p k).1 = n at *
    generalize (orb p k).2 = d at *
    rw [Int.pow_succ]
    generalize (2 : Int) ^ k = t at *
    generalize mm p k = m at *
    generalize p.1 = n0 at *
    generalize p.2 = d0 at *
    apply Int.eq_of_mul_eq_mul_left hd
    have a1 : d * (n' * d0) = (n' * d) * d0 := by rw [Int.mul_comm d, Int.mul_assoc, Int.mul_assoc, Int.mul_comm d0 d]
    rw [a1, e]
    have a2 : (2 * n - δ * d) * d' * d0 = (2 * (n * d0) - δ * d * d0) * d' := by
      simp only [Int.sub_mul, Int.mul_assoc]
      rw [Int.mul_comm d' d0]
    rw [a2, ih]
    simp only [Int.sub_mul, Int.mul_sub, Int.add_mul, Int.mul_assoc, Int.mul_add]
    simp only [Int.mul_left_comm, Int.mul_comm]
    simp only [Int.mul_left_comm, Int.mul_assoc]
    omega
theorem mm_bound {p : Int × Int} (h : Red p) (k : Nat) : 0 ≤ 2 ^ k * p.1 - mm p k * p.2 ∧ 2 ^ k * p.1 - mm p k * p.2 < p.2 := by
  have e := orb_num h k
  obtain ⟨h1, _, h3, h4, _⟩ := orb_red h k
  have h0 := h.1
  generalize (orb p k).1 = n at *
  generalize (orb p k).2 = d at *
  generalize 2 ^ k * p.1 - mm p k * p.2 = T at *
  constructor
  · apply Int.le_of_mul_le_mul_right (a := d) ?_ (by omega)
    rw [← e, Int.zero_mul]
    exact Int.mul_nonneg h3 (by omega)
  · apply Int.lt_of_mul_lt_mul_right (a := d) ?_ (by omega)
    rw [← e, Int.mul_comm p.2 d]
    exact Int.mul_lt_mul_of_pos_right h4 (by omega)
theorem dvd_cop {d n e : Int} (h : Int.gcd d n = 1) (hd : d ∣ n * e) : d ∣ e := by
  rw [← Int.natAbs_dvd_natAbs] at *
  rw [Int.natAbs_mul] at hd
  exact Nat.Coprime.dvd_of_dvd_mul_left h hd
theorem red_eq {p q : Int × Int} (hp : Red p) (hq : Red q) (e : p.1 * q.2 = q.1 * p.2) : p = q := by
  obtain ⟨a1, a2, a3, a4, a5⟩ := hp
  obtain ⟨b1, b2, b3, b4, b5⟩ := hq
  have g1 : Int.gcd p.2 p.1 = 1 := by unfold gcdI at a5; rw [Int.gcd_comm]; omega
  have g2 : Int.gcd q.2 q.1 = 1 := by unfold gcdI at b5; rw [Int.gcd_comm]; omega
  have d1 : p.2 ∣ q.2 := by
    refine dvd_cop g1 ?_
    exact ⟨q.1, by rw [e, Int.mul_comm]⟩
  have d2 : q.2 ∣ p.2 := by
    refine dvd_cop g2 ?_
    exact ⟨p.1, by rw [← e, Int.mul_comm]⟩
  have e2 : p.2 = q.2 := Int.le_antisymm (Int.le_of_dvd (by omega) d1) (Int.le_of_dvd (by omega) d2)
  have e1 : p.1 = q.1 := by
    rw [e2] at e
    exact Int.eq_of_mul_eq_mul_right (by omega) e
  exact Prod.ext e1 e2
/-- Who has the same digits is the same. -/
theorem digits_tell {p q : Int × Int} (hp : Red p) (hq : Red q) (e : ∀ k, dgt (orb p k) = dgt (orb q k)) : p = q := by
  have em : ∀ k, mm p k = mm q k := by
    intro k
    induction k with
    | zero => rfl
    | succ k ih => simp only [mm]; rw [ih, e k]
  have b1 := mm_bound hp 27
  have b2 := mm_bound hq 27
  rw [em 27] at b1
  obtain ⟨p1, p2, _, _, _⟩ := id hp
  obtain ⟨q1, q2, _, _, _⟩ := id hq
  refine red_eq hp hq ?_
  generalize mm q 27 = m at *
  obtain ⟨T, hT⟩ : ∃ T, 2 ^ 27 * p.1 - m * p.2 = T := ⟨_, rfl⟩
  obtain ⟨S, hS⟩ : ∃ S, 2 ^ 27 * q.1 - m * q.2 = S := ⟨_, rfl⟩
  rw [hT] at b1
  rw [hS] at b2
  have k1 : T * q.2 - S * p.2 = 2 ^ 27 * (p.1 * q.2 - q.1 * p.2) := by
    rw [← hT, ← hS]
    simp only [Int.sub_mul, Int.mul_sub, Int.mul_assoc]
    rw [Int.mul_comm p.2 q.2]
    omega
  have u1 : T * q.2 < p.2 * q.2 := Int.mul_lt_mul_of_pos_right b1.2 (by omega)
  have u2 : S * p.2 < q.2 * p.2 := Int.mul_lt_mul_of_pos_right b2.2 (by omega)
  have u3 : 0 ≤ T * q.2 := Int.mul_nonneg b1.1 (by omega)
  have u4 : 0 ≤ S * p.2 := Int.mul_nonneg b2.1 (by omega)
  have u5 : p.2 * q.2 ≤ 8191 * 8191 := Int.mul_le_mul p2 q2 (by omega) (by omega)
  rw [Int.mul_comm q.2 p.2] at u2
  generalize p.1 * q.2 = A at *
  generalize q.1 * p.2 = B at *
  generalize T * q.2 = C at *
  generalize S * p.2 = D at *
  generalize p.2 * q.2 = E at *
  omega
theorem orb_add (p : Int × Int) (a : Nat) : ∀ b, orb (orb p a) b = orb p (a + b)
  | 0 => rfl
  | b + 1 => by show dbl (orb (orb p a) b) = dbl (orb p (a + b)); rw [orb_add p a b]
theorem orb_tell {p : Int × Int} (h : Red p) {a b : Nat} (e : ∀ k, dgt (orb p (a + k)) = dgt (orb p (b + k))) : orb p a = orb p b := by
  refine digits_tell (orb_red h a) (orb_red h b) fun k => ?_
  rw [orb_add, orb_add]
  exact e k
/-- What is met again goes on as before. -/
theorem orb_per {p : Int × Int} {P c : Nat} (e : orb p (P + c) = orb p P) (j : Nat) : orb p (P + j) = orb p (P + j % c) := by
  induction j using Nat.strongRecOn with
  | ind j ih =>
    by_cases h : j < c
    · rw [Nat.mod_eq_of_lt h]
    · by_cases h0 : c = 0
      · subst h0; rw [Nat.mod_zero]
      · have e1 : orb p (P + j) = orb p (P + (j - c)) := by
          have a1 : P + j = (P + c) + (j - c) := by omega
          rw [a1, ← orb_add, e, orb_add]
        rw [e1, ih (j - c) (by omega), Nat.mod_eq_sub_mod (show c ≤ j by omega)]
end Go.Proofs.Ytnoaahkpcnkbnaa

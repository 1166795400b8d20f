/-
  Plain mathematics: what doubling makes of reduced fractions. No program in sight.
-/
import Derived.Test.YtnciiodgkanpjaaMath
namespace Go.Proofs.Ytnciiodgkanpjaa
open Go.RowKit

/-- A reduced fraction of a turn, its Den within the limit. -/
def Red (p : Int × Int) : Prop := 1 ≤ p.2 ∧ p.2 ≤ 8191 ∧ 0 ≤ p.1 ∧ p.1 < p.2 ∧ gcdI p.1 p.2 = 1
/-- The double. -/
def dbl (p : Int × Int) : Int × Int := (redN (2 * p.1) p.2, redD (2 * p.1) p.2)
/-- Doubled k times. -/
def orb (p : Int × Int) : Nat → Int × Int
  | 0 => p
  | k + 1 => dbl (orb p k)

theorem gcdI_emod (a b : Int) : gcdI (a % b) b = gcdI a b := by
  have h := gcdI_step a b
  unfold gcdI at *
  rw [Int.gcd_comm]; exact h
theorem gcdI_odd (n d : Int) (ho : d % 2 = 1) (h : gcdI n d = 1) : gcdI (2 * n) d = 1 := by
  unfold gcdI at *
  have h2 : Int.gcd 2 d = 1 := by
    have e : d = 1 + 2 * (d / 2) := by omega
    rw [e, Int.gcd_add_mul_left_right]; rfl
  have hn : Int.gcd n d = 1 := by omega
  have : Int.gcd (2 * n) d = 1 := by
    rw [Int.gcd_eq_natAbs_gcd_natAbs] at *
    rw [Int.natAbs_mul]
    exact Nat.Coprime.mul_left h2 hn
  omega
theorem dbl_odd {p : Int × Int} (h : Red p) (ho : p.2 % 2 = 1) : dbl p = ((2 * p.1) % p.2, p.2) := by
  obtain ⟨h1, h2, h3, h4, h5⟩ := h
  have g := gcdI_odd p.1 p.2 ho h5
  rw [← gcdI_emod] at g
  unfold dbl redN redD
  rw [g]
  simp
theorem dbl_even {p : Int × Int} (h : Red p) (he : p.2 % 2 = 0) : dbl p = (p.1 % (p.2 / 2), p.2 / 2) := by
  obtain ⟨h1, h2, h3, h4, h5⟩ := h
  obtain ⟨n, d⟩ := p
  dsimp only at *
  obtain ⟨e, rfl⟩ : ∃ e, d = 2 * e := ⟨d / 2, by omega⟩
  have e1 : 2 * e / 2 = e := by omega
  have e2 : (2 * n) % (2 * e) = 2 * (n % e) := Int.mul_emod_mul_of_pos _ _ (by omega)
  have g1 : gcdI n e = 1 := by
    have hd : gcdI n e ∣ gcdI n (2 * e) := by
      unfold gcdI
      have a1 : ((Int.gcd n e : Nat) : Int) ∣ n := Int.gcd_dvd_left ..
      have a2 : ((Int.gcd n e : Nat) : Int) ∣ 2 * e := Int.dvd_trans (Int.gcd_dvd_right ..) (Int.dvd_mul_left ..)
      exact Int.dvd_coe_gcd a1 a2
    rw [h5] at hd
    have hp := gcdI_pos n e (by omega)
    have := Int.le_of_dvd (by omega) hd
    omega
  have g2 : gcdI (2 * (n % e)) (2 * e) = 2 := by
    have g3 : gcdI (n % e) e = 1 := by rw [gcdI_emod]; exact g1
    unfold gcdI at *
    rw [Int.gcd_mul_left]
    have : Int.gcd (n % e) e = 1 := by omega
    rw [this]; rfl
  unfold dbl redN redD
  dsimp only
  rw [e2, g2, e1]
  simp only [Prod.mk.injEq]
  exact ⟨Int.mul_ediv_cancel_left _ (by omega), trivial⟩
theorem dbl_red {p : Int × Int} (h : Red p) : Red (dbl p) := by
  have h' := h
  obtain ⟨h1, h2, h3, h4, h5⟩ := h'
  rcases (show p.2 % 2 = 1 ∨ p.2 % 2 = 0 by omega) with ho | he
  · rw [dbl_odd h ho]
    refine ⟨h1, h2, Int.emod_nonneg _ (by omega), Int.emod_lt_of_pos _ (by omega), ?_⟩
    dsimp only
    rw [gcdI_emod]; exact gcdI_odd _ _ ho h5
  · rw [dbl_even h he]
    refine ⟨by dsimp only; omega, by dsimp only; omega, Int.emod_nonneg _ (by omega), Int.emod_lt_of_pos _ (by omega), ?_⟩
    dsimp only
    rw [gcdI_emod]
    have hd : gcdI p.1 (p.2 / 2) ∣ gcdI p.1 p.2 := by
      unfold gcdI
      have a1 : ((Int.gcd p.1 (p.2 / 2) : Nat) : Int) ∣ p.1 := Int.gcd_dvd_left ..
      have a2 : ((Int.gcd p.1 (p.2 / 2) : Nat) : Int) ∣ p.2 := by
        have : p.2 = 2 * (p.2 / 2) := by omega
        rw [this]
        exact Int.dvd_trans (by rw [← this]; exact Int.gcd_dvd_right ..) (Int.dvd_mul_left ..)
      exact Int.dvd_coe_gcd a1 a2
    rw [h5] at hd
    have hp := gcdI_pos p.1 (p.2 / 2) (by omega)
    have := Int.le_of_dvd (by omega) hd
    omega
theorem orb_red {p : Int × Int} (h : Red p) : ∀ k, Red (orb p k)
  | 0 => h
  | k + 1 => dbl_red (orb_red h k)

/-- How often 2 divides a Den. -/
def twos : Nat → Int → Nat
  | 0, _ => 0
  | f + 1, d => if d % 2 = 0 then twos f (d / 2) + 1 else 0

/-- The Den of what is doubled k times. -/
theorem orb_den_step {p : Int × Int} (h : Red p) (k : Nat) : (orb p (k + 1)).2 = if (orb p k).2 % 2 = 0 then (orb p k).2 / 2 else (orb p k).2 := by
  have hr := orb_red h k
  show (dbl (orb p k)).2 = _
  by_cases he : (orb p k).2 % 2 = 0
  · rw [if_pos he, dbl_even hr he]
  · rw [if_neg he, dbl_odd hr (by omega)]
/-- The preperiod: how often the Den can be halved. -/
def pre (p : Int × Int) : Nat := twos 14 p.2
theorem twos_odd : ∀ (f : Nat) (d : Int), d % 2 ≠ 0 → twos f d = 0
  | 0, _, _ => rfl
  | _ + 1, _, h => by simp only [twos]; rw [if_neg h]
theorem twos_spec : ∀ (f : Nat) (d : Int), 1 ≤ d → d < 2 ^ f → (∀ k, k < twos f d → ((d / 2 ^ k) % 2 = 0)) ∧ (d / 2 ^ (twos f d)) % 2 = 1
  | 0, d, h1, h2 => by simp at h2; omega
  | f + 1, d, h1, h2 => by
    by_cases he : d % 2 = 0
    · have hd : d / 2 < 2 ^ f := by rw [Int.pow_succ] at h2; omega
      obtain ⟨i1, i2⟩ := twos_spec f (d / 2) (by omega) hd
      have e : twos (f + 1) d = twos f (d / 2) + 1 := by simp only [twos]; rw [if_pos he]
      rw [e]
      have q : ∀ k : Nat, d / 2 ^ (k + 1) = d / 2 / 2 ^ k := fun k => by
        rw [Int.pow_succ, Int.mul_comm, Int.ediv_ediv_of_nonneg (by omega)]
      constructor
      · intro k hk
        cases k with
        | zero => simpa using he
        | succ k => rw [q]; exact i1 k (by omega)
      · rw [q]; exact i2
    · have e : twos (f + 1) d = 0 := by simp only [twos]; rw [if_neg he]
      rw [e]
      exact ⟨fun k hk => absurd hk (by omega), by simp; omega⟩
theorem orb_den {p : Int × Int} (h : Red p) : ∀ k, k ≤ pre p → (orb p k).2 = p.2 / 2 ^ k
  | 0, _ => by simp [orb]
  | k + 1, hk => by
    have ih := orb_den h k (by omega)
    have hs := (twos_spec 14 p.2 h.1 (by have := h.2.1; omega)).1 k (by unfold pre at hk; omega)
    rw [orb_den_step h, ih, if_pos hs, Int.ediv_ediv_of_nonneg (Int.le_of_lt (Int.pow_pos (by omega))), ← Int.pow_succ]
theorem orb_den_odd {p : Int × Int} (h : Red p) : ∀ k, pre p ≤ k → (orb p k).2 = p.2 / 2 ^ (pre p) ∧ (orb p k).2 % 2 = 1 := by
  have hs := (twos_spec 14 p.2 h.1 (by have := h.2.1; omega)).2
  intro k hk
  induction k with
  | zero =>
    have e : pre p = 0 := by omega
    have hd := orb_den h 0 (by omega)
    have e' : twos 14 p.2 = 0 := e
    rw [e'] at hs
    rw [hd, e]
    exact ⟨rfl, hs⟩
  | succ k ih =>
    rcases (show pre p ≤ k ∨ pre p = k + 1 by omega) with h1 | h1
    · obtain ⟨i1, i2⟩ := ih h1
      rw [orb_den_step h, if_neg (by omega)]
      exact ⟨i1, i2⟩
    · have hd := orb_den h (k + 1) (by omega)
      have h1' : twos 14 p.2 = k + 1 := h1
      rw [h1'] at hs
      rw [hd, h1]
      exact ⟨rfl, hs⟩

theorem twice_mod (a b m : Int) (ha : 0 ≤ a) (ha' : a < m) (hb : 0 ≤ b) (hb' : b < m) (ho : m % 2 = 1) (e : (2 * a) % m = (2 * b) % m) : a = b := by
  have key : ∀ x : Int, 0 ≤ x → x < m → (2 * x < m ∧ (2 * x) % m = 2 * x) ∨ (m ≤ 2 * x ∧ (2 * x) % m = 2 * x - m) := by
    intro x h0 h1
    by_cases h : 2 * x < m
    · exact .inl ⟨h, Int.emod_eq_of_lt (by omega) h⟩
    · refine .inr ⟨by omega, ?_⟩
      have : 2 * x = (2 * x - m) + m * 1 := by omega
      rw [this, Int.add_mul_emod_self_left, Int.emod_eq_of_lt (by omega) (by omega)]
      omega
  rcases key a ha ha' with ⟨_, h1⟩ | ⟨_, h1⟩ <;> rcases key b hb hb' with ⟨_, h2⟩ | ⟨_, h2⟩ <;> omega
theorem orb_inj {p : Int × Int} (h : Red p) {i k : Nat} (hi : pre p ≤ i) (hk : pre p ≤ k) (e : orb p (i + 1) = orb p (k + 1)) : orb p i = orb p k := by
  obtain ⟨a1, a2⟩ := orb_den_odd h i hi
  obtain ⟨b1, b2⟩ := orb_den_odd h k hk
  have ri := orb_red h i
  have rk := orb_red h k
  have e' : dbl (orb p i) = dbl (orb p k) := e
  rw [dbl_odd ri a2, dbl_odd rk b2] at e'
  simp only [Prod.mk.injEq] at e'
  obtain ⟨e1, e2⟩ := e'
  have e3 : (orb p i).1 = (orb p k).1 := by
    rw [← e2] at e1
    exact twice_mod _ _ _ ri.2.2.1 ri.2.2.2.1 rk.2.2.1 (by rw [e2]; exact rk.2.2.2.1) a2 e1
  exact Prod.ext e3 e2
theorem orb_den_le {p : Int × Int} (h : Red p) {i k : Nat} (hik : i ≤ k) : (orb p k).2 ≤ (orb p i).2 := by
  induction k with
  | zero =>
    obtain rfl : i = 0 := by omega
    omega
  | succ k ih =>
    by_cases e : i = k + 1
    · subst e; omega
    · have h1 := ih (by omega)
      have h2 := (orb_red h k).1
      have h3 := orb_den_step h k
      split at h3 <;> omega
theorem orb_even {p : Int × Int} (h : Red p) {i : Nat} (hi : i < pre p) : (orb p i).2 % 2 = 0 := by
  rw [orb_den h i (by omega)]
  exact (twos_spec 14 p.2 h.1 (by have := h.2.1; omega)).1 i hi
/-- What is met again first is what lies behind the preperiod. -/
theorem first_repeat {p : Int × Int} (h : Red p) {i k : Nat} (hik : i < k) (e : orb p i = orb p k) (hn : ∀ a b, a < b → b < k → orb p a ≠ orb p b) : i = pre p := by
  rcases Nat.lt_trichotomy i (pre p) with h1 | h1 | h1
  · have h2 := orb_even h h1
    have h3 := orb_den_step h i
    rw [if_pos h2] at h3
    have h4 := orb_den_le h (show i + 1 ≤ k by omega)
    have h5 := (orb_red h i).1
    rw [← e] at h4
    omega
  · exact h1
  · obtain ⟨i', rfl⟩ : ∃ i', i = i' + 1 := ⟨i - 1, by omega⟩
    obtain ⟨k', rfl⟩ : ∃ k', k = k' + 1 := ⟨k - 1, by omega⟩
    exact absurd (orb_inj h (by omega) (by omega) e) (hn i' k' (by omega) (by omega))
end Go.Proofs.Ytnciiodgkanpjaa

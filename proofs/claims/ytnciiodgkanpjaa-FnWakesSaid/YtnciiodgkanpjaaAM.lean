/-
  Plain mathematics: halves that are doubled, sums and distances that do not depend on the order, orbits led into themselves. No program in sight.
-/
import Derived.Test.YtnciiodgkanpjaaW13
import Derived.Test.YtnciiodgkanpjaaW24
namespace Go.Proofs.Ytnciiodgkanpjaa
open Go.RowKit

theorem copAM {u v u' v' : Int} (hv : 0 < v) (hv' : 0 < v') (h1 : gcdI u v = 1) (h2 : gcdI u' v' = 1) (e : u * v' = u' * v) : u = u' ∧ v = v' := by
  have cop : ∀ {a b c : Int}, gcdI a b = 1 → b ∣ a * c → b ∣ c := by
    intro a b c hg hd
    have hc : Nat.Coprime b.natAbs a.natAbs := by
      unfold gcdI at hg
      rw [Int.gcd_eq_natAbs_gcd_natAbs] at hg
      unfold Nat.Coprime
      rw [Nat.gcd_comm]; omega
    have := Int.natAbs_dvd_natAbs.2 hd
    rw [Int.natAbs_mul] at this
    exact Int.natAbs_dvd_natAbs.1 (hc.dvd_of_dvd_mul_left this)
  have d1 : v ∣ v' := cop h1 (e ▸ Int.dvd_mul_left ..)
  have d2 : v' ∣ v := cop h2 (e ▸ Int.dvd_mul_left ..)
  have e2 : v = v' := by
    have := Int.le_of_dvd hv' d1
    have := Int.le_of_dvd hv d2
    omega
  subst e2
  exact ⟨Int.eq_of_mul_eq_mul_right (by omega) e, rfl⟩
theorem quoAM (a b : Int) (hb : 0 < b) : gcdI (a / gcdI a b) (b / gcdI a b) = 1 := by
  have hp := gcdI_pos a b hb
  unfold gcdI at *
  have := Int.gcd_ediv_gcd_ediv_gcd (i := a) (j := b) (by omega)
  rw [this]; rfl
theorem redCop (n d : Int) (hd : 0 < d) : gcdI (redN n d) (redD n d) = 1 := by
  unfold redN redD
  exact quoAM _ _ hd
/-- A fraction in parts. -/
theorem redParts (n d : Int) (hd : 0 < d) : ∃ g, 0 < g ∧ redN n d * g = n % d ∧ redD n d * g = d := by
  have hp := gcdI_pos (n % d) d hd
  refine ⟨gcdI (n % d) d, hp, ?_, ?_⟩
  · unfold redN
    exact Int.ediv_mul_cancel (by unfold gcdI; exact Int.gcd_dvd_left ..)
  · unfold redD
    exact Int.ediv_mul_cancel (by unfold gcdI; exact Int.gcd_dvd_right ..)
theorem redDpos (n d : Int) (hd : 0 < d) : 0 < redD n d := by
  obtain ⟨g, hg, _, h2⟩ := redParts n d hd
  rw [← h2] at hd
  exact Int.pos_of_mul_pos_left hd (by omega)
/-- The double of a half is the angle. -/
theorem half_back {n d m : Int} (h : isAng n d = true) (hm : m = n ∨ m = n + d) : redN (2 * redN m (2 * d)) (redD m (2 * d)) = n ∧ redD (2 * redN m (2 * d)) (redD m (2 * d)) = d := by
  obtain ⟨d1, d2, n0, n1, hg⟩ := isAng_yes h
  obtain ⟨g, g0, e1, e2⟩ := redParts m (2 * d) (by omega)
  have hy := redDpos m (2 * d) (by omega)
  rw [Int.emod_eq_of_lt (by omega) (by omega)] at e1
  generalize redN m (2 * d) = x at *
  generalize redD m (2 * d) = y at *
  obtain ⟨k, k0, f1, f2⟩ := redParts (2 * x) y hy
  have hu := redDpos (2 * x) y hy
  have hc := redCop (2 * x) y hy
  refine copAM hu (by omega) hc hg ?_
  generalize redN (2 * x) y = u at *
  generalize redD (2 * x) y = v at *
  -- what is left of the double
  have hr : ((2 * x) % y) * g = 2 * n := by
    rcases hm with rfl | rfl
    · have hlt : 2 * x < y := by
        have : (2 * x) * g < y * g := by rw [Int.mul_assoc, e1, e2]; omega
        exact Int.lt_of_mul_lt_mul_right this (by omega)
      have h0 : 0 ≤ x := by
        rcases (show x < 0 ∨ 0 ≤ x by omega) with h | h
        · have := Int.mul_neg_of_neg_of_pos h g0; omega
        · exact h
      rw [Int.emod_eq_of_lt (by omega) hlt, Int.mul_assoc, e1]
    · have hge : y ≤ 2 * x := by
        have : y * g ≤ (2 * x) * g := by rw [Int.mul_assoc, e1, e2]; omega
        exact Int.le_of_mul_le_mul_right this g0
      have hlt : 2 * x - y < y := by
        have : (2 * x - y) * g < y * g := by rw [Int.sub_mul, Int.mul_assoc, e1, e2]; omega
        exact Int.lt_of_mul_lt_mul_right this (by omega)
      have e3 : (2 * x) % y = 2 * x - y := by
        rw [← Int.sub_emod_right, Int.emod_eq_of_lt (by omega) hlt]
      rw [e3, Int.sub_mul, Int.mul_assoc, e1, e2]
      omega
  -- u k g = 2 n, v k g = 2 d
  have p1 : u * (k * g) = 2 * n := (Int.mul_assoc u k g).symm.trans (by rw [f1, hr])
  have p2 : v * (k * g) = 2 * d := (Int.mul_assoc v k g).symm.trans (by rw [f2, e2])
  have hkg : 0 < k * g := Int.mul_pos k0 g0
  generalize k * g = K at *
  have e : (u * d) * (2 * K) = (n * v) * (2 * K) := by
    have a1 : (u * d) * (2 * K) = (u * K) * (2 * d) := by ac_rfl
    have a2 : (n * v) * (2 * K) = (2 * n) * (v * K) := by ac_rfl
    rw [a1, a2, p1, p2]
  exact Int.eq_of_mul_eq_mul_right (by omega) e
theorem hal_dbl {n d x y : Int} (hx : (x, y) ∈ halL n d) : dblN x y = n ∧ dblD x y = d ∧ dblC x y = 0 := by
  rcases hal_cases n d with h | ⟨h1, h2, _⟩ | ⟨h1, h2, _⟩ | ⟨h1, h2, b1, b2⟩
  · rw [(hal_no h).1] at hx; cases hx
  · rw [(hal_far h1 h2).1] at hx; cases hx
  · rw [(hal_far h1 h2).1] at hx; cases hx
  · rw [(hal_yes h1 h2).1] at hx
    have hd := (isAng_yes h1).1
    have ang : ∀ m : Int, redD m (2 * d) ≤ 8191 → isAng (redN m (2 * d)) (redD m (2 * d)) = true := fun m hb => by
      obtain ⟨t1, t2, t3, t4⟩ := red_bounds m (2 * d) (by omega)
      unfold isAng
      exact decide_eq_true ⟨t3, hb, t1, t2, redCop m (2 * d) (by omega)⟩
    simp only [List.mem_cons, Prod.mk.injEq, List.not_mem_nil, or_false] at hx
    rcases hx with ⟨rfl, rfl⟩ | ⟨rfl, rfl⟩
    · obtain ⟨e1, e2, e3⟩ := dbl_yes (ang n b1)
      rw [e1, e2, e3]
      obtain ⟨q1, q2⟩ := half_back h1 (m := n) (.inl rfl)
      exact ⟨q1, q2, rfl⟩
    · obtain ⟨e1, e2, e3⟩ := dbl_yes (ang (n + d) b2)
      rw [e1, e2, e3]
      obtain ⟨q1, q2⟩ := half_back h1 (m := n + d) (.inr rfl)
      exact ⟨q1, q2, rfl⟩
theorem sumOk_sym (n d m c : Int) : sumOk n d m c = sumOk m c n d := by unfold sumOk; exact Bool.and_comm _ _
theorem sum_sym (n d m c : Int) : sumN m c n d = sumN n d m c ∧ sumD m c n d = sumD n d m c ∧ sumC m c n d = sumC n d m c := by
  unfold sumN sumD sumC
  rw [sumOk_sym m c n d, Int.add_comm (m * d), Int.mul_comm c d]
  exact ⟨rfl, rfl, rfl⟩
theorem min_sym {X D : Int} (hD : 0 < D) : minN (redN (-X) D) (redD (-X) D) (redN X D) (redD X D) = minN (redN X D) (redD X D) (redN (-X) D) (redD (-X) D) ∧ minD (redN (-X) D) (redD (-X) D) (redN X D) (redD X D) = minD (redN X D) (redD X D) (redN (-X) D) (redD (-X) D) := by
  have a1 := redDpos X D hD
  have a2 := redDpos (-X) D hD
  have a3 := redCop X D hD
  have a4 := redCop (-X) D hD
  generalize redN X D = u at *
  generalize redD X D = v at *
  generalize redN (-X) D = u' at *
  generalize redD (-X) D = v' at *
  unfold minN minD
  cases h1 : ltA u v u' v'
  · cases h2 : ltA u' v' u v
    · have : u = u' ∧ v = v' := copAM a1 a2 a3 a4 (by
        unfold ltA at h1 h2
        have g1 := of_decide_eq_false h1
        have g2 := of_decide_eq_false h2
        omega)
      obtain ⟨rfl, rfl⟩ := this
      simp
    · simp
  · have h2 : ltA u' v' u v = false := by
      unfold ltA at h1 ⊢
      have g1 := of_decide_eq_true h1
      exact decide_eq_false (by omega)
    rw [h2]
    simp
theorem dis_sym (n d m c : Int) : disN m c n d = disN n d m c ∧ disD m c n d = disD n d m c ∧ disC m c n d = disC n d m c := by
  unfold disN disD disC
  rw [sumOk_sym m c n d]
  cases h : sumOk n d m c
  · exact ⟨rfl, rfl, rfl⟩
  · have h' := h
    simp only [sumOk, Bool.and_eq_true] at h'
    obtain ⟨a1, _⟩ := isAng_ok h'.1
    obtain ⟨b1, _⟩ := isAng_ok h'.2
    have e : n * c - m * d = -(m * d - n * c) := by omega
    have e2 : -(n * c - m * d) = m * d - n * c := by omega
    rw [Int.mul_comm c d, e2, e]
    obtain ⟨q1, q2⟩ := min_sym (X := m * d - n * c) (D := d * c) (Int.mul_pos (by omega) (by omega))
    rw [q1, q2]
    exact ⟨rfl, rfl, rfl⟩
/-- An orbit and its periods. -/
theorem orb_facts {n d : Int} (h : oC n d = 0) : ∃ k : Nat, 0 < k ∧ k ≤ 65 ∧ oL n d = orbList (n, d) k ∧ pL n d = [(pre (n, d) : Int), (k : Int) - (pre (n, d) : Int)] ∧ pre (n, d) < k ∧ orb (n, d) k = orb (n, d) (pre (n, d)) ∧ isAng n d = true := by
  unfold oC at h
  cases ha : isAng n d
  · rw [ha] at h; cases h
  · rw [ha] at h
    unfold oL pL
    rw [ha]
    cases e : findOrb (n, d) 65 0 with
    | none => rw [e] at h; cases h
    | some k =>
      obtain ⟨h1, _, h2, _⟩ := find_le _ _ _ e
      obtain ⟨h3, h4⟩ := (hit_iff _ _).1 h2
      exact ⟨k, by omega, by omega, rfl, rfl, h3, h4, rfl⟩
theorem orb_bad {n d : Int} (h : oC n d ≠ 0) : oL n d = [] ∧ pL n d = [] := by
  unfold oC at h
  unfold oL pL
  cases ha : isAng n d
  · exact ⟨rfl, rfl⟩
  · rw [ha] at h
    cases e : findOrb (n, d) 65 0 with
    | none => exact ⟨rfl, rfl⟩
    | some k => rw [e] at h; exact absurd rfl h
theorem orb_isAng {n d : Int} (h : isAng n d = true) (i : Nat) : isAng (orb (n, d) i).1 (orb (n, d) i).2 = true := by
  obtain ⟨a, b, c, e, f⟩ := orb_red (ang_red h) i
  unfold isAng
  exact decide_eq_true ⟨a, b, c, e, f⟩
/-- Each angle of an orbit is led to the next one, the last one to the one at the preperiod. -/
theorem orb_next {n d : Int} (h : isAng n d = true) (i : Nat) : dblN (orb (n, d) i).1 (orb (n, d) i).2 = (orb (n, d) (i + 1)).1 ∧ dblD (orb (n, d) i).1 (orb (n, d) i).2 = (orb (n, d) (i + 1)).2 ∧ dblC (orb (n, d) i).1 (orb (n, d) i).2 = 0 := by
  obtain ⟨e1, e2, e3⟩ := dbl_yes (orb_isAng h i)
  rw [e1, e2, e3]
  exact ⟨rfl, rfl, rfl⟩
end Go.Proofs.Ytnciiodgkanpjaa

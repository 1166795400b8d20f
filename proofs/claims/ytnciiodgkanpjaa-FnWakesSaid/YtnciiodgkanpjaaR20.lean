/-
  Plain mathematics: the pair of an angle is one; widths as reduced fractions. No program in sight.
-/
import Derived.Test.YtnciiodgkanpjaaR19
namespace Go.Proofs.Ytnciiodgkanpjaa
open Go.RowKit

theorem full_at {m j : Nat} (h : m ≤ 6) (hj : j < (angsOf m).length) : ∃ p ∈ joinM (upK m) (angsOf m) (m + 2), p.1 = j ∨ p.2 = j := by
  have hf := full_all h
  unfold fullJ at hf
  rw [List.all_eq_true] at hf
  have := hf j (List.mem_range.2 hj)
  rw [List.any_eq_true] at this
  obtain ⟨p, hp, e⟩ := this
  exact ⟨p, hp, by simpa using e⟩

/-- Reduced fractions of one size are one. -/
theorem cop_eq {u v u' v' : Int} (hv : 0 < v) (hv' : 0 < v') (h1 : gcdI u v = 1) (h2 : gcdI u' v' = 1) (e : u * v' = u' * v) : u = u' ∧ v = v' := by
  have cop : ∀ {a b c : Int}, gcdI a b = 1 → b ∣ a * c → b ∣ c := by
    intro a b c hg hd
    have hc : Nat.Coprime b.natAbs a.natAbs := by
      unfold gcdI at hg
      rw [Int.gcd_eq_natAbs_gcd_natAbs] at hg
      unfold Nat.Coprime
      rw [Nat.gcd_comm]; omega
    have := Int.natAbs_dvd_natAbs.2 hd
    rw [Int.natAbs_mul] at this
    exact Int.natAbs_dvd_natAbs.1 (hc.dvd_of_dvd_mul_left this)
  have d1 : v ∣ v' := cop h1 (e ▸ Int.dvd_mul_left ..)
  have d2 : v' ∣ v := cop h2 (e ▸ Int.dvd_mul_left ..)
  have e2 : v = v' := by
    have := Int.le_of_dvd hv' d1
    have := Int.le_of_dvd hv d2
    omega
  subst e2
  exact ⟨Int.eq_of_mul_eq_mul_right (by omega) e, rfl⟩
theorem red_cop {n d : Int} (h0 : 0 ≤ n) (h1 : n < d) : gcdI (redN n d) (redD n d) = 1 := by
  unfold redN redD
  exact gcdI_quo _ _ (by omega)
/-- Two fractions of one size reduce to one. -/
theorem red_same {n d m c : Int} (h0 : 0 ≤ n) (h1 : n < d) (h2 : 0 ≤ m) (h3 : m < c) (e : n * c = m * d) : redN n d = redN m c ∧ redD n d = redD m c := by
  obtain ⟨g, hg, a1, a2⟩ := red_parts h0 h1
  obtain ⟨k, hk, b1, b2⟩ := red_parts h2 h3
  have p1 := (redBd0 n d (by omega)).2.2.1
  have p2 := (redBd0 m c (by omega)).2.2.1
  refine cop_eq (by omega) (by omega) (red_cop h0 h1) (red_cop h2 h3) ?_
  generalize redN n d = u at *
  generalize redD n d = v at *
  generalize redN m c = u' at *
  generalize redD m c = v' at *
  subst a1 a2 b1 b2
  have e2 : (u * v') * (g * k) = (u' * v) * (g * k) := by
    have : u * g * (v' * k) = u' * k * (v * g) := e
    calc (u * v') * (g * k) = u * g * (v' * k) := by simp only [Int.mul_left_comm, Int.mul_comm]
      _ = u' * k * (v * g) := this
      _ = (u' * v) * (g * k) := by simp only [Int.mul_left_comm, Int.mul_comm]
  exact Int.eq_of_mul_eq_mul_right (Int.ne_of_gt (Int.mul_pos hg hk)) e2

theorem angF_has {N : Nat} {D : Int} : ∀ {K i : Nat}, i < K → shortP (redD i D) = N → (redN i D, redD i D) ∈ angF N D K
  | 0, i, h, _ => absurd h (by omega)
  | K + 1, i, h, hs => by
    simp only [angF, List.mem_append]
    by_cases e : i = K
    · subst e
      right
      rw [angStep_yes hs]; simp
    · exact .inl (angF_has (by omega) hs)
/-- Den of a pair's angle and of its period: the one divides the other. -/
theorem short_dvd {d : Int} (h2 : 1 ≤ shortP d) : ∃ e : Int, d * e = 2 ^ (shortP d) - 1 := by
  rcases shortF_spec d 8 1 with ⟨h, _⟩ | ⟨_, _, h, _⟩
  · unfold shortP at h2; omega
  · have h3 : divs d (shortP d) = true := h
    unfold divs at h3
    rw [beq_iff_eq] at h3
    obtain ⟨e, he⟩ := Int.dvd_of_emod_eq_zero h3
    exact ⟨e, he.symm⟩
theorem ang_mem {n d : Int} (h : isAng n d = true) (h2 : 2 ≤ shortP d) : (n, d) ∈ angsOf (shortP d - 2) := by
  have hr := ang_red h
  obtain ⟨b1, b2, b3, b4, b5⟩ := hr
  dsimp only at b1 b2 b3 b4 b5
  obtain ⟨e, he⟩ := short_dvd (d := d) (by omega)
  have hle := shortP_le d
  obtain ⟨m, hm⟩ : ∃ m, shortP d = m + 2 := ⟨shortP d - 2, by omega⟩
  unfold angsOf
  rw [hm, show m + 2 - 2 = m by omega]
  rw [hm] at he
  have hP : (4 : Int) ≤ 2 ^ (m + 2) := by
    have : (1 : Int) ≤ 2 ^ m := by have := Int.pow_pos (n := 2) (m := m) (by omega); omega
    rw [Int.pow_succ, Int.pow_succ]; omega
  have hcast : (((2 ^ (m + 2) - 1 : Nat)) : Int) = 2 ^ (m + 2) - 1 := by
    have h1 : 1 ≤ 2 ^ (m + 2) := Nat.one_le_two_pow
    rw [Int.natCast_sub h1, Int.natCast_pow]; rfl
  have he0 : 0 < e := by
    rcases Int.lt_or_le 0 e with h | h
    · exact h
    · have := Int.mul_nonneg (show 0 ≤ d by omega) (show 0 ≤ -e by omega)
      rw [Int.mul_neg] at this; omega
  have k0 : 0 ≤ n * e := Int.mul_nonneg b3 (by omega)
  have k1 : n * e < d * e := Int.mul_lt_mul_of_pos_right b4 he0
  have hd0 : redN n d = n ∧ redD n d = d := by
    unfold redN redD
    rw [Int.emod_eq_of_lt b3 b4, b5]; simp
  have hred := red_same (n := n * e) (d := d * e) (m := n) (c := d) k0 k1 b3 b4 (by rw [Int.mul_assoc, Int.mul_comm e d])
  obtain ⟨K, hK⟩ : ∃ K : Nat, (K : Int) = n * e := ⟨(n * e).toNat, by omega⟩
  have := angF_has (N := m + 2) (D := (((2 ^ (m + 2) - 1 : Nat)) : Int)) (K := 2 ^ (m + 2) - 1) (i := K) (by omega) (by rw [hK, hcast, ← he, hred.2, hd0.2]; exact hm)
  rw [hK, hcast, ← he, hred.1, hred.2, hd0.1, hd0.2, he, ← hcast] at this
  exact this
/-- The pair of an angle whose period is in the range. -/
theorem po_good {n d : Int} (h : isAng n d = true) (h2 : 2 ≤ shortP d) : ∃ q ∈ upK (shortP d - 1), inP (n, d) q.1 = true ∧ poP n d = q.1 ∧ okP q.1 = true ∧ shortP q.1.2.1 = shortP d ∧ shortP q.1.2.2.2 = shortP d := by
  have hle := shortP_le d
  have h3 : poP n d = findP (n, d) (upK (shortP d - 1)) := by unfold poP; simp [h, h2]
  have hmem := ang_mem h h2
  obtain ⟨j, hj, e⟩ := List.getElem_of_mem hmem
  have hat : at_ (angsOf (shortP d - 2)) j = (n, d) := by
    have := at_some hj
    rw [List.getElem?_eq_getElem hj, e] at this
    exact (Option.some.inj this).symm
  obtain ⟨p, hp, hpj⟩ := full_at (m := shortP d - 2) (by omega) hj
  have hup : upK (shortP d - 1) = plOf (upK (shortP d - 2)) (angsOf (shortP d - 2)) (shortP d - 2 + 2) (joinM (upK (shortP d - 2)) (angsOf (shortP d - 2)) (shortP d - 2 + 2)) := by
    rw [← upK_succ, show shortP d - 2 + 1 = shortP d - 1 by omega]
  have hq : (lfOf (at_ (angsOf (shortP d - 2)) p.1) (at_ (angsOf (shortP d - 2)) p.2), shortP d - 2 + 2) ∈ upK (shortP d - 1) := by
    rw [hup]
    unfold plOf
    exact List.mem_append_right _ (List.mem_map_of_mem hp)
  have hin : inP (n, d) (lfOf (at_ (angsOf (shortP d - 2)) p.1) (at_ (angsOf (shortP d - 2)) p.2)) = true := by
    rw [inP_iff]
    rcases hpj with e | e
    · exact .inl (by rw [e, hat]; rfl)
    · exact .inr (by rw [e, hat]; rfl)
  rcases findP_spec (n, d) (upK (shortP d - 1)) with ⟨_, hno⟩ | ⟨q, hq', h4, h5⟩
  · have := hno _ hq
    rw [hin] at this; cases this
  · have hper := upK_per (shortP d - 1) (by omega) q hq'
    have hs : shortP d = q.2 := by
      rcases (inP_iff _ _).1 h4 with e | e
      · have := congrArg Prod.snd e
        dsimp only at this
        rw [← this]; exact hper.2.2.1
      · have := congrArg Prod.snd e
        dsimp only at this
        rw [← this]; exact hper.2.2.2
    exact ⟨q, hq', h4, h3.trans h5, upK_ok _ (by omega) q hq', by rw [hs]; exact hper.2.2.1, by rw [hs]; exact hper.2.2.2⟩
end Go.Proofs.Ytnciiodgkanpjaa

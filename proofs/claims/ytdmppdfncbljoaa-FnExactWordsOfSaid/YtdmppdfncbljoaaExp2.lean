/-
  Plain mathematics: the digits along an orbit, ahead of the preperiod's end and behind it, are a sequence that is told in the one way.
-/
import Derived.Test.YtdmppdfncbljoaaExp
import Derived.Test.YtdmppdfncbljoaaS5
namespace Go.Proofs.Ytdmppdfncbljoaa
open Go.RowKit

theorem dg_tell {n d : Int} {a b : Nat} (h : dg n d a = dg n d b) : dgt (orb (n, d) a) = dgt (orb (n, d) b) := by
  unfold dg at h
  unfold dgt
  by_cases ha : (orb (n, d) a).2 ≤ 2 * (orb (n, d) a).1 <;> by_cases hb : (orb (n, d) b).2 ≤ 2 * (orb (n, d) b).1
  · rw [if_pos ha, if_pos hb]
  · rw [if_pos ha, if_neg hb] at h; cases h
  · rw [if_neg ha, if_pos hb] at h; cases h
  · rw [if_neg ha, if_neg hb]
theorem dg_same {n d : Int} {a b : Nat} (h : orb (n, d) a = orb (n, d) b) : dg n d a = dg n d b := by unfold dg; rw [h]
theorem spFrom_full (w : Wd) : ∀ f k, k + f = w.length → (∀ j, k ≤ j → j < w.length → ¬ (w.length % j = 0 ∧ perB w j = true)) → spFrom w f k = w.length
  | 0, _, _, _ => rfl
  | f + 1, k, e, h => by
    simp only [spFrom]
    rw [if_neg (h k (Nat.le_refl _) (by omega))]
    exact spFrom_full w f (k + 1) (by omega) fun j h1 h2 => h j (by omega) h2
theorem short_full {w : Wd} (h0 : 0 < w.length) (h : ∀ j, 1 ≤ j → j < w.length → ¬ (w.length % j = 0 ∧ perB w j = true)) : shortW w = w := by
  unfold shortW sp
  rw [spFrom_full w _ 1 (by omega) h, List.take_length]

theorem exp_canon {n d : Int} (h1 : isAng n d = true) {K : Nat} (hf : findOrb (n, d) 65 0 = some K) :
    canon (lw (dg n d) 0 (pre (n, d))) (lw (dg n d) (pre (n, d)) (K - pre (n, d))) = (lw (dg n d) 0 (pre (n, d)), lw (dg n d) (pre (n, d)) (K - pre (n, d))) := by
  have hp := ang_red h1
  have hK := find_le _ _ _ hf
  obtain ⟨hpk, ho⟩ := (hit_iff (n, d) K).1 hK.2.2.1
  have hmin := hK.2.2.2
  have hit0 : ∀ i, pre (n, d) < i → i < K → orb (n, d) i ≠ orb (n, d) (pre (n, d)) := fun i h1 h2 e => by
    have := hmin i (by omega) h2
    rw [(hit_iff (n, d) i).2 ⟨h1, e⟩] at this
    cases this
  have heven := fun i (hi : i < pre (n, d)) => orb_even hp hi
  have hodd := fun i (hi : pre (n, d) ≤ i) => (orb_den_odd hp i hi).2
  clear hK hmin hf
  generalize pre (n, d) = P at *
  obtain ⟨c, hc⟩ : ∃ c, K - P = c := ⟨_, rfl⟩
  obtain rfl : K = P + c := by omega
  rw [hc]
  have hc0 : 0 < c := by omega
  have hper : ∀ j, dg n d (P + j) = dg n d (P + j % c) := fun j => dg_same (orb_per ho j)
  have hlen := lw_len (dg n d) P c
  have hlen0 := lw_len (dg n d) 0 P
  have hshort : shortW (lw (dg n d) P c) = lw (dg n d) P c := by
    refine short_full (by omega) fun k hk1 hk2 => ?_
    rw [hlen] at hk2 ⊢
    rintro ⟨hd, hb⟩
    have hm := per_mod _ k (by omega) hb
    have hdv : k ∣ c := Nat.dvd_of_mod_eq_zero hd
    have hall : ∀ j, dg n d (P + j) = dg n d (P + j % k) := fun j => by
      have hj : j % c < c := Nat.mod_lt _ hc0
      have hjk : j % k < c := Nat.lt_trans (Nat.mod_lt _ (by omega)) hk2
      have a1 := hm (j % c) (by rw [hlen]; exact hj)
      rw [Nat.mod_mod_of_dvd _ hdv, lw_at _ _ _ hj, lw_at _ _ _ hjk] at a1
      rw [hper j, a1]
    refine hit0 (P + k) (by omega) (by omega) (orb_tell hp fun j => ?_)
    refine dg_tell ?_
    rw [Nat.add_assoc, hall (k + j), hall j, Nat.add_mod_left]
  unfold canon
  rw [hshort]
  refine rot_no ?_
  unfold turnB
  rw [hlen0, hlen]
  by_cases h0 : 0 < P
  · rw [lw_at _ _ _ (show P - 1 < P by omega), lw_at _ _ _ (show c - 1 < c by omega)]
    have hne : ¬ dg n d (0 + (P - 1)) = dg n d (P + (c - 1)) := fun e => by
      have e2 : orb (n, d) (P - 1) = orb (n, d) (P + (c - 1)) := orb_tell hp fun k => by
        cases k with
        | zero => rw [Nat.zero_add] at e; exact dg_tell e
        | succ k =>
          have a1 : P - 1 + (k + 1) = P + k := by omega
          have a2 : P + (c - 1) + (k + 1) = P + c + k := by omega
          rw [a1, a2, ← orb_add _ (P + c), ho, orb_add]
      have o1 := heven (P - 1) (by omega)
      have o2 := hodd (P + (c - 1)) (by omega)
      rw [e2] at o1
      omega
    rw [beq_eq_false_iff_ne.2 hne, Bool.and_false]
  · simp [h0]
end Go.Proofs.Ytdmppdfncbljoaa

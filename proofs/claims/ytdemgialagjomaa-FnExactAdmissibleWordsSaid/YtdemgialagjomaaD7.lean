/-
  Plain mathematics: what is told in the one way is so when it is shifted.
-/
import Derived.Test.YtdemgialagjomaaSeq
namespace Go.Proofs.Ytdemgialagjomaa
open Go.RowKit

theorem canon_parts {x y : Wd} (hy : 0 < y.length) (h : canon x y = (x, y)) : shortW y = y ∧ sp y = y.length ∧ turnB x y = false := by
  have h' : rotTo x.length x (shortW y) = (x, y) := h
  have hl := rot_len x.length x (shortW y)
  rw [h'] at hl
  have e1 : sp y = y.length := by have := hl.2; rw [shortW_len y hy] at this; exact this.symm
  have e2 : shortW y = y := by unfold shortW; rw [e1, List.take_length]
  refine ⟨e2, e1, ?_⟩
  rw [e2] at h'
  cases ht : turnB x y
  · rfl
  · rw [rot_yes ht] at h'
    have h2 := (rot_len (x.take (x.length - 1)).length (x.take (x.length - 1)) (turned y)).1
    rw [h'] at h2
    have h3 : 0 < x.length := by
      unfold turnB at ht
      simp only [Bool.and_eq_true, decide_eq_true_eq] at ht
      exact ht.1
    rw [List.length_take] at h2
    have h4 : x.length ≤ min (x.length - 1) x.length := h2
    omega
theorem drop_getD (y : Wd) (i : Nat) : (y.drop 1).getD i 0 = y.getD (i + 1) 0 := by
  simp
theorem canon_drop {x y : Wd} (hy : 0 < y.length) (h : canon x y = (x, y)) : canon (x.drop 1) y = (x.drop 1, y) := by
  obtain ⟨e1, _, e3⟩ := canon_parts hy h
  unfold canon
  rw [e1]
  refine rot_no ?_
  unfold turnB at e3 ⊢
  rw [List.length_drop, drop_getD]
  by_cases h1 : 1 < x.length
  · have h0 : decide (0 < x.length) = true := decide_eq_true (by omega)
    rw [h0, Bool.true_and] at e3
    rw [show x.length - 1 - 1 + 1 = x.length - 1 by omega, e3, Bool.and_false]
  · have h0 : decide (0 < x.length - 1) = false := decide_eq_false (by omega)
    rw [h0, Bool.false_and]
def rot1 (y : Wd) : Wd := y.drop 1 ++ y.take 1
theorem rot1_len (y : Wd) : (rot1 y).length = y.length := by unfold rot1; simp; omega
theorem rot1_at (y : Wd) (_ : 0 < y.length) {i : Nat} (hi : i + 1 < y.length) : (rot1 y).getD i 0 = y.getD (i + 1) 0 := by
  unfold rot1
  rw [gd_app, List.length_drop, if_pos (by omega), drop_getD]
theorem rot1_last (y : Wd) (_ : 0 < y.length) : (rot1 y).getD (y.length - 1) 0 = y.getD 0 0 := by
  unfold rot1
  rw [gd_app, List.length_drop, if_neg (by omega), Nat.sub_self]
  simp
theorem rot1_per (y : Wd) (hy : 0 < y.length) {j : Nat} (h1 : 1 ≤ j) (h2 : j < y.length) (hd : y.length % j = 0) (hp : perB (rot1 y) j = true) : perB y j = true := by
  have hm := per_mod (rot1 y) j (by omega) hp
  have hP := (perTo_iff (rot1 y) j (rot1 y).length).1 hp
  rw [rot1_len] at hm hP
  refine (perTo_iff y j y.length).2 fun i hji hi => ?_
  by_cases e : i = j
  · subst e
    rw [Nat.sub_self]
    have a1 := rot1_at y hy (i := i - 1) (by omega)
    rw [show i - 1 + 1 = i by omega] at a1
    have a2 := hm (y.length - 1) (by omega)
    have a3 : (y.length - 1) % i = i - 1 := by
      obtain ⟨q, hq⟩ : ∃ q, y.length = i * q := Nat.dvd_of_mod_eq_zero hd
      have hq0 : 0 < q := by
        rcases Nat.eq_zero_or_pos q with h | h
        · subst h; omega
        · exact h
      obtain ⟨p, rfl⟩ : ∃ p, q = p + 1 := ⟨q - 1, by omega⟩
      have : y.length - 1 = (i - 1) + i * p := by rw [hq, Nat.mul_add]; omega
      rw [this, Nat.add_mul_mod_self_left, Nat.mod_eq_of_lt (by omega)]
    rw [a3, rot1_last y hy] at a2
    rw [← a1, ← a2]
  · have a1 := rot1_at y hy (i := i - 1) (by omega)
    have a2 := rot1_at y hy (i := i - 1 - j) (by omega)
    rw [show i - 1 + 1 = i by omega] at a1
    rw [show i - 1 - j + 1 = i - j by omega] at a2
    rw [← a1, ← a2]
    exact hP (i - 1) (by omega) (by omega)
theorem spFrom_all (w : Wd) : ∀ f k, k + f = w.length → (∀ j, k ≤ j → j < w.length → ¬ (w.length % j = 0 ∧ perB w j = true)) → spFrom w f k = w.length
  | 0, _, _, _ => rfl
  | f + 1, k, e, h => by
    simp only [spFrom]
    rw [if_neg (h k (Nat.le_refl _) (by omega))]
    exact spFrom_all w f (k + 1) (by omega) fun j h1 h2 => h j (by omega) h2
theorem spFrom_low (w : Wd) : ∀ f k, k + f = w.length → spFrom w f k = w.length → ∀ j, k ≤ j → j < w.length → ¬ (w.length % j = 0 ∧ perB w j = true)
  | 0, k, e, _, j, h1, h2 => by omega
  | f + 1, k, e, h, j, h1, h2 => by
    simp only [spFrom] at h
    split at h
    · omega
    · next hn =>
      by_cases ej : j = k
      · subst ej; exact hn
      · exact spFrom_low w f (k + 1) (by omega) h j (by omega) h2
theorem canon_rot {y : Wd} (hy : 0 < y.length) (h : canon [] y = ([], y)) : canon [] (rot1 y) = ([], rot1 y) := by
  obtain ⟨_, e2, _⟩ := canon_parts hy h
  have hl := rot1_len y
  have hs : sp (rot1 y) = (rot1 y).length := by
    unfold sp
    refine spFrom_all (rot1 y) _ 1 (by omega) fun j h1 h2 => ?_
    rintro ⟨hd, hp⟩
    rw [hl] at h2 hd
    exact spFrom_low y _ 1 (by omega) e2 j h1 h2 ⟨hd, rot1_per y hy h1 h2 hd hp⟩
  show rotTo 0 [] (shortW (rot1 y)) = ([], rot1 y)
  have : shortW (rot1 y) = rot1 y := by unfold shortW; rw [hs, List.take_length]
  rw [this]
  rfl
end Go.Proofs.Ytdemgialagjomaa

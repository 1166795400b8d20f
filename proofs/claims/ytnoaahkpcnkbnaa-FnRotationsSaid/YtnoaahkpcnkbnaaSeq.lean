/-
  Plain mathematics: words, their shortest periods, sequences told in the one way. No program in sight.
-/
import Derived.WalkKit
import Derived.Lib.Repeat
namespace Go.Proofs.Ytnoaahkpcnkbnaa
open Go.RowKit

abbrev Wd := List UInt8

/-- Up to place i the word is the one that is shifted by k. -/
def perTo (w : Wd) (k i : Nat) : Bool := (List.range i).all fun j => decide (j < k) || (w.getD j 0 == w.getD (j - k) 0)
def perB (w : Wd) (k : Nat) : Bool := perTo w k w.length
theorem perTo_succ (w : Wd) (k i : Nat) : perTo w k (i + 1) = (perTo w k i && (decide (i < k) || (w.getD i 0 == w.getD (i - k) 0))) := by
  unfold perTo; rw [List.range_succ, List.all_append]; simp
theorem perTo_self (w : Wd) (k : Nat) : ∀ i, i ≤ k → perTo w k i = true := by
  intro i hi
  unfold perTo
  rw [List.all_eq_true]
  intro j hj
  have := List.mem_range.1 hj
  simp; omega
theorem perTo_iff (w : Wd) (k i : Nat) : perTo w k i = true ↔ ∀ j, k ≤ j → j < i → w.getD j 0 = w.getD (j - k) 0 := by
  unfold perTo
  rw [List.all_eq_true]
  constructor
  · intro h j h1 h2
    have := h j (List.mem_range.2 h2)
    simp only [Bool.or_eq_true, decide_eq_true_eq, beq_iff_eq] at this
    rcases this with h3 | h3
    · omega
    · exact h3
  · intro h j hj
    have h2 := List.mem_range.1 hj
    simp only [Bool.or_eq_true, decide_eq_true_eq, beq_iff_eq]
    by_cases h1 : j < k
    · exact .inl h1
    · exact .inr (h j (by omega) h2)

theorem gd_app (a b : Wd) (j : Nat) : (a ++ b).getD j 0 = if j < a.length then a.getD j 0 else b.getD (j - a.length) 0 := by
  simp only [List.getD_eq_getElem?_getD]
  split
  · next h => rw [List.getElem?_append_left h]
  · next h => rw [List.getElem?_append_right (by omega)]
theorem gd_at (a : Wd) {j : Nat} (h : j < a.length) : a.getD j 0 = a[j] := by
  simp [List.getD_eq_getElem?_getD, h]
/-- A word taken several times, letter by letter. -/
theorem rep_getD (u : Wd) (hu : 0 < u.length) : ∀ (c j : Nat), j < c * u.length → (Lib.repeatL u c).getD j 0 = u.getD (j % u.length) 0
  | 0, j, h => by simp at h
  | c + 1, j, h => by
    simp only [Lib.repeatL]
    by_cases hj : j < u.length
    · rw [gd_app, if_pos hj, Nat.mod_eq_of_lt hj]
    · rw [gd_app, if_neg hj, rep_getD u hu c (j - u.length) (by rw [Nat.succ_mul] at h; omega), ← Nat.mod_eq_sub_mod (a := j) (by omega)]
theorem per_mod (w : Wd) (k : Nat) (hk : 0 < k) (h : perB w k = true) : ∀ j, j < w.length → w.getD j 0 = w.getD (j % k) 0 := by
  intro j
  induction j using Nat.strongRecOn with
  | ind j ih =>
    intro hj
    by_cases hlt : j < k
    · rw [Nat.mod_eq_of_lt hlt]
    · rw [(perTo_iff w k w.length).1 h j (by omega) hj, ih (j - k) (by omega) (by omega), ← Nat.mod_eq_sub_mod (by omega)]
theorem ext_getD {a b : Wd} (hl : a.length = b.length) (h : ∀ j, j < a.length → a.getD j 0 = b.getD j 0) : a = b := by
  refine List.ext_getElem hl fun i h1 h2 => ?_
  have := h i h1
  rw [gd_at _ h1, gd_at _ h2] at this
  exact this
/-- The word is its first k letters, taken several times: as the program asks it, and as the model does. -/
theorem rep_iff (w : Wd) (k : Nat) (hk : 0 < k) (hle : k ≤ w.length) (hd : w.length % k = 0) :
    (Lib.repeatL (w.take k) (w.length / k) == w) = perB w k := by
  have hl : (w.take k).length = k := by simp; omega
  have hq : w.length / k * k = w.length := Nat.div_mul_cancel (Nat.dvd_of_mod_eq_zero hd)
  have hlen : (Lib.repeatL (w.take k) (w.length / k)).length = w.length := by rw [Lib.repeatL_length, hl, hq]
  have tk : ∀ j, j < k → (w.take k).getD j 0 = w.getD j 0 := fun j hj => by
    rw [List.getD_eq_getElem?_getD, List.getElem?_take_of_lt hj, ← List.getD_eq_getElem?_getD]
  rw [Bool.eq_iff_iff, beq_iff_eq]
  constructor
  · intro e
    rw [perB, perTo_iff]
    intro j h1 h2
    have f : ∀ i, i < w.length → w.getD i 0 = w.getD (i % k) 0 := fun i hi => by
      have := rep_getD (w.take k) (by omega) (w.length / k) i (by rw [hl, hq]; exact hi)
      rw [e, hl, tk _ (Nat.mod_lt _ hk)] at this
      exact this
    rw [f j h2, f (j - k) (by omega), ← Nat.mod_eq_sub_mod (by omega)]
  · intro h
    refine ext_getD hlen fun j hj => ?_
    rw [rep_getD _ (by omega) _ j (by rw [hl, hq]; omega), hl, tk _ (Nat.mod_lt _ hk), per_mod w k hk h j (by omega)]
theorem per_len (w : Wd) : perB w w.length = true := perTo_self w _ _ (Nat.le_refl _)

/-- The shortest period that divides the length. -/
def spFrom (w : Wd) : Nat → Nat → Nat
  | 0, _ => w.length
  | f + 1, k => if w.length % k = 0 ∧ perB w k = true then k else spFrom w f (k + 1)
def sp (w : Wd) : Nat := spFrom w (w.length - 1) 1
theorem spFrom_le (w : Wd) : ∀ f k, 0 < w.length → k + f = w.length → 0 < k → 0 < spFrom w f k ∧ spFrom w f k ≤ w.length
  | 0, k, h, _, _ => ⟨h, Nat.le_refl _⟩
  | f + 1, k, h, e, hk => by
    simp only [spFrom]
    split
    · omega
    · exact spFrom_le w f (k + 1) h (by omega) (by omega)
theorem sp_le (w : Wd) (h : 0 < w.length) : 0 < sp w ∧ sp w ≤ w.length := spFrom_le w _ 1 h (by omega) (by omega)
def shortW (w : Wd) : Wd := w.take (sp w)
theorem shortW_len (w : Wd) (h : 0 < w.length) : (shortW w).length = sp w := by unfold shortW; have := sp_le w h; simp; omega

/-- The letters at the ends agree: the word that is repeated is turned, and the one ahead loses its last letter. -/
def turnB (pre per : Wd) : Bool := decide (0 < pre.length) && (pre.getD (pre.length - 1) 0 == per.getD (per.length - 1) 0)
def turned (per : Wd) : Wd := per.drop (per.length - 1) ++ per.take (per.length - 1)
theorem turned_len (per : Wd) : (turned per).length = per.length := by unfold turned; simp <;> omega
def rotTo : Nat → Wd → Wd → Wd × Wd
  | 0, pre, per => (pre, per)
  | f + 1, pre, per => if turnB pre per = true then rotTo f (pre.take (pre.length - 1)) (turned per) else (pre, per)
def canon (pre per : Wd) : Wd × Wd := rotTo pre.length pre (shortW per)
theorem rot_yes {pre per : Wd} (h : turnB pre per = true) : rotTo pre.length pre per = rotTo (pre.take (pre.length - 1)).length (pre.take (pre.length - 1)) (turned per) := by
  have h0 : 0 < pre.length := by unfold turnB at h; rw [Bool.and_eq_true, decide_eq_true_eq] at h; exact h.1
  have e : (pre.take (pre.length - 1)).length = pre.length - 1 := by simp
  rw [e]
  obtain ⟨n, hn⟩ : ∃ n, pre.length = n + 1 := ⟨pre.length - 1, by omega⟩
  have e2 : pre.length - 1 = n := by omega
  rw [e2, hn]
  simp only [rotTo, h, if_true, e2]
theorem rot_no {pre per : Wd} (h : turnB pre per = false) : rotTo pre.length pre per = (pre, per) := by
  cases hp : pre.length with
  | zero => rfl
  | succ n => simp [rotTo, h]
theorem rot_len : ∀ (f : Nat) (pre per : Wd), (rotTo f pre per).1.length ≤ pre.length ∧ (rotTo f pre per).2.length = per.length
  | 0, pre, per => ⟨Nat.le_refl _, rfl⟩
  | f + 1, pre, per => by
    simp only [rotTo]
    split
    · have := rot_len f (pre.take (pre.length - 1)) (turned per)
      rw [turned_len] at this
      refine ⟨?_, this.2⟩
      have h2 := this.1
      simp at h2
      omega
    · exact ⟨Nat.le_refl _, rfl⟩
theorem canon_len (pre per : Wd) (h : 0 < per.length) : (canon pre per).1.length ≤ pre.length ∧ 0 < (canon pre per).2.length ∧ (canon pre per).2.length ≤ per.length := by
  have := rot_len pre.length pre (shortW per)
  have h2 := sp_le per h
  rw [shortW_len per h] at this
  unfold canon
  omega

/-- Only letters of sequences. -/
def isLet (c : UInt8) : Bool := c == 48 || c == 49 || c == 42
def lets (w : Wd) : Bool := w.all isLet
/-- A sequence, as it is told. -/
def isSeq (pre per : Wd) : Bool := lets pre && lets per && decide (0 < per.length) && decide (pre.length + per.length ≤ 64) && (canon pre per == (pre, per))
theorem isSeq_yes {pre per : Wd} (h : isSeq pre per = true) : lets pre = true ∧ lets per = true ∧ 0 < per.length ∧ pre.length + per.length ≤ 64 ∧ canon pre per = (pre, per) := by
  unfold isSeq at h
  simp only [Bool.and_eq_true, decide_eq_true_eq, beq_iff_eq] at h
  exact ⟨h.1.1.1.1, h.1.1.1.2, h.1.1.2, h.1.2, h.2⟩
end Go.Proofs.Ytnoaahkpcnkbnaa

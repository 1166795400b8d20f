/-
  Plain mathematics: shifts of sequences, letter by letter; a sequence is told by its letters.
-/
import Derived.Test.YtdemgialagjomaaD7
namespace Go.Proofs.Ytdemgialagjomaa
open Go.RowKit

/-- The letter with the number k. -/
def atL (x y : Wd) (k : Nat) : UInt8 := if k < x.length then x.getD k 0 else y.getD ((k - x.length) % y.length) 0
def rotN (t : Nat) (y : Wd) : Wd := y.drop t ++ y.take t
theorem rotN_len (t : Nat) (y : Wd) : (rotN t y).length = y.length := by unfold rotN; simp; omega
theorem rotN_zero (y : Wd) : rotN 0 y = y := by unfold rotN; simp
theorem rot1_is (y : Wd) : rot1 y = rotN 1 y := rfl
theorem drop_gd (y : Wd) (t i : Nat) : (y.drop t).getD i 0 = y.getD (t + i) 0 := by simp [List.getD_eq_getElem?_getD]
theorem take_gd (y : Wd) {t i : Nat} (h : i < t) : (y.take t).getD i 0 = y.getD i 0 := by
  rw [List.getD_eq_getElem?_getD, List.getElem?_take_of_lt h, ← List.getD_eq_getElem?_getD]
theorem rotN_at {y : Wd} {t i : Nat} (ht : t ≤ y.length) (hi : i < y.length) : (rotN t y).getD i 0 = y.getD ((t + i) % y.length) 0 := by
  unfold rotN
  rw [gd_app, List.length_drop]
  by_cases h : i < y.length - t
  · rw [if_pos h, drop_gd, Nat.mod_eq_of_lt (by omega)]
  · have e : (t + i) % y.length = i - (y.length - t) := by
      rw [Nat.mod_eq_sub_mod (by omega), Nat.mod_eq_of_lt (by omega)]; omega
    rw [if_neg h, take_gd _ (by omega), e]
theorem mod_lt' {a n : Nat} (h : 0 < n) : a % n ≤ n := Nat.le_of_lt (Nat.mod_lt _ h)
theorem rotN_succ {y : Wd} (hy : 0 < y.length) {t : Nat} (ht : t < y.length) : rot1 (rotN t y) = rotN ((t + 1) % y.length) y := by
  refine ext_getD (by rw [rot1_len, rotN_len, rotN_len]) fun i hi => ?_
  rw [rot1_len, rotN_len] at hi
  rw [rot1_is, rotN_at (by rw [rotN_len]; omega) (by rw [rotN_len]; exact hi), rotN_len, rotN_at (Nat.le_of_lt ht) (Nat.mod_lt _ hy), rotN_at (mod_lt' hy) hi]
  congr 1
  rw [Nat.add_mod_mod, Nat.mod_add_mod]
  congr 1
  omega
/-- What k shifts make of a sequence. -/
def shQ (k : Nat) (x y : Wd) : Wd × Wd := if k < x.length then (x.drop k, y) else ([], rotN ((k - x.length) % y.length) y)
def stepQ (p : Wd × Wd) : Wd × Wd := if 0 < p.1.length then (p.1.drop 1, p.2) else ([], rot1 p.2)
theorem shQ_zero {x y : Wd} (_ : 0 < y.length) : shQ 0 x y = (x, y) := by
  unfold shQ
  split
  · simp
  · next h =>
    have : x = [] := List.length_eq_zero_iff.1 (by omega)
    subst this
    simp [rotN_zero]
theorem shQ_succ {x y : Wd} (hy : 0 < y.length) (k : Nat) : stepQ (shQ k x y) = shQ (k + 1) x y := by
  by_cases h : k < x.length
  · have e1 : shQ k x y = (x.drop k, y) := by unfold shQ; rw [if_pos h]
    rw [e1]
    unfold stepQ
    dsimp only
    rw [if_pos (by rw [List.length_drop]; omega), List.drop_drop]
    unfold shQ
    by_cases h2 : k + 1 < x.length
    · rw [if_pos h2]
    · have : k + 1 = x.length := by omega
      rw [if_neg h2, this, Nat.sub_self, Nat.zero_mod, rotN_zero, List.drop_length]
  · have e1 : shQ k x y = ([], rotN ((k - x.length) % y.length) y) := by unfold shQ; rw [if_neg h]
    rw [e1]
    unfold stepQ
    dsimp only
    rw [if_neg (by simp), rotN_succ hy (Nat.mod_lt _ hy)]
    unfold shQ
    rw [if_neg (by omega), Nat.mod_add_mod, show k - x.length + 1 = k + 1 - x.length by omega]
theorem shQ_len {x y : Wd} (k : Nat) : (shQ k x y).2.length = y.length ∧ (shQ k x y).1.length ≤ x.length := by
  unfold shQ
  split
  · exact ⟨rfl, by simp⟩
  · exact ⟨rotN_len _ _, by simp⟩
theorem sh_at {x y : Wd} (hy : 0 < y.length) (k j : Nat) : atL (shQ k x y).1 (shQ k x y).2 j = atL x y (k + j) := by
  by_cases h : k < x.length
  · have e1 : shQ k x y = (x.drop k, y) := by unfold shQ; rw [if_pos h]
    rw [e1]
    unfold atL
    dsimp only
    rw [List.length_drop, drop_gd]
    by_cases h2 : k + j < x.length
    · rw [if_pos (by omega), if_pos h2]
    · rw [if_neg (by omega), if_neg h2, show j - (x.length - k) = k + j - x.length by omega]
  · have e1 : shQ k x y = ([], rotN ((k - x.length) % y.length) y) := by unfold shQ; rw [if_neg h]
    rw [e1]
    unfold atL
    dsimp only
    rw [if_neg (by simp), if_neg (by omega), List.length_nil, Nat.sub_zero, rotN_len, rotN_at (mod_lt' hy) (Nat.mod_lt _ hy), Nat.add_mod_mod, Nat.mod_add_mod, show k - x.length + j = k + j - x.length by omega]
theorem step_seq {p : Wd × Wd} (h : isSeq p.1 p.2 = true) : isSeq (stepQ p).1 (stepQ p).2 = true := by
  obtain ⟨h1, h2, h3, h4, h5⟩ := isSeq_yes h
  rw [isSeq]
  simp only [Bool.and_eq_true, decide_eq_true_eq, beq_iff_eq]
  unfold stepQ
  unfold lets at h1 h2 ⊢
  rw [List.all_eq_true] at h1 h2
  split
  · refine ⟨⟨⟨⟨?_, ?_⟩, h3⟩, ?_⟩, canon_drop h3 h5⟩
    · rw [List.all_eq_true]; exact fun c hc => h1 c (List.mem_of_mem_drop hc)
    · rw [List.all_eq_true]; exact h2
    · show (p.1.drop 1).length + p.2.length ≤ 64; rw [List.length_drop]; omega
  · next hx =>
    have e : p.1 = [] := List.length_eq_zero_iff.1 (by omega)
    rw [e] at h5
    refine ⟨⟨⟨⟨rfl, ?_⟩, by rw [rot1_len]; exact h3⟩, by rw [rot1_len]; simp; omega⟩, canon_rot h3 h5⟩
    rw [List.all_eq_true]
    intro c hc
    unfold rot1 at hc
    rcases List.mem_append.1 hc with hc | hc
    · exact h2 c (List.mem_of_mem_drop hc)
    · exact h2 c (List.mem_of_mem_take hc)
theorem sh_seq {x y : Wd} (h : isSeq x y = true) : ∀ k, isSeq (shQ k x y).1 (shQ k x y).2 = true
  | 0 => by rw [shQ_zero (isSeq_yes h).2.2.1]; exact h
  | k + 1 => by rw [← shQ_succ (isSeq_yes h).2.2.1]; exact step_seq (sh_seq h k)

theorem tail_mul {f : Nat → UInt8} {M p : Nat} (h : ∀ j, M ≤ j → f (j + p) = f j) : ∀ (q j : Nat), M ≤ j → f (j + p * q) = f j
  | 0, j, _ => by simp
  | q + 1, j, hj => by rw [Nat.mul_succ, ← Nat.add_assoc, h _ (by omega), tail_mul h q j hj]
theorem tail_gcd {f : Nat → UInt8} {M : Nat} (p q : Nat) : (∀ j, M ≤ j → f (j + p) = f j) → (∀ j, M ≤ j → f (j + q) = f j) → ∀ j, M ≤ j → f (j + Nat.gcd p q) = f j := by
  induction p, q using Nat.gcd.induction with
  | H0 q => intro _ h2; simpa using h2
  | H1 p q _ ih =>
    intro h1 h2
    rw [Nat.gcd_rec]
    refine ih (fun j hj => ?_) h1
    have e := tail_mul h1 (q / p) (j + q % p) (by omega)
    rw [Nat.add_assoc, Nat.mod_add_div] at e
    rw [← e]; exact h2 j hj
theorem at_per {x y : Wd} {j : Nat} (hj : x.length ≤ j) : atL x y (j + y.length) = atL x y j := by
  unfold atL
  rw [if_neg (by omega), if_neg (by omega), show j + y.length - x.length = j - x.length + y.length by omega, Nat.add_mod_right]
theorem at_low {x y : Wd} {i : Nat} (hi : i < y.length) : atL x y (x.length + i) = y.getD i 0 := by
  unfold atL
  rw [if_neg (by omega), show x.length + i - x.length = i by omega, Nat.mod_eq_of_lt hi]
/-- A period of the tail that divides the length is the length. -/
theorem prim_is {x y : Wd} (hy : 0 < y.length) (h : sp y = y.length) {M g : Nat} (hg : 0 < g) (hd : y.length % g = 0) (ht : ∀ j, M ≤ j → atL x y (j + g) = atL x y j) : g = y.length := by
  have hle : g ≤ y.length := Nat.le_of_dvd hy (Nat.dvd_of_mod_eq_zero hd)
  rcases Nat.lt_or_ge g y.length with hlt | hge
  · refine absurd ⟨hd, ?_⟩ (spFrom_low y _ 1 (by omega) h g (by omega) hlt)
    refine (perTo_iff y g y.length).2 fun j h1 h2 => ?_
    have hall : ∀ q, atL x y (x.length + j + y.length * q) = y.getD j 0 ∧ atL x y (x.length + (j - g) + y.length * q) = y.getD (j - g) 0 := fun q =>
      ⟨by rw [tail_mul (M := x.length) (fun j hj => at_per hj) q _ (by omega), at_low h2], by rw [tail_mul (M := x.length) (fun j hj => at_per hj) q _ (by omega), at_low (by omega)]⟩
    obtain ⟨e1, e2⟩ := hall M
    have hM : M ≤ y.length * M := Nat.le_mul_of_pos_left M hy
    have e3 := ht (x.length + (j - g) + y.length * M) (by omega)
    rw [show x.length + (j - g) + y.length * M + g = x.length + j + y.length * M by omega] at e3
    rw [← e1, ← e2, e3]
  · omega
theorem pre_le {x y x' y' : Wd} (hy : 0 < y.length) (hl : y.length = y'.length) (ht : turnB x' y' = false) (h : ∀ j, atL x y j = atL x' y' j) : x'.length ≤ x.length := by
  rcases Nat.lt_or_ge x.length x'.length with hlt | hge
  · have h1 : atL x' y' (x'.length - 1) = x'.getD (x'.length - 1) 0 := by unfold atL; rw [if_pos (by omega)]
    have h2 : atL x' y' (x'.length + (y'.length - 1)) = y'.getD (y'.length - 1) 0 := at_low (by omega)
    have h3 := at_per (x := x) (y := y) (j := x'.length - 1) (by omega)
    rw [h, h, show x'.length - 1 + y.length = x'.length + (y'.length - 1) by omega, h1, h2] at h3
    unfold turnB at ht
    rw [decide_eq_true (show 0 < x'.length by omega), h3] at ht
    simp at ht
  · exact hge
/-- Two sequences with the same letters are one. -/
theorem seq_one {x y x' y' : Wd} (h1 : isSeq x y = true) (h2 : isSeq x' y' = true) (h : ∀ j, atL x y j = atL x' y' j) : x = x' ∧ y = y' := by
  obtain ⟨-, -, a3, -, a5⟩ := isSeq_yes h1
  obtain ⟨-, -, b3, -, b5⟩ := isSeq_yes h2
  obtain ⟨-, p1, p2⟩ := canon_parts a3 a5
  obtain ⟨-, q1, q2⟩ := canon_parts b3 b5
  have t1 : ∀ j, max x.length x'.length ≤ j → atL x y (j + y.length) = atL x y j := fun j hj => at_per (by omega)
  have t2 : ∀ j, max x.length x'.length ≤ j → atL x y (j + y'.length) = atL x y j := fun j hj => by rw [h, h]; exact at_per (by omega)
  have tg := tail_gcd y.length y'.length t1 t2
  have hg : 0 < Nat.gcd y.length y'.length := Nat.gcd_pos_of_pos_left _ a3
  have e1 := prim_is a3 p1 hg (Nat.mod_eq_zero_of_dvd (Nat.gcd_dvd_left _ _)) tg
  have e2 := prim_is (x := x') b3 q1 hg (Nat.mod_eq_zero_of_dvd (Nat.gcd_dvd_right _ _)) (M := max x.length x'.length) (fun j hj => by rw [← h, ← h]; exact tg j hj)
  have hl : y.length = y'.length := e1.symm.trans e2
  have l1 := pre_le a3 hl q2 h
  have l2 := pre_le b3 hl.symm p2 (fun j => (h j).symm)
  have hxl : x.length = x'.length := by omega
  refine ⟨ext_getD hxl fun j hj => ?_, ext_getD hl fun j hj => ?_⟩
  · have := h j
    unfold atL at this
    rwa [if_pos hj, if_pos (by omega)] at this
  · have := h (x.length + j)
    rw [at_low hj, hxl, at_low (by omega)] at this
    exact this
/-- Letters that agree as far as both could differ agree for ever. -/
theorem at_far {x y x' y' : Wd} (hy : 0 < y.length) (hy' : 0 < y'.length) (h : ∀ j, j < max x.length x'.length + y.length * y'.length → atL x y j = atL x' y' j) : ∀ j, atL x y j = atL x' y' j := by
  intro j
  have hp : 0 < y.length * y'.length := Nat.mul_pos hy hy'
  rcases Nat.lt_or_ge j (max x.length x'.length) with hlt | hge
  · exact h j (by omega)
  · have e : j = (max x.length x'.length + (j - max x.length x'.length) % (y.length * y'.length)) + (y.length * y'.length) * ((j - max x.length x'.length) / (y.length * y'.length)) := by
      have := Nat.mod_add_div (j - max x.length x'.length) (y.length * y'.length)
      omega
    have hm := Nat.mod_lt (j - max x.length x'.length) hp
    have u1 := tail_mul (f := atL x y) (M := x.length) (p := y.length * y'.length) (fun i hi => tail_mul (M := x.length) (fun i hi => at_per hi) y'.length i hi) ((j - max x.length x'.length) / (y.length * y'.length)) (max x.length x'.length + (j - max x.length x'.length) % (y.length * y'.length)) (by omega)
    have u2 := tail_mul (f := atL x' y') (M := x'.length) (p := y.length * y'.length) (fun i hi => by rw [Nat.mul_comm]; exact tail_mul (M := x'.length) (fun i hi => at_per hi) y.length i hi) ((j - max x.length x'.length) / (y.length * y'.length)) (max x.length x'.length + (j - max x.length x'.length) % (y.length * y'.length)) (by omega)
    rw [← e] at u1 u2
    rw [u1, u2]
    exact h _ (by omega)
end Go.Proofs.Ytdemgialagjomaa

/-
  Plain mathematics: the period of an angle whose Den is odd; the angles of a period. No program in sight.
-/
import Derived.Test.YtabddjfgbhnldaaWO
namespace Go.Proofs.Ytabddjfgbhnldaa
open Go.RowKit

/-- Whether d divides 2^n - 1. -/
def divs (d : Int) (n : Nat) : Bool := ((2 : Int) ^ n - 1) % d == 0
/-- The first such n from k on, looked for so often; else 0. -/
def shortF (d : Int) : Nat → Nat → Nat
  | 0, _ => 0
  | f + 1, k => if divs d k then k else shortF d f (k + 1)
def shortP (d : Int) : Nat := shortF d 8 1
theorem shortF_spec (d : Int) : ∀ f k, (shortF d f k = 0 ∧ ∀ j, k ≤ j → j < k + f → divs d j = false) ∨ (k ≤ shortF d f k ∧ shortF d f k < k + f ∧ divs d (shortF d f k) = true ∧ ∀ j, k ≤ j → j < shortF d f k → divs d j = false)
  | 0, k => .inl ⟨rfl, fun j h1 h2 => absurd h1 (by omega)⟩
  | f + 1, k => by
    cases h : divs d k
    · have e : shortF d (f + 1) k = shortF d f (k + 1) := by simp [shortF, h]
      rw [e]
      rcases shortF_spec d f (k + 1) with ⟨h1, h2⟩ | ⟨h1, h2, h3, h4⟩
      · refine .inl ⟨h1, fun j a b => ?_⟩
        by_cases hj : j = k
        · subst hj; exact h
        · exact h2 j (by omega) (by omega)
      · refine .inr ⟨by omega, by omega, h3, fun j a b => ?_⟩
        by_cases hj : j = k
        · subst hj; exact h
        · exact h4 j (by omega) b
    · have e : shortF d (f + 1) k = k := by simp [shortF, h]
      rw [e]
      exact .inr ⟨by omega, by omega, h, fun j a b => absurd a (by omega)⟩
theorem shortP_le (d : Int) : shortP d ≤ 8 := by
  rcases shortF_spec d 8 1 with ⟨h, _⟩ | ⟨_, h, _⟩
  · unfold shortP; omega
  · unfold shortP; omega

theorem dbl_mod (a m : Int) : (2 * (a % m)) % m = (2 * a) % m := by
  have e := Int.emod_add_mul_ediv a m
  have : 2 * a = 2 * (a % m) + m * (2 * (a / m)) := by
    rw [← Int.mul_assoc, Int.mul_comm m 2, Int.mul_assoc]
    omega
  rw [this, Int.add_mul_emod_self_left]
theorem orb_odd {p : Int × Int} (h : Red p) (ho : p.2 % 2 = 1) : ∀ k, orb p k = ((2 ^ k * p.1) % p.2, p.2)
  | 0 => by
    have := Int.emod_eq_of_lt h.2.2.1 h.2.2.2.1
    simp [orb, this]
  | k + 1 => by
    have ih := orb_odd h ho k
    have hr := orb_red h k
    show dbl (orb p k) = _
    rw [dbl_odd hr (by rw [ih]; exact ho), ih]
    dsimp only
    rw [dbl_mod, ← Int.mul_assoc, Int.pow_succ, Int.mul_comm 2 (2 ^ k)]
theorem orb_back {p : Int × Int} (h : Red p) (ho : p.2 % 2 = 1) (k : Nat) : orb p k = p ↔ divs p.2 k = true := by
  rw [orb_odd h ho k]
  obtain ⟨h1, h2, h3, h4, h5⟩ := h
  have e0 := Int.emod_eq_of_lt h3 h4
  have key : (2 ^ k * p.1) % p.2 = p.1 ↔ p.2 ∣ (2 ^ k - 1) * p.1 := by
    constructor
    · intro e
      have e2 : (2 ^ k * p.1) % p.2 = p.1 % p.2 := e.trans e0.symm
      have := Int.emod_eq_emod_iff_emod_sub_eq_zero.1 e2
      rw [Int.sub_mul, Int.one_mul]
      exact Int.dvd_of_emod_eq_zero this
    · intro hd
      have h0 : (2 ^ k * p.1 - p.1) % p.2 = 0 := by
        rw [Int.sub_mul, Int.one_mul] at hd
        exact Int.emod_eq_zero_of_dvd hd
      have := Int.emod_eq_emod_iff_emod_sub_eq_zero.2 h0
      rw [this]; exact e0
  have cop : p.2 ∣ (2 ^ k - 1) * p.1 ↔ p.2 ∣ (2 ^ k - 1) := by
    constructor
    · intro hd
      have hc : Nat.Coprime p.2.natAbs p.1.natAbs := by
        unfold gcdI at h5
        rw [Int.gcd_eq_natAbs_gcd_natAbs] at h5
        unfold Nat.Coprime
        rw [Nat.gcd_comm]; omega
      have := Int.natAbs_dvd_natAbs.2 hd
      rw [Int.natAbs_mul] at this
      exact Int.natAbs_dvd_natAbs.1 (hc.dvd_of_dvd_mul_right this)
    · intro hd; exact Int.dvd_trans hd (Int.dvd_mul_right ..)
  unfold divs
  rw [beq_iff_eq]
  constructor
  · intro e
    exact Int.emod_eq_zero_of_dvd (cop.1 (key.1 (congrArg Prod.fst e)))
  · intro e
    have := key.2 (cop.2 (Int.dvd_of_emod_eq_zero e))
    rw [this]

/-- The period that the model tells: 0 for a preperiod, or an orbit that is too long. -/
def perS (p : Int × Int) : Nat := match findOrb p 65 0 with | some k => if pre p = 0 then k else 0 | none => 0
theorem find_some3 {p : Int × Int} : ∀ (f j k : Nat), j ≤ k → k < j + f → hit p k = true → (∀ i, j ≤ i → i < k → hit p i = false) → findOrb p f j = some k
  | 0, j, k, h1, h2, _, _ => absurd h1 (by omega)
  | f + 1, j, k, h1, h2, h3, h4 => by
    by_cases e : j = k
    · subst e; simp [findOrb, h3]
    · have := h4 j (by omega) (by omega)
      simp only [findOrb, this]
      exact find_some3 f (j + 1) k (by omega) (by omega) h3 (fun i a b => h4 i (by omega) b)
theorem eqA_iff3 (a b c d : Int) : eqA a b c d = true ↔ a = c ∧ b = d := by simp [eqA]
theorem hit_odd {p : Int × Int} (h : Red p) (ho : p.2 % 2 = 1) (k : Nat) : hit p k = true ↔ 1 ≤ k ∧ divs p.2 k = true := by
  have e : pre p = 0 := twos_odd 14 p.2 (by omega)
  unfold hit
  rw [e, ← orb_back h ho k, Bool.and_eq_true, eqA_iff3, decide_eq_true_iff]
  constructor
  · rintro ⟨a, b, c⟩; exact ⟨a, Prod.ext b c⟩
  · rintro ⟨a, b⟩; rw [b]; exact ⟨a, rfl, rfl⟩
theorem divs_even {d : Int} (he : d % 2 = 0) {k : Nat} (hk : 1 ≤ k) : divs d k = false := by
  unfold divs
  rw [beq_eq_false_iff_ne]
  intro e
  have hd := Int.dvd_of_emod_eq_zero e
  have h2 : (2 : Int) ∣ 2 ^ k - 1 := Int.dvd_trans (Int.dvd_of_emod_eq_zero he) hd
  obtain ⟨m, rfl⟩ : ∃ m, k = m + 1 := ⟨k - 1, by omega⟩
  rw [Int.pow_succ] at h2
  omega
theorem per_short {p : Int × Int} (h : Red p) {n : Nat} (hn : 1 ≤ n) (hn8 : n ≤ 8) : perS p = n ↔ shortP p.2 = n := by
  rcases (show p.2 % 2 = 1 ∨ p.2 % 2 = 0 by omega) with ho | he
  · have e : pre p = 0 := twos_odd 14 p.2 (by omega)
    constructor
    · intro hp
      unfold perS at hp
      rw [e] at hp
      cases hf : findOrb p 65 0 with
      | none => rw [hf] at hp; simp at hp; omega
      | some k =>
        rw [hf] at hp
        simp at hp
        subst hp
        obtain ⟨a, b, c, d⟩ := find_le _ _ _ hf
        have hc := ((hit_odd h ho k).1 c).2
        rcases shortF_spec p.2 8 1 with ⟨_, h2⟩ | ⟨h1, h2, h3, h4⟩
        · rw [h2 k hn (by omega)] at hc; cases hc
        · rcases Nat.lt_trichotomy (shortP p.2) k with hlt | heq | hgt
          · have := d (shortP p.2) (by omega) hlt
            have t2 : hit p (shortP p.2) = true := (hit_odd h ho _).2 ⟨h1, h3⟩
            rw [t2] at this
            cases this
          · exact heq
          · have t2 : divs p.2 k = false := h4 k hn hgt
            rw [t2] at hc; cases hc
    · intro hs
      have key : divs p.2 n = true ∧ ∀ j, 1 ≤ j → j < n → divs p.2 j = false := by
        rcases shortF_spec p.2 8 1 with ⟨h1, _⟩ | ⟨h1, h2, h3, h4⟩
        · unfold shortP at hs; omega
        · unfold shortP at hs; rw [hs] at h3 h4; exact ⟨h3, h4⟩
      have hf := find_some3 65 0 n (by omega) (by omega) ((hit_odd h ho n).2 ⟨hn, key.1⟩) (fun i _ hi => by
        cases hh : hit p i
        · rfl
        · obtain ⟨a, b⟩ := (hit_odd h ho i).1 hh
          rw [key.2 i a hi] at b; cases b)
      unfold perS
      rw [hf, e]; simp
  · have hp : pre p ≠ 0 := by
      unfold pre
      have : twos 14 p.2 = twos 13 (p.2 / 2) + 1 := by simp only [twos]; rw [if_pos he]
      omega
    have z1 : perS p = 0 := by
      unfold perS
      cases findOrb p 65 0 with
      | none => rfl
      | some k => simp [hp]
    have z2 : shortP p.2 = 0 := by
      rcases shortF_spec p.2 8 1 with ⟨h1, _⟩ | ⟨h1, _, h3, _⟩
      · exact h1
      · rw [divs_even he h1] at h3; cases h3
    rw [z1, z2]

theorem gcdI_quo (a b : Int) (hb : 0 < b) : gcdI (a / gcdI a b) (b / gcdI a b) = 1 := by
  have hp := gcdI_pos a b hb
  unfold gcdI at *
  have := Int.gcd_ediv_gcd_ediv_gcd (i := a) (j := b) (by omega)
  rw [this]; rfl
theorem redBd0 (n d : Int) (hd : 0 < d) : 0 ≤ redN n d ∧ redN n d < redD n d ∧ 1 ≤ redD n d ∧ redD n d ≤ d := by
  have h1 := Int.emod_nonneg n (b := d) (by omega)
  have h2 := Int.emod_lt_of_pos n hd
  have hp := gcdI_pos (n % d) d hd
  have d1 : gcdI (n % d) d ∣ n % d := by unfold gcdI; exact Int.gcd_dvd_left ..
  have d2 : gcdI (n % d) d ∣ d := by unfold gcdI; exact Int.gcd_dvd_right ..
  obtain ⟨x, hx⟩ := d1
  obtain ⟨y, hy⟩ := d2
  unfold redN redD
  generalize gcdI (n % d) d = g at *
  generalize n % d = r at *
  subst hx hy
  rw [Int.mul_ediv_cancel_left _ (by omega), Int.mul_ediv_cancel_left _ (by omega)]
  have p0 : 0 ≤ x := by
    rcases (show x < 0 ∨ 0 ≤ x by omega) with h | h
    · have := Int.mul_neg_of_pos_of_neg hp h; omega
    · exact h
  have p1 : x < y := Int.lt_of_mul_lt_mul_left h2 (by omega)
  refine ⟨p0, p1, by omega, ?_⟩
  have := Int.mul_le_mul_of_nonneg_right (show 1 ≤ g by omega) (show 0 ≤ y by omega)
  omega
theorem redRed0 {n m : Int} (hm : 0 < m) (h : m ≤ 8191) : Red (redN n m, redD n m) := by
  obtain ⟨t1, t2, t3, t4⟩ := redBd0 n m hm
  refine ⟨t3, by dsimp only; omega, t1, t2, ?_⟩
  dsimp only
  unfold redN redD
  exact gcdI_quo _ _ hm

/-- The angles k/D, of the period N, for k less than a bound. -/
def angStep (N : Nat) (D : Int) (k : Nat) : List (Int × Int) := if shortP (redD k D) = N then [(redN k D, redD k D)] else []
def angF (N : Nat) (D : Int) : Nat → List (Int × Int)
  | 0 => []
  | k + 1 => angF N D k ++ angStep N D k
theorem angStep_yes {N : Nat} {D : Int} {k : Nat} (h : shortP (redD k D) = N) : angStep N D k = [(redN k D, redD k D)] := if_pos h
theorem angStep_no {N : Nat} {D : Int} {k : Nat} (h : ¬ shortP (redD k D) = N) : angStep N D k = [] := if_neg h
theorem angF_len (N : Nat) (D : Int) : ∀ k, (angF N D k).length ≤ k
  | 0 => Nat.le_refl _
  | k + 1 => by
    have := angF_len N D k
    simp only [angF, List.length_append]
    unfold angStep
    split <;> simp <;> omega

/-- The cells of a list of angles. -/
def flatA : List (Int × Int) → List Value
  | [] => []
  | p :: l => .int .i64 p.1 :: .int .i64 p.2 :: flatA l
theorem flatA_app : ∀ (l m : List (Int × Int)), flatA (l ++ m) = flatA l ++ flatA m
  | [], m => rfl
  | p :: l, m => by simp [flatA, flatA_app l m]
theorem flatA_len : ∀ l : List (Int × Int), (flatA l).length = l.length * 2
  | [] => rfl
  | p :: l => by simp [flatA, flatA_len l]; omega
theorem flatA_at : ∀ {l : List (Int × Int)} {i : Nat} {n d : Int}, l[i]? = some (n, d) → (flatA l)[i * 2]? = some (.int .i64 n) ∧ (flatA l)[i * 2 + 1]? = some (.int .i64 d)
  | [], i, n, d, h => by simp at h
  | p :: l, 0, n, d, h => by simp at h; subst h; simp [flatA]
  | p :: l, i + 1, n, d, h => by
    simp at h
    obtain ⟨a, b⟩ := flatA_at h
    have e1 : (i + 1) * 2 = i * 2 + 1 + 1 := by omega
    have e2 : (i + 1) * 2 + 1 = i * 2 + 1 + 1 + 1 := by omega
    rw [e1]
    simp only [flatA, List.getElem?_cons_succ]
    exact ⟨a, b⟩
theorem ownA_of_row {w : World} {lo : Nat} {l : List (Int × Int)} {A : Option Addr} {len cap : Nat} (hl : l.length = len) (h : w.ownsRow lo 25 2 (.slice A len cap) len (flatA l)) : AngOwn w lo A l := by
  intro hne
  have hk : 0 < len := by
    rcases Nat.eq_zero_or_pos len with h0 | h0
    · rw [h0] at hl; exact absurd (List.eq_nil_of_length_eq_zero hl) hne
    · exact h0
  obtain ⟨g, c, hv, hlo, hg⟩ := h.form hk
  obtain ⟨rfl, rfl⟩ : A = some ⟨g, 0, none⟩ ∧ cap = c := by injection hv with hA hn hc; exact ⟨hA, hc⟩
  refine ⟨g, 0, rfl, hlo, hg, fun i n d hi => ?_⟩
  have hik : i < len := by
    rcases Nat.lt_or_ge i l.length with h1 | h1
    · omega
    · rw [List.getElem?_eq_none h1] at hi; cases hi
  obtain ⟨f1, f2⟩ := flatA_at hi
  rw [show 0 + i * 2 = i * 2 by omega]
  exact ⟨(h.cellAt _ (by omega)).trans f1, (h.cellAt _ (by omega)).trans f2, h.frozenAt _, h.frozenAt _⟩
/-- A row of one's own lies still where the blocks of old do. -/
theorem ownsKeep {W1 W2 : World} {e : TypeId} {size : Nat} {v : Value} {n : Nat} {xs : List Value} {lo : Nat} (h : W1.ownsRow lo e size v n xs) (hb : Below W1.heap.size W1 W2) : W2.ownsRow lo e size v n xs := by
  refine ⟨h.1, ?_⟩
  rcases h.2 with ⟨a, b⟩ | ⟨g, cap, cur, a, b, c, d⟩
  · exact .inl ⟨a, b⟩
  · exact .inr ⟨g, cap, cur, a, b, (hb.block g (Array.getElem?_eq_some_iff.1 c).1).trans c, d⟩
theorem ownsCap {W : World} {e : TypeId} {size : Nat} {A : Option Addr} {n cap : Nat} {xs : List Value} {lo : Nat} (h : W.ownsRow lo e size (.slice A n cap) n xs) : n ≤ cap := by
  rcases h.2 with ⟨a, b⟩ | ⟨g, cap', cur, a, _, _, b, _⟩
  · omega
  · injection a with _ _ hc; omega
theorem ownSlice {W : World} {e : TypeId} {size : Nat} {v : Value} {n : Nat} {xs : List Value} {lo : Nat} (h : W.ownsRow lo e size v n xs) : ∃ A cap, v = .slice A n cap := by
  rcases h.2 with ⟨a, b⟩ | ⟨g, cap, cur, a, _⟩
  · exact ⟨none, 0, by rw [a, b]⟩
  · exact ⟨_, _, a⟩
end Go.Proofs.Ytabddjfgbhnldaa

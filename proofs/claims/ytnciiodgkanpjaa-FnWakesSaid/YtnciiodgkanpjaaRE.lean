/-
  Plain mathematics: the period of an angle whose Den is odd; the angles of a period. No program in sight.
  Contracts: the angles of a period, as the program gathers them.
  Contracts: the angles of a period, as the model gathers them.
-/
import Derived.Test.YtnciiodgkanpjaaWO
import Derived.BigQuiet
namespace Go.Proofs.Ytnciiodgkanpjaa
open Go.RowKit

/-- Whether d divides 2^n - 1. -/
def divs (d : Int) (n : Nat) : Bool := ((2 : Int) ^ n - 1) % d == 0
/-- The first such n from k on, looked for so often; else 0. -/
def shortF (d : Int) : Nat → Nat → Nat
  | 0, _ => 0
  | f + 1, k => if divs d k then k else shortF d f (k + 1)
def shortP (d : Int) : Nat := shortF d 8 1
theorem shortF_spec (d : Int) : ∀ f k, (shortF d f k = 0 ∧ ∀ j, k ≤ j → j < k + f → divs d j = false) ∨ (k ≤ shortF d f k ∧ shortF d f k < k + f ∧ divs d (shortF d f k) = true ∧ ∀ j, k ≤ j → j < shortF d f k → divs d j = false)
  | 0, k => .inl ⟨rfl, fun j h1 h2 => absurd h1 (by omega)⟩
  | f + 1, k => by
    cases h : divs d k
    · have e : shortF d (f + 1) k = shortF d f (k + 1) := by simp [shortF, h]
      rw [e]
      rcases shortF_spec d f (k + 1) with ⟨h1, h2⟩ | ⟨h1, h2, h3, h4⟩
      · refine .inl ⟨h1, fun j a b => ?_⟩
        by_cases hj : j = k
        · subst hj; exact h
        · exact h2 j (by omega) (by omega)
      · refine .inr ⟨by omega, by omega, h3, fun j a b => ?_⟩
        by_cases hj : j = k
        · subst hj; exact h
        · exact h4 j (by omega) b
    · have e : shortF d (f + 1) k = k := by simp [shortF, h]
      rw [e]
      exact .inr ⟨by omega, by omega, h, fun j a b => absurd a (by omega)⟩
theorem shortP_le (d : Int) : shortP d ≤ 8 := by
  rcases shortF_spec d 8 1 with ⟨h, _⟩ | ⟨_, h, _⟩
  · unfold shortP; omega
  · unfold shortP; omega

theorem dbl_mod (a m : Int) : (2 * (a % m)) % m = (2 * a) % m := by
  have e := Int.emod_add_mul_ediv a m
  have : 2 * a = 2 * (a % m) + m * (2 * (a / m)) := by
    rw [← Int.mul_assoc, Int.mul_comm m 2, Int.mul_assoc]
    omega
  rw [this, Int.add_mul_emod_self_left]
theorem orb_odd {p : Int × Int} (h : Red p) (ho : p.2 % 2 = 1) : ∀ k, orb p k = ((2 ^ k * p.1) % p.2, p.2)
  | 0 => by
    have := Int.emod_eq_of_lt h.2.2.1 h.2.2.2.1
    simp [orb, this]
  | k + 1 => by
    have ih := orb_odd h ho k
    have hr := orb_red h k
    show dbl (orb p k) = _
    rw [dbl_odd hr (by rw [ih]; exact ho), ih]
    dsimp only
    rw [dbl_mod, ← Int.mul_assoc, Int.pow_succ, Int.mul_comm 2 (2 ^ k)]
theorem orb_back {p : Int × Int} (h : Red p) (ho : p.2 % 2 = 1) (k : Nat) : orb p k = p ↔ divs p.2 k = true := by
  rw [orb_odd h ho k]
  obtain ⟨h1, h2, h3, h4, h5⟩ := h
  have e0 := Int.emod_eq_of_lt h3 h4
  have key : (2 ^ k * p.1) % p.2 = p.1 ↔ p.2 ∣ (2 ^ k - 1) * p.1 := by
    constructor
    · intro e
      have e2 : (2 ^ k * p.1) % p.2 = p.1 % p.2 := e.trans e0.symm
      have := Int.emod_eq_emod_iff_emod_sub_eq_zero.1 e2
      rw [Int.sub_mul, Int.one_mul]
      exact Int.dvd_of_emod_eq_zero this
    · intro hd
      have h0 : (2 ^ k * p.1 - p.1) % p.2 = 0 := by
        rw [Int.sub_mul, Int.one_mul] at hd
        exact Int.emod_eq_zero_of_dvd hd
      have := Int.emod_eq_emod_iff_emod_sub_eq_zero.2 h0
      rw [this]; exact e0
  have cop : p.2 ∣ (2 ^ k - 1) * p.1 ↔ p.2 ∣ (2 ^ k - 1) := by
    constructor
    · intro hd
      have hc : Nat.Coprime p.2.natAbs p.1.natAbs := by
        unfold gcdI at h5
        rw [Int.gcd_eq_natAbs_gcd_natAbs] at h5
        unfold Nat.Coprime
        rw [Nat.gcd_comm]; omega
      have := Int.natAbs_dvd_natAbs.2 hd
      rw [Int.natAbs_mul] at this
      exact Int.natAbs_dvd_natAbs.1 (hc.dvd_of_dvd_mul_right this)
    · intro hd; exact Int.dvd_trans hd (Int.dvd_mul_right ..)
  unfold divs
  rw [beq_iff_eq]
  constructor
  · intro e
    exact Int.emod_eq_zero_of_dvd (cop.1 (key.1 (congrArg Prod.fst e)))
  · intro e
    have := key.2 (cop.2 (Int.dvd_of_emod_eq_zero e))
    rw [this]

/-- The period that the model tells: 0 for a preperiod, or an orbit that is too long. -/
def perS (p : Int × Int) : Nat := match findOrb p 65 0 with | some k => if pre p = 0 then k else 0 | none => 0
theorem find_some3 {p : Int × Int} : ∀ (f j k : Nat), j ≤ k → k < j + f → hit p k = true → (∀ i, j ≤ i → i < k → hit p i = false) → findOrb p f j = some k
  | 0, j, k, h1, h2, _, _ => absurd h1 (by omega)
  | f + 1, j, k, h1, h2, h3, h4 => by
    by_cases e : j = k
    · subst e; simp [findOrb, h3]
    · have := h4 j (by omega) (by omega)
      simp only [findOrb, this]
      exact find_some3 f (j + 1) k (by omega) (by omega) h3 (fun i a b => h4 i (by omega) b)
theorem eqA_iff3 (a b c d : Int) : eqA a b c d = true ↔ a = c ∧ b = d := by simp [eqA]
theorem hit_odd {p : Int × Int} (h : Red p) (ho : p.2 % 2 = 1) (k : Nat) : hit p k = true ↔ 1 ≤ k ∧ divs p.2 k = true := by
  have e : pre p = 0 := twos_odd 14 p.2 (by omega)
  unfold hit
  rw [e, ← orb_back h ho k, Bool.and_eq_true, eqA_iff3, decide_eq_true_iff]
  constructor
  · rintro ⟨a, b, c⟩; exact ⟨a, Prod.ext b c⟩
  · rintro ⟨a, b⟩; rw [b]; exact ⟨a, rfl, rfl⟩
theorem divs_even {d : Int} (he : d % 2 = 0) {k : Nat} (hk : 1 ≤ k) : divs d k = false := by
  unfold divs
  rw [beq_eq_false_iff_ne]
  intro e
  have hd := Int.dvd_of_emod_eq_zero e
  have h2 : (2 : Int) ∣ 2 ^ k - 1 := Int.dvd_trans (Int.dvd_of_emod_eq_zero he) hd
  obtain ⟨m, rfl⟩ : ∃ m, k = m + 1 := ⟨k - 1, by omega⟩
  rw [Int.pow_succ] at h2
  omega
theorem per_short {p : Int × Int} (h : Red p) {n : Nat} (hn : 1 ≤ n) (hn8 : n ≤ 8) : perS p = n ↔ shortP p.2 = n := by
  rcases (show p.2 % 2 = 1 ∨ p.2 % 2 = 0 by omega) with ho | he
  · have e : pre p = 0 := twos_odd 14 p.2 (by omega)
    constructor
    · intro hp
      unfold perS at hp
      rw [e] at hp
      cases hf : findOrb p 65 0 with
      | none => rw [hf] at hp; simp at hp; omega
      | some k =>
        rw [hf] at hp
        simp at hp
        subst hp
        obtain ⟨a, b, c, d⟩ := find_le _ _ _ hf
        have hc := ((hit_odd h ho k).1 c).2
        rcases shortF_spec p.2 8 1 with ⟨_, h2⟩ | ⟨h1, h2, h3, h4⟩
        · rw [h2 k hn (by omega)] at hc; cases hc
        · rcases Nat.lt_trichotomy (shortP p.2) k with hlt | heq | hgt
          · have := d (shortP p.2) (by omega) hlt
            have t2 : hit p (shortP p.2) = true := (hit_odd h ho _).2 ⟨h1, h3⟩
            rw [t2] at this
            cases this
          · exact heq
          · have t2 : divs p.2 k = false := h4 k hn hgt
            rw [t2] at hc; cases hc
    · intro hs
      have key : divs p.2 n = true ∧ ∀ j, 1 ≤ j → j < n → divs p.2 j = false := by
        rcases shortF_spec p.2 8 1 with ⟨h1, _⟩ | ⟨h1, h2, h3, h4⟩
        · unfold shortP at hs; omega
        · unfold shortP at hs; rw [hs] at h3 h4; exact ⟨h3, h4⟩
      have hf := find_some3 65 0 n (by omega) (by omega) ((hit_odd h ho n).2 ⟨hn, key.1⟩) (fun i _ hi => by
        cases hh : hit p i
        · rfl
        · obtain ⟨a, b⟩ := (hit_odd h ho i).1 hh
          rw [key.2 i a hi] at b; cases b)
      unfold perS
      rw [hf, e]; simp
  · have hp : pre p ≠ 0 := by
      unfold pre
      have : twos 14 p.2 = twos 13 (p.2 / 2) + 1 := by simp only [twos]; rw [if_pos he]
      omega
    have z1 : perS p = 0 := by
      unfold perS
      cases findOrb p 65 0 with
      | none => rfl
      | some k => simp [hp]
    have z2 : shortP p.2 = 0 := by
      rcases shortF_spec p.2 8 1 with ⟨h1, _⟩ | ⟨h1, _, h3, _⟩
      · exact h1
      · rw [divs_even he h1] at h3; cases h3
    rw [z1, z2]

theorem gcdI_quo (a b : Int) (hb : 0 < b) : gcdI (a / gcdI a b) (b / gcdI a b) = 1 := by
  have hp := gcdI_pos a b hb
  unfold gcdI at *
  have := Int.gcd_ediv_gcd_ediv_gcd (i := a) (j := b) (by omega)
  rw [this]; rfl
theorem redBd0 (n d : Int) (hd : 0 < d) : 0 ≤ redN n d ∧ redN n d < redD n d ∧ 1 ≤ redD n d ∧ redD n d ≤ d := by
  have h1 := Int.emod_nonneg n (b := d) (by omega)
  have h2 := Int.emod_lt_of_pos n hd
  have hp := gcdI_pos (n % d) d hd
  have d1 : gcdI (n % d) d ∣ n % d := by unfold gcdI; exact Int.gcd_dvd_left ..
  have d2 : gcdI (n % d) d ∣ d := by unfold gcdI; exact Int.gcd_dvd_right ..
  obtain ⟨x, hx⟩ := d1
  obtain ⟨y, hy⟩ := d2
  unfold redN redD
  generalize gcdI (n % d) d = g at *
  generalize n % d = r at *
  subst hx hy
  rw [Int.mul_ediv_cancel_left _ (by omega), Int.mul_ediv_cancel_left _ (by omega)]
  have p0 : 0 ≤ x := by
    rcases (show x < 0 ∨ 0 ≤ x by omega) with h | h
    · have := Int.mul_neg_of_pos_of_neg hp h; omega
    · exact h
  have p1 : x < y := Int.lt_of_mul_lt_mul_left h2 (by omega)
  refine ⟨p0, p1, by omega, ?_⟩
  have := Int.mul_le_mul_of_nonneg_right (show 1 ≤ g by omega) (show 0 ≤ y by omega)
  omega
theorem redRed0 {n m : Int} (hm : 0 < m) (h : m ≤ 8191) : Red (redN n m, redD n m) := by
  obtain ⟨t1, t2, t3, t4⟩ := redBd0 n m hm
  refine ⟨t3, by dsimp only; omega, t1, t2, ?_⟩
  dsimp only
  unfold redN redD
  exact gcdI_quo _ _ hm

/-- The angles k/D, of the period N, for k less than a bound. -/
def angStep (N : Nat) (D : Int) (k : Nat) : List (Int × Int) := if shortP (redD k D) = N then [(redN k D, redD k D)] else []
def angF (N : Nat) (D : Int) : Nat → List (Int × Int)
  | 0 => []
  | k + 1 => angF N D k ++ angStep N D k
theorem angStep_yes {N : Nat} {D : Int} {k : Nat} (h : shortP (redD k D) = N) : angStep N D k = [(redN k D, redD k D)] := if_pos h
theorem angStep_no {N : Nat} {D : Int} {k : Nat} (h : ¬ shortP (redD k D) = N) : angStep N D k = [] := if_neg h
theorem angF_len (N : Nat) (D : Int) : ∀ k, (angF N D k).length ≤ k
  | 0 => Nat.le_refl _
  | k + 1 => by
    have := angF_len N D k
    simp only [angF, List.length_append]
    unfold angStep
    split <;> simp <;> omega

/-- The cells of a list of angles. -/
def flatA : List (Int × Int) → List Value
  | [] => []
  | p :: l => .int .i64 p.1 :: .int .i64 p.2 :: flatA l
theorem flatA_app : ∀ (l m : List (Int × Int)), flatA (l ++ m) = flatA l ++ flatA m
  | [], m => rfl
  | p :: l, m => by simp [flatA, flatA_app l m]
theorem flatA_len : ∀ l : List (Int × Int), (flatA l).length = l.length * 2
  | [] => rfl
  | p :: l => by simp [flatA, flatA_len l]; omega
theorem flatA_at : ∀ {l : List (Int × Int)} {i : Nat} {n d : Int}, l[i]? = some (n, d) → (flatA l)[i * 2]? = some (.int .i64 n) ∧ (flatA l)[i * 2 + 1]? = some (.int .i64 d)
  | [], i, n, d, h => by simp at h
  | p :: l, 0, n, d, h => by simp at h; subst h; simp [flatA]
  | p :: l, i + 1, n, d, h => by
    simp at h
    obtain ⟨a, b⟩ := flatA_at h
    have e1 : (i + 1) * 2 = i * 2 + 1 + 1 := by omega
    have e2 : (i + 1) * 2 + 1 = i * 2 + 1 + 1 + 1 := by omega
    rw [e1]
    simp only [flatA, List.getElem?_cons_succ]
    exact ⟨a, b⟩
theorem ownA_of_row {w : World} {lo : Nat} {l : List (Int × Int)} {A : Option Addr} {len cap : Nat} (hl : l.length = len) (h : w.ownsRow lo 25 2 (.slice A len cap) len (flatA l)) : AngOwn w lo A l := by
  intro hne
  have hk : 0 < len := by
    rcases Nat.eq_zero_or_pos len with h0 | h0
    · rw [h0] at hl; exact absurd (List.eq_nil_of_length_eq_zero hl) hne
    · exact h0
  obtain ⟨g, c, hv, hlo, hg⟩ := h.form hk
  obtain ⟨rfl, rfl⟩ : A = some ⟨g, 0, none⟩ ∧ cap = c := by injection hv with hA hn hc; exact ⟨hA, hc⟩
  refine ⟨g, 0, rfl, hlo, hg, fun i n d hi => ?_⟩
  have hik : i < len := by
    rcases Nat.lt_or_ge i l.length with h1 | h1
    · omega
    · rw [List.getElem?_eq_none h1] at hi; cases hi
  obtain ⟨f1, f2⟩ := flatA_at hi
  rw [show 0 + i * 2 = i * 2 by omega]
  exact ⟨(h.cellAt _ (by omega)).trans f1, (h.cellAt _ (by omega)).trans f2, h.frozenAt _, h.frozenAt _⟩
/-- A row of one's own lies still where the blocks of old do. -/
theorem ownsKeep {W1 W2 : World} {e : TypeId} {size : Nat} {v : Value} {n : Nat} {xs : List Value} {lo : Nat} (h : W1.ownsRow lo e size v n xs) (hb : Below W1.heap.size W1 W2) : W2.ownsRow lo e size v n xs := by
  refine ⟨h.1, ?_⟩
  rcases h.2 with ⟨a, b⟩ | ⟨g, cap, cur, a, b, c, d⟩
  · exact .inl ⟨a, b⟩
  · exact .inr ⟨g, cap, cur, a, b, (hb.block g (Array.getElem?_eq_some_iff.1 c).1).trans c, d⟩
theorem ownsCap {W : World} {e : TypeId} {size : Nat} {A : Option Addr} {n cap : Nat} {xs : List Value} {lo : Nat} (h : W.ownsRow lo e size (.slice A n cap) n xs) : n ≤ cap := by
  rcases h.2 with ⟨a, b⟩ | ⟨g, cap', cur, a, _, _, b, _⟩
  · omega
  · injection a with _ _ hc; omega
theorem ownSlice {W : World} {e : TypeId} {size : Nat} {v : Value} {n : Nat} {xs : List Value} {lo : Nat} (h : W.ownsRow lo e size v n xs) : ∃ A cap, v = .slice A n cap := by
  rcases h.2 with ⟨a, b⟩ | ⟨g, cap, cur, a, _⟩
  · exact ⟨none, 0, by rw [a, b]⟩
  · exact ⟨_, _, a⟩

theorem pow_le8 {k : Nat} (h : k ≤ 8) : 2 ^ k ≤ 256 := Nat.le_trans (Nat.pow_le_pow_right (by omega) h) (by decide)
theorem shl_run (k : Nat) (h : k ≤ 8) : wrap64 ((2 : Int) ^ k) = ((2 ^ k : Nat) : Int) := by
  have h2 := pow_le8 h
  rw [show (2 : Int) ^ k = ((2 ^ k : Nat) : Int) from by rw [Int.natCast_pow]; rfl]
  generalize 2 ^ k = E at *
  exact IntWalk.wrap64_in _ (by omega)
theorem pow_ge1 (k : Nat) : 1 ≤ 2 ^ k := Nat.one_le_two_pow
theorem small_len {n : Nat} (h : n ≤ 300) : n + 1 ≤ maxLen ∧ (n + 1) * 16 ≤ 140737488355328 := by unfold maxLen; omega
theorem divs_run (d : Int) (k : Nat) : ((((2 ^ k : Nat) : Int) - 1) % d == 0) = divs d k := by
  unfold divs
  rw [Int.natCast_pow]; rfl

set_option maxHeartbeats 1000000 in
theorem implShortR (n d : Int) (w : World) (hd : 1 ≤ d) (hd2 : d ≤ 8191) :
    Calls Try.prog 96 #[ang n d] w fun e w' => e = .returned (.int .i64 (shortP d : Int)) ∧ Below w.heap.size w w' := by
  have hd0 : (d == 0) = false := beq_eq_false_iff_ne.2 (by omega)
  have hdn : ¬ d = 0 := by omega
  obtain ⟨R, hR⟩ : ∃ R, shortP d = R := ⟨_, rfl⟩
  rw [hR]
  have HR := Lib.hid hR
  clear hR
  go_enter Try.func96, Try.ntmps96
  go_wp2
  go_loopw [3] (fun i wr => ∃ k : Nat, i = .int .i64 k ∧ 1 ≤ k ∧ k ≤ 9 ∧ Hid (shortF d (9 - k) k = R) ∧ wr.cell? ⟨w.heap.size, 1, none⟩ = some (.int .i64 d) ∧ Below w.heap.size w wr) (fun i _ => 9 - (intOf i).toNat)
  case atStart => exact ⟨1, rfl, by omega, by omega, Lib.hid HR.out, by simp [go_sem], by (repeat' (first | (with_reducible exact Below.refl _ _) | (with_reducible assumption) | (with_reducible refine belowNext ?_ (by with_reducible assumption)) | (with_reducible refine belowAlloc ?_ _) | (with_reducible refine Below.drew ?_) | (with_reducible refine below_drewN ?_ _) | (with_reducible refine Below.setCell ?_ ?_ _) | go_size | (with_reducible refine sizeOf' ?_) | (with_reducible refine sizeAdd ?_) | (dsimp only; first | (with_reducible refine sizeOf' ?_) | (with_reducible refine sizeAdd ?_))))⟩
  case round =>
    obtain ⟨k, rfl, h1, h9, H, hc, hB⟩ := hrel
    by_cases h8 : k ≤ 8
    · have hs := shl_run k h8
      have hp := pow_le8 h8
      have hq := pow_ge1 k
      have ht := divs_run d k
      have HF : Hid (shortF d (9 - k) k = if divs d k then k else shortF d (9 - (k + 1)) (k + 1)) := Lib.hid (by
        have e : 9 - k = (9 - (k + 1)) + 1 := by omega
        rw [e]; rfl)
      generalize 2 ^ k = E at *
      have hw : wrap64 ((E : Int) - 1) = (E : Int) - 1 := IntWalk.wrap64_in _ (by omega)
      cases hdv : divs d k
      all_goals
        rw [hdv] at ht HF
        clear hdv
        go_wp2_with fail
        go_quiet (fail)
        go_wp2
      · go_roundw
        case rel => exact ⟨k + 1, by go_num, by omega, by omega, Lib.hid (by rw [← H.out, HF.out]; rfl), by simpa [go_sem] using hc, by (repeat' (first | (with_reducible exact Below.refl _ _) | (with_reducible assumption) | (with_reducible refine belowNext ?_ (by with_reducible assumption)) | (with_reducible refine belowAlloc ?_ _) | (with_reducible refine Below.drew ?_) | (with_reducible refine below_drewN ?_ _) | (with_reducible refine Below.setCell ?_ ?_ _) | go_size | (with_reducible refine sizeOf' ?_) | (with_reducible refine sizeAdd ?_) | (dsimp only; first | (with_reducible refine sizeOf' ?_) | (with_reducible refine sizeAdd ?_))))⟩
        case measure => simp [intOf]; omega
      · go_ret
        refine ⟨by rw [← H.out, HF.out]; rfl, ?_⟩
        (repeat' (first | (with_reducible exact Below.refl _ _) | (with_reducible assumption) | (with_reducible refine belowNext ?_ (by with_reducible assumption)) | (with_reducible refine belowAlloc ?_ _) | (with_reducible refine Below.drew ?_) | (with_reducible refine below_drewN ?_ _) | (with_reducible refine Below.setCell ?_ ?_ _) | go_size | (with_reducible refine sizeOf' ?_) | (with_reducible refine sizeAdd ?_) | (dsimp only; first | (with_reducible refine sizeOf' ?_) | (with_reducible refine sizeAdd ?_))))
    · obtain rfl : k = 9 := by omega
      have E : Hid (R = 0) := Lib.hid H.out.symm
      go_wp2
      go_ret
      refine ⟨by rw [E.out]; rfl, ?_⟩
      (repeat' (first | (with_reducible exact Below.refl _ _) | (with_reducible assumption) | (with_reducible refine belowNext ?_ (by with_reducible assumption)) | (with_reducible refine belowAlloc ?_ _) | (with_reducible refine Below.drew ?_) | (with_reducible refine below_drewN ?_ _) | (with_reducible refine Below.setCell ?_ ?_ _) | go_size | (with_reducible refine sizeOf' ?_) | (with_reducible refine sizeAdd ?_) | (dsimp only; first | (with_reducible refine sizeOf' ?_) | (with_reducible refine sizeAdd ?_))))

set_option maxRecDepth 100000 in
set_option maxHeartbeats 200000 in
theorem implAoP (N : Nat) (w : World) (h1 : 1 ≤ N) (h8 : N ≤ 8) :
    Calls Try.prog 107 #[.int .i64 N] w fun e w' => ∃ A cap, (angF N (2 ^ N - 1 : Nat) (2 ^ N - 1)).length ≤ cap ∧ e = .returned (.slice A (angF N (2 ^ N - 1 : Nat) (2 ^ N - 1)).length cap) ∧ AngOwn w' w.heap.size A (angF N (2 ^ N - 1 : Nat) (2 ^ N - 1)) ∧ Below w.heap.size w w' := by
  obtain ⟨i0, hi, hz0, hz1, hz2⟩ := info_parts infoA
  have hs := shl_run N h8
  have hp := pow_le8 h8
  have hq := pow_ge1 N
  have hq2 : 2 ≤ 2 ^ N := by
    obtain ⟨m, rfl⟩ : ∃ m, N = m + 1 := ⟨N - 1, by omega⟩
    have := pow_ge1 m
    rw [Nat.pow_succ]; omega
  generalize 2 ^ N = E at *
  obtain ⟨D, rfl⟩ : ∃ D, E = D + 1 := ⟨E - 1, by omega⟩
  have hc : ((N : Int) == (N : Int)) = true := by simp
  rw [show D + 1 - 1 = D by omega]
  obtain ⟨DD, hDD⟩ : ∃ DD : Int, ((D + 1 : Nat) : Int) = DD := ⟨_, rfl⟩
  rw [hDD] at hs
  have hw : DD - 1 = (D : Int) := by omega
  have hw2 : wrap64 (DD - 1) = (D : Int) := by rw [hw]; exact IntWalk.wrap64_in _ (by omega)
  have hw3 : wrap64 (D : Int) = (D : Int) := IntWalk.wrap64_in _ (by omega)
  clear hDD
  go_enter Try.func107, Try.ntmps107
  go_wp2
  rw [hs]
  clear hs hw hw2 hw3
  go_loopw [3, 11] (fun v i wr => ∃ (k len cap : Nat) (A : Option Addr), v = .slice A len cap ∧ i = .int .i64 k ∧ k ≤ D ∧ len ≤ k ∧ Hid ((angF N D k).length = len ∧ wr.ownsRow w.heap.size 25 2 (.slice A len cap) len (flatA (angF N D k)) ∧ Below w.heap.size w wr)) (fun v i _ => D - (intOf i).toNat)
  case atStart => exact ⟨0, 0, 0, none, rfl, rfl, by omega, by omega, Lib.hid ⟨rfl, World.ownsRow_nil _ _ _ _, Below.refl _ _⟩⟩
  case round =>
    obtain ⟨k, len, cap, A, rfl, rfl, hk, hlk, H⟩ := hrel
    by_cases hlt : k < D
    · obtain ⟨hlen, hown, hB⟩ := H.out
      have HLen := Lib.hid hlen
      have HO := Lib.hid hown
      have HRd := Lib.hid (redRed0 (n := (k : Int)) (m := (D : Int)) (by omega) (by omega))
      have b2 := HRd.out.1
      have b3 := HRd.out.2.1
      have b4 := HRd.out.2.2.1
      have b5 := HRd.out.2.2.2.1
      dsimp only at b2 b3 b4 b5
      have HC := Lib.hid (fun w => implRed (k : Int) (D : Int) w (by omega) (by omega) (by omega) (by omega))
      have HP := Lib.hid (fun w => implShortR (redN k D) (redD k D) w (by omega) (by omega))
      have HN : Hid (((shortP (redD k D) : Nat) = N) ↔ shortP (redD k D) = N) := Lib.hid (Iff.rfl)
      have HX : Hid (shortP (redD k D) = N → angStep N D k = [(redN k D, redD k D)]) := Lib.hid angStep_yes
      have HY : Hid (¬ shortP (redD k D) = N → angStep N D k = []) := Lib.hid angStep_no
      clear hlen hown H
      generalize shortP (redD k D) = pv at *
      obtain ⟨st, hst⟩ : ∃ st, angStep N D k = st := ⟨_, rfl⟩
      rw [hst] at HX HY
      have HST := Lib.hid hst
      clear hst
      generalize redN k D = X at *
      generalize redD k D = Y at *
      go_wp2_with fail
      refine (HC.out _).mono ?_
      rintro e w1 ⟨rfl, hb1⟩
      have s1 := hb1.size
      try simp at s1
      go_wp2_with fail
      refine (HP.out _).mono ?_
      rintro e w2 ⟨rfl, hb2⟩
      have s2 := hb2.size
      try simp at s2
      have x0 : w2.cell? ⟨w1.heap.size, 0, none⟩ = some (.int .i64 X) := cellThru hb2 (by simp) (by simp [go_sem])
      have x1 : w2.cell? ⟨w1.heap.size, 1, none⟩ = some (.int .i64 Y) := cellThru hb2 (by simp) (by simp [go_sem])
      have B02 : Below wr.heap.size wr w2 := by
        (repeat' (first | (with_reducible exact Below.refl _ _) | (with_reducible assumption) | (with_reducible refine belowNext ?_ (by with_reducible assumption)) | (with_reducible refine belowAlloc ?_ _) | (with_reducible refine Below.drew ?_) | (with_reducible refine below_drewN ?_ _) | (with_reducible refine Below.setCell ?_ ?_ _) | go_size | (with_reducible refine sizeOf' ?_) | (with_reducible refine sizeAdd ?_) | (dsimp only; first | (with_reducible refine sizeOf' ?_) | (with_reducible refine sizeAdd ?_))))
      have B2 := belowNext hB B02
      have HO2 := Lib.hid (ownsKeep HO.out B02)
      clear hb1 hb2 HO
      by_cases hpv : pv = N
      · obtain rfl := HX.out (hpv)
        subst hpv
        go_wp2_with (at_builtin; refine wpList_append_own _ rfl _ _ 27 rfl w.heap.size 25 i0 (.agg #[.int .i64 0, .int .i64 0]) 2 16 Try.underlying27 hi hz0 hz1 hz2 rfl (by decide) _ _ _ rfl (World.ownsRow.alloc (w := w2) HO2.out _) ⟨w2.heap.size, 0, none⟩ 1 1 [.int .i64 X, .int .i64 Y] rfl rfl ?c1 ?c2 ?c3 ?c4 ?c5 ?_)
        case c1 => exact cell_two_new _ _ _ _
        case c2 => intro u hu; simp at hu; rcases hu with rfl | rfl <;> rfl
        case c3 => exact (small_len (n := len) (by omega)).1
        case c4 => exact (small_len (n := len) (by omega)).2
        case c5 => have := B2.size; simp; omega
        intro v' w3 hown' hgrow _
        obtain ⟨gn, capn, rfl⟩ := ownsRow_succ hown'
        have B3 : Below w.heap.size w w3 := by
          have hb0 : Below w.heap.size w (w2.alloc (.cells #[.int .i64 X, .int .i64 Y] 25)) := belowAlloc B2 _
          refine hb0.grown hgrow hb0.size (fun r e => ?_)
          rcases HO2.out.2 with ⟨hv, _⟩ | ⟨g0, c0, cur, hv, hv2, _⟩
          · rw [hv] at e; simp [Value.ownBlock] at e
          · rw [hv] at e; simp [Value.ownBlock] at e; omega
        have HO3 := Lib.hid hown'
        clear hown' hgrow HO2 x0 x1
        go_wp2
        go_roundw
        case rel =>
          refine ⟨k + 1, len + 1, _, _, rfl, by go_num, by omega, by omega, Lib.hid ⟨?_, ?_, B3⟩⟩
          · simp only [angF, List.length_append, List.length_cons, List.length_nil, HLen.out, HST.out]
          · simp only [angF, flatA_app, HST.out]
            exact HO3.out
        case measure => simp [intOf]; omega
      · obtain HE := HY.out (hpv)
        have hq3 : ((pv : Int) == (N : Int)) = false := by simp; omega
        go_wp2
        go_roundw
        case rel =>
          refine ⟨k + 1, len, _, _, rfl, by go_num, by omega, by omega, Lib.hid ⟨?_, ?_, B2⟩⟩
          · simp only [angF, List.length_append, HST.out, HE, List.length_nil, Nat.add_zero]; exact HLen.out
          · simp only [angF, HST.out, HE, List.append_nil]
            exact HO2.out
        case measure => simp [intOf]; omega
    · obtain rfl : k = D := by omega
      obtain ⟨hlen, hown, hB⟩ := H.out
      have HO := Lib.hid (ownA_of_row hlen hown)
      have HCap := Lib.hid (ownsCap hown)
      have HLen := Lib.hid hlen
      clear hlen hown H
      go_wp2
      go_ret
      rw [HLen.out]
      refine ⟨A, cap, HCap.out, rfl, HO.out, ?_⟩
      (repeat' (first | (with_reducible exact Below.refl _ _) | (with_reducible assumption) | (with_reducible refine belowNext ?_ (by with_reducible assumption)) | (with_reducible refine belowAlloc ?_ _) | (with_reducible refine Below.drew ?_) | (with_reducible refine below_drewN ?_ _) | (with_reducible refine Below.setCell ?_ ?_ _) | go_size | (with_reducible refine sizeOf' ?_) | (with_reducible refine sizeAdd ?_) | (dsimp only; first | (with_reducible refine sizeOf' ?_) | (with_reducible refine sizeAdd ?_))))

/-- What AnglesOfPeriod answers. -/
def aopL (n : Int) : List (Int × Int) := if 1 ≤ n ∧ n ≤ 8 then angF n.toNat (2 ^ n.toNat - 1 : Nat) (2 ^ n.toNat - 1) else []
def aopC (n : Int) : Int := if 1 ≤ n ∧ n ≤ 8 then 0 else 2
theorem aop_yes {N : Nat} (h1 : 1 ≤ N) (h8 : N ≤ 8) : aopL (N : Int) = angF N (2 ^ N - 1 : Nat) (2 ^ N - 1) ∧ aopC (N : Int) = 0 := by
  unfold aopL aopC
  rw [if_pos (by omega), if_pos (by omega)]
  exact ⟨rfl, rfl⟩
theorem aop_no {n : Int} (h : ¬ (1 ≤ n ∧ n ≤ 8)) : aopL n = [] ∧ aopC n = 2 := by
  unfold aopL aopC
  rw [if_neg h, if_neg h]
  exact ⟨rfl, rfl⟩
theorem aopL_len (n : Int) : (aopL n).length ≤ 1000000000000 := by
  by_cases h : 1 ≤ n ∧ n ≤ 8
  · obtain ⟨N, rfl⟩ : ∃ N : Nat, n = (N : Int) := ⟨n.toNat, by omega⟩
    rw [(aop_yes (N := N) (by omega) (by omega)).1]
    have := angF_len N (2 ^ N - 1 : Nat) (2 ^ N - 1)
    have := pow_le8 (k := N) (by omega)
    omega
  · rw [(aop_no h).1]; simp

set_option maxHeartbeats 1000000 in
theorem specPer (n d : Int) (w : World) (h : Red (n, d)) :
    Calls Try.prog 69 #[ang n d] w fun e w' => e = .returned (.int .i64 (perS (n, d) : Int)) ∧ Below w.heap.size w w' := by
  have HS : Hid (∀ w, Calls Try.prog 54 #[ang n d] w (ResOrb w (n, d))) := Lib.hid (fun w => specOrbit n d w h)
  unfold ResOrb at HS
  cases hf : findOrb (n, d) 65 0 with
  | none =>
    have E : Hid (perS (n, d) = 0) := Lib.hid (by unfold perS; rw [hf])
    rw [hf] at HS
    dsimp only at HS
    clear hf h
    generalize perS (n, d) = R at *
    go_enter Try.func69, Try.ntmps69
    go_wp2_with fail
    refine (HS.out _).mono ?_
    rintro e w1 ⟨rfl, hb1⟩
    go_wp2
    go_ret
    refine ⟨by rw [E.out]; rfl, ?_⟩
    (repeat' (first | (with_reducible exact Below.refl _ _) | (with_reducible assumption) | (with_reducible refine belowNext ?_ (by with_reducible assumption)) | (with_reducible refine belowAlloc ?_ _) | (with_reducible refine Below.drew ?_) | (with_reducible refine below_drewN ?_ _) | (with_reducible refine Below.setCell ?_ ?_ _) | go_size | (with_reducible refine sizeOf' ?_) | (with_reducible refine sizeAdd ?_) | (dsimp only; first | (with_reducible refine sizeOf' ?_) | (with_reducible refine sizeAdd ?_))))
  | some k =>
    have E : Hid (perS (n, d) = if pre (n, d) = 0 then k else 0) := Lib.hid (by unfold perS; rw [hf])
    rw [hf] at HS
    dsimp only at HS
    clear hf h
    generalize perS (n, d) = R at *
    generalize pre (n, d) = P at *
    by_cases hP : P = 0
    · subst hP
      go_enter Try.func69, Try.ntmps69
      go_wp2_with fail
      refine (HS.out _).mono ?_
      rintro e w1 ⟨A, cap, rfl, ho, hb1⟩
      clear ho
      go_wp2
      go_ret
      refine ⟨by rw [E.out]; rfl, ?_⟩
      (repeat' (first | (with_reducible exact Below.refl _ _) | (with_reducible assumption) | (with_reducible refine belowNext ?_ (by with_reducible assumption)) | (with_reducible refine belowAlloc ?_ _) | (with_reducible refine Below.drew ?_) | (with_reducible refine below_drewN ?_ _) | (with_reducible refine Below.setCell ?_ ?_ _) | go_size | (with_reducible refine sizeOf' ?_) | (with_reducible refine sizeAdd ?_) | (dsimp only; first | (with_reducible refine sizeOf' ?_) | (with_reducible refine sizeAdd ?_))))
    · have n1 : (0 : Int) < (P : Int) := by omega
      have E2 : Hid (R = 0) := Lib.hid (by rw [E.out, if_neg hP])
      clear E
      go_enter Try.func69, Try.ntmps69
      go_wp2_with fail
      refine (HS.out _).mono ?_
      rintro e w1 ⟨A, cap, rfl, ho, hb1⟩
      clear ho
      go_wp2
      go_ret
      refine ⟨by rw [E2.out]; rfl, ?_⟩
      (repeat' (first | (with_reducible exact Below.refl _ _) | (with_reducible assumption) | (with_reducible refine belowNext ?_ (by with_reducible assumption)) | (with_reducible refine belowAlloc ?_ _) | (with_reducible refine Below.drew ?_) | (with_reducible refine below_drewN ?_ _) | (with_reducible refine Below.setCell ?_ ?_ _) | go_size | (with_reducible refine sizeOf' ?_) | (with_reducible refine sizeAdd ?_) | (dsimp only; first | (with_reducible refine sizeOf' ?_) | (with_reducible refine sizeAdd ?_))))

set_option maxHeartbeats 1000000 in
theorem inRange (n a b : Int) (w : World) :
    Calls Try.prog 64 #[.int .i64 n, .int .i64 a, .int .i64 b] w fun e w' => e = .returned (.bool (decide (a ≤ n) && decide (n ≤ b))) ∧ w = w' := by
  by_cases h1 : a ≤ n <;> by_cases h2 : n ≤ b
  all_goals
    go_enter Try.func64, Try.ntmps64
    go_wp2
    go_ret
    exact ⟨by simp [h1, h2], rfl⟩

set_option maxRecDepth 100000 in
set_option maxHeartbeats 200000 in
theorem specAoP (N : Nat) (w : World) (h1 : 1 ≤ N) (h8 : N ≤ 8) :
    Calls Try.prog 105 #[.int .i64 N] w fun e w' => ∃ A cap, (angF N (2 ^ N - 1 : Nat) (2 ^ N - 1)).length ≤ cap ∧ e = .returned (.slice A (angF N (2 ^ N - 1 : Nat) (2 ^ N - 1)).length cap) ∧ AngOwn w' w.heap.size A (angF N (2 ^ N - 1 : Nat) (2 ^ N - 1)) ∧ Below w.heap.size w w' := by
  obtain ⟨i0, hi, hz0, hz1, hz2⟩ := info_parts infoA
  have hs := shl_run N h8
  have hp := pow_le8 h8
  have hq := pow_ge1 N
  have hq2 : 2 ≤ 2 ^ N := by
    obtain ⟨m, rfl⟩ : ∃ m, N = m + 1 := ⟨N - 1, by omega⟩
    have := pow_ge1 m
    rw [Nat.pow_succ]; omega
  generalize 2 ^ N = E at *
  obtain ⟨D, rfl⟩ : ∃ D, E = D + 1 := ⟨E - 1, by omega⟩
  have hc : ((N : Int) == (N : Int)) = true := by simp
  rw [show D + 1 - 1 = D by omega]
  obtain ⟨DD, hDD⟩ : ∃ DD : Int, ((D + 1 : Nat) : Int) = DD := ⟨_, rfl⟩
  rw [hDD] at hs
  have hw : DD - 1 = (D : Int) := by omega
  have hw2 : wrap64 (DD - 1) = (D : Int) := by rw [hw]; exact IntWalk.wrap64_in _ (by omega)
  have hw3 : wrap64 (D : Int) = (D : Int) := IntWalk.wrap64_in _ (by omega)
  clear hDD
  go_enter Try.func105, Try.ntmps105
  go_wp2
  rw [hs]
  clear hs hw hw2 hw3
  go_loopw [3, 5] (fun v i wr => ∃ (k len cap : Nat) (A : Option Addr), v = .slice A len cap ∧ i = .int .i64 k ∧ k ≤ D ∧ len ≤ k ∧ Hid ((angF N D k).length = len ∧ wr.ownsRow w.heap.size 25 2 (.slice A len cap) len (flatA (angF N D k)) ∧ Below w.heap.size w wr)) (fun v i _ => D - (intOf i).toNat)
  case atStart => 
    refine ⟨0, 0, 0, some ⟨w.heap.size, 0, none⟩, rfl, rfl, by omega, by omega, Lib.hid ⟨rfl, ⟨rfl, .inr ⟨w.heap.size, 0, #[], rfl, Nat.le_refl _, ?_, by omega, by unfold maxLen; omega, rfl, rfl⟩⟩, ?_⟩⟩
    · exact heap_alloc_new w (.cells #[] 25)
    · (repeat' (first | (with_reducible exact Below.refl _ _) | (with_reducible assumption) | (with_reducible refine belowNext ?_ (by with_reducible assumption)) | (with_reducible refine belowAlloc ?_ _) | (with_reducible refine Below.drew ?_) | (with_reducible refine below_drewN ?_ _) | (with_reducible refine Below.setCell ?_ ?_ _) | go_size | (with_reducible refine sizeOf' ?_) | (with_reducible refine sizeAdd ?_) | (dsimp only; first | (with_reducible refine sizeOf' ?_) | (with_reducible refine sizeAdd ?_))))
  case round =>
    obtain ⟨k, len, cap, A, rfl, rfl, hk, hlk, H⟩ := hrel
    by_cases hlt : k < D
    · obtain ⟨hlen, hown, hB⟩ := H.out
      have HLen := Lib.hid hlen
      have HO := Lib.hid hown
      have HRd := Lib.hid (redRed0 (n := (k : Int)) (m := (D : Int)) (by omega) (by omega))
      have b2 := HRd.out.1
      have b3 := HRd.out.2.1
      have b4 := HRd.out.2.2.1
      have b5 := HRd.out.2.2.2.1
      dsimp only at b2 b3 b4 b5
      have HC := Lib.hid (fun w => specRed (k : Int) (D : Int) w (by omega) (by omega) (by omega) (by omega))
      have HP := Lib.hid (fun w => specPer (redN k D) (redD k D) w HRd.out)
      have HN : Hid (((perS (redN k D, redD k D) : Nat) = N) ↔ shortP (redD k D) = N) := Lib.hid (per_short HRd.out h1 h8)
      have HX : Hid (shortP (redD k D) = N → angStep N D k = [(redN k D, redD k D)]) := Lib.hid angStep_yes
      have HY : Hid (¬ shortP (redD k D) = N → angStep N D k = []) := Lib.hid angStep_no
      clear hlen hown H
      generalize shortP (redD k D) = sp at *
      generalize perS (redN k D, redD k D) = pv at *
      obtain ⟨st, hst⟩ : ∃ st, angStep N D k = st := ⟨_, rfl⟩
      rw [hst] at HX HY
      have HST := Lib.hid hst
      clear hst
      generalize redN k D = X at *
      generalize redD k D = Y at *
      go_wp2_with fail
      refine (HC.out _).mono ?_
      rintro e w1 ⟨rfl, hb1⟩
      have s1 := hb1.size
      try simp at s1
      go_wp2_with fail
      refine (HP.out _).mono ?_
      rintro e w2 ⟨rfl, hb2⟩
      have s2 := hb2.size
      try simp at s2
      have x0 : w2.cell? ⟨w1.heap.size, 0, none⟩ = some (.int .i64 X) := cellThru hb2 (by simp) (by simp [go_sem])
      have x1 : w2.cell? ⟨w1.heap.size, 1, none⟩ = some (.int .i64 Y) := cellThru hb2 (by simp) (by simp [go_sem])
      have B02 : Below wr.heap.size wr w2 := by
        (repeat' (first | (with_reducible exact Below.refl _ _) | (with_reducible assumption) | (with_reducible refine belowNext ?_ (by with_reducible assumption)) | (with_reducible refine belowAlloc ?_ _) | (with_reducible refine Below.drew ?_) | (with_reducible refine below_drewN ?_ _) | (with_reducible refine Below.setCell ?_ ?_ _) | go_size | (with_reducible refine sizeOf' ?_) | (with_reducible refine sizeAdd ?_) | (dsimp only; first | (with_reducible refine sizeOf' ?_) | (with_reducible refine sizeAdd ?_))))
      have B2 := belowNext hB B02
      have HO2 := Lib.hid (ownsKeep HO.out B02)
      clear hb1 hb2 HO
      by_cases hpv : pv = N
      · obtain rfl := HX.out (HN.out.1 hpv)
        subst hpv
        go_wp2_with (at_builtin; refine wpList_append_own _ rfl _ _ 27 rfl w.heap.size 25 i0 (.agg #[.int .i64 0, .int .i64 0]) 2 16 Try.underlying27 hi hz0 hz1 hz2 rfl (by decide) _ _ _ rfl (World.ownsRow.alloc (w := w2) HO2.out _) ⟨w2.heap.size, 0, none⟩ 1 1 [.int .i64 X, .int .i64 Y] rfl rfl ?c1 ?c2 ?c3 ?c4 ?c5 ?_)
        case c1 => exact cell_two_new _ _ _ _
        case c2 => intro u hu; simp at hu; rcases hu with rfl | rfl <;> rfl
        case c3 => exact (small_len (n := len) (by omega)).1
        case c4 => exact (small_len (n := len) (by omega)).2
        case c5 => have := B2.size; simp; omega
        intro v' w3 hown' hgrow _
        obtain ⟨gn, capn, rfl⟩ := ownsRow_succ hown'
        have B3 : Below w.heap.size w w3 := by
          have hb0 : Below w.heap.size w (w2.alloc (.cells #[.int .i64 X, .int .i64 Y] 25)) := belowAlloc B2 _
          refine hb0.grown hgrow hb0.size (fun r e => ?_)
          rcases HO2.out.2 with ⟨hv, _⟩ | ⟨g0, c0, cur, hv, hv2, _⟩
          · rw [hv] at e; simp [Value.ownBlock] at e
          · rw [hv] at e; simp [Value.ownBlock] at e; omega
        have HO3 := Lib.hid hown'
        clear hown' hgrow HO2 x0 x1
        go_wp2
        go_roundw
        case rel =>
          refine ⟨k + 1, len + 1, _, _, rfl, by go_num, by omega, by omega, Lib.hid ⟨?_, ?_, B3⟩⟩
          · simp only [angF, List.length_append, List.length_cons, List.length_nil, HLen.out, HST.out]
          · simp only [angF, flatA_app, HST.out]
            exact HO3.out
        case measure => simp [intOf]; omega
      · obtain HE := HY.out (fun h => hpv (HN.out.2 h))
        have hq3 : ((pv : Int) == (N : Int)) = false := by simp; omega
        go_wp2
        go_roundw
        case rel =>
          refine ⟨k + 1, len, _, _, rfl, by go_num, by omega, by omega, Lib.hid ⟨?_, ?_, B2⟩⟩
          · simp only [angF, List.length_append, HST.out, HE, List.length_nil, Nat.add_zero]; exact HLen.out
          · simp only [angF, HST.out, HE, List.append_nil]
            exact HO2.out
        case measure => simp [intOf]; omega
    · obtain rfl : k = D := by omega
      obtain ⟨hlen, hown, hB⟩ := H.out
      have HO := Lib.hid (ownA_of_row hlen hown)
      have HCap := Lib.hid (ownsCap hown)
      have HLen := Lib.hid hlen
      clear hlen hown H
      go_wp2
      go_ret
      rw [HLen.out]
      refine ⟨A, cap, HCap.out, rfl, HO.out, ?_⟩
      (repeat' (first | (with_reducible exact Below.refl _ _) | (with_reducible assumption) | (with_reducible refine belowNext ?_ (by with_reducible assumption)) | (with_reducible refine belowAlloc ?_ _) | (with_reducible refine Below.drew ?_) | (with_reducible refine below_drewN ?_ _) | (with_reducible refine Below.setCell ?_ ?_ _) | go_size | (with_reducible refine sizeOf' ?_) | (with_reducible refine sizeAdd ?_) | (dsimp only; first | (with_reducible refine sizeOf' ?_) | (with_reducible refine sizeAdd ?_))))

end Go.Proofs.Ytnciiodgkanpjaa

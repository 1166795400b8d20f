/-
  Contracts: FailsFor and IsAdmissible, on both sides; the walks of their laws; written by genE16.py.
-/
import Derived.Test.YtomcmjnhfloeeaaDoorE15
import Derived.Test.YtomcmjnhfloeeaaDoorE11
import Derived.Test.YtomcmjnhfloeeaaDoorD11
namespace Go.Proofs.YtomcmjnhfloeeaaDoor
open Go.RowKit

theorem YesOf.at {P : Prop} {e : Ending} {B : Bool} (hB : B = true ↔ P) (h : YesOf e P) : e = .returned (.bool B) := by
  obtain ⟨r, rfl, hr⟩ := h
  have : r = true ↔ B = true := hr.out.trans hB.symm
  cases r <;> cases B <;> simp_all
theorem yes_ex (P : Prop) : ∃ B : Bool, B = true ↔ P := by
  by_cases h : P
  · exact ⟨true, by simp [h]⟩
  · exact ⟨false, by simp [h]⟩
/-- In a star-periodic sequence each shift by less than the period is another one. -/
theorem star_rho {x y : Wd} (h : isSeq x y = true) (hs : starQ x y = true) : ∀ k, 1 ≤ k → k < y.length → rhoN x y k ≠ 0 := by
  intro k h1 h2 hz
  obtain ⟨-, -, hy, h64, -⟩ := isSeq_yes h
  unfold starQ at hs
  simp only [Bool.and_eq_true, decide_eq_true_eq, Bool.not_eq_true'] at hs
  obtain ⟨hx, h42, -, hin⟩ := hs
  rcases sh_diff h k with ⟨-, hat⟩ | ⟨hne, -⟩
  · have e := hat (y.length - 1)
    have e1 : atL x y (k + (y.length - 1)) = y.getD (k - 1) 0 := by
      unfold atL
      rw [if_neg (by omega)]
      congr 1
      rw [hx, show k + (y.length - 1) - 0 = (k - 1) + y.length by omega, Nat.add_mod_right, Nat.mod_eq_of_lt (by omega)]
    have e2 : atL x y (y.length - 1) = y.getD (y.length - 1) 0 := by
      unfold atL
      rw [if_neg (by omega)]
      congr 1
      rw [hx, Nat.sub_zero, Nat.mod_eq_of_lt (by omega)]
    rw [e1, e2] at e
    have := starIn_yes (y := y) (m := y.length - 1) (i := k - 1) (by omega) (by rw [e]; exact h42)
    rw [this] at hin
    cases hin
  · unfold rhoN at hz
    rw [if_neg hne] at hz
    omega

set_option maxHeartbeats 2000000 in
theorem specInP (n lo hi : Int) (w : World) :
    Calls Tryd.prog 44 #[.int .i64 n, .int .i64 lo, .int .i64 hi] w fun e w' => e = .returned (.bool (decide (lo ≤ n) && decide (n ≤ hi))) ∧ Below w.heap.size w w' := by
  cases h1 : decide (lo ≤ n)
  · have h1' : decide (n ≥ lo) = false := h1
    go_enter Tryd.func44, Tryd.ntmps44
    go_wp2
    go_ret
    exact ⟨rfl, Below.refl _ _⟩
  · have h1' : decide (n ≥ lo) = true := h1
    cases h2 : decide (n ≤ hi)
    all_goals
      go_enter Tryd.func44, Tryd.ntmps44
      go_wp2
      go_ret
      exact ⟨rfl, Below.refl _ _⟩

/-- What FailsFor answers. -/
def FfIs (x y : Wd) (k : Int) (B : Bool) (C : Int) : Prop :=
  (isSeq x y = false ∧ B = false ∧ C = 1) ∨ (isSeq x y = true ∧ starQ x y = false ∧ B = false ∧ C = 5) ∨
    (isSeq x y = true ∧ starQ x y = true ∧ ¬ (1 ≤ k ∧ k < (y.length : Int)) ∧ B = false ∧ C = 2) ∨
    (isSeq x y = true ∧ starQ x y = true ∧ (1 ≤ k ∧ k < (y.length : Int)) ∧ (B = true ↔ FailsN x y k.toNat) ∧ C = 0)
theorem ff_ex (x y : Wd) (k : Int) : ∃ B C, FfIs x y k B C := by
  cases h1 : isSeq x y
  · exact ⟨false, 1, .inl ⟨h1, rfl, rfl⟩⟩
  · cases h2 : starQ x y
    · exact ⟨false, 5, .inr (.inl ⟨h1, h2, rfl, rfl⟩)⟩
    · by_cases h3 : 1 ≤ k ∧ k < (y.length : Int)
      · obtain ⟨B, hB⟩ := yes_ex (FailsN x y k.toNat)
        exact ⟨B, 0, .inr (.inr (.inr ⟨h1, h2, h3, hB, rfl⟩))⟩
      · exact ⟨false, 2, .inr (.inr (.inl ⟨h1, h2, h3, rfl, rfl⟩))⟩

set_option maxRecDepth 8000 in
set_option maxHeartbeats 4000000 in
theorem implFailsFor (x y : Wd) (k : Int) (w : World) (hxy : x.length + y.length ≤ 1048576) (B : Bool) (C : Int) (hd : FfIs x y k B C) :
    Calls Tryd.prog 21 #[sqV x y, .int .i64 k] w fun e w' => e = .returned (.tuple #[.bool B, .int .i64 C]) ∧ Below w.heap.size w w' := by
  have H1 := Lib.hid (fun w => implIsSeq x y w hxy)
  have hly := fun W => lenS 9 3 y Tryd.underlying9 W
  have S0 := sqs0 w x y 25
  rcases hd with ⟨h1, rfl, rfl⟩ | ⟨h1, h2, rfl, rfl⟩ | ⟨h1, h2, h3, rfl, rfl⟩ | ⟨h1, h2, ⟨h3, h4⟩, hB, rfl⟩
  · rw [h1] at H1
    clear h1 hxy hly
    go_enter Tryd.func21, Tryd.ntmps21
    go_wp2_with fail
    refine (H1.out _).mono ?_
    rintro e w1 ⟨rfl, hb1⟩
    have S1 := S0.on hb1
    go_wp2
    go_ret2
    exact ⟨rfl, S1.B⟩
  · obtain ⟨-, hl, hy, h64, -⟩ := isSeq_yes h1
    have H2 := Lib.hid (fun w => implStar x y w hl hy h64)
    rw [h1] at H1
    rw [h2] at H2
    clear h1 h2 hxy hl hy h64 hly
    go_enter Tryd.func21, Tryd.ntmps21
    go_wp2_with fail
    refine (H1.out _).mono ?_
    rintro e w1 ⟨rfl, hb1⟩
    have S1 := S0.on hb1
    clear S0 hb1
    obtain ⟨bb, z, c0, c1⟩ := id S1
    go_wp2_with fail
    refine (H2.out _).mono ?_
    rintro e w2 ⟨rfl, hb2⟩
    have S2 := S1.on hb2
    clear S1 hb2 bb z c0 c1
    go_wp2
    go_ret2
    exact ⟨rfl, S2.B⟩
  · obtain ⟨-, hl, hy, h64, -⟩ := isSeq_yes h1
    have H2 := Lib.hid (fun w => implStar x y w hl hy h64)
    rw [h1] at H1
    rw [h2] at H2
    obtain ⟨n, hn⟩ : ∃ n, (y.length : Int) = n := ⟨_, rfl⟩
    rw [hn] at hly h3
    clear h1 h2 hxy hl hy h64 hn
    by_cases hk1 : k < 1
    · have d1 : decide (k < 1) = true := decide_eq_true hk1
      go_enter Tryd.func21, Tryd.ntmps21
      go_wp2_with fail
      refine (H1.out _).mono ?_
      rintro e w1 ⟨rfl, hb1⟩
      have S1 := S0.on hb1
      clear S0 hb1
      obtain ⟨bb, z, c0, c1⟩ := id S1
      go_wp2_with fail
      refine (H2.out _).mono ?_
      rintro e w2 ⟨rfl, hb2⟩
      have S2 := S1.on hb2
      clear S1 hb2 bb z c0 c1
      go_wp2
      go_ret2
      exact ⟨rfl, S2.B⟩
    · have d1 : decide (k < 1) = false := decide_eq_false hk1
      have d2 : decide (k ≥ n) = true := decide_eq_true (by omega)
      have d3 : decide (n ≤ k) = true := d2
      go_enter Tryd.func21, Tryd.ntmps21
      go_wp2_with fail
      refine (H1.out _).mono ?_
      rintro e w1 ⟨rfl, hb1⟩
      have S1 := S0.on hb1
      clear S0 hb1
      obtain ⟨bb, z, c0, c1⟩ := id S1
      go_wp2_with fail
      refine (H2.out _).mono ?_
      rintro e w2 ⟨rfl, hb2⟩
      have S2 := S1.on hb2
      clear S1 hb2 bb z c0 c1
      obtain ⟨bb, z, c0, c1⟩ := id S2
      go_wp2
      go_ret2
      exact ⟨rfl, S2.B⟩
  · obtain ⟨-, hl, hy, h64, -⟩ := isSeq_yes h1
    have H2 := Lib.hid (fun w => implStar x y w hl hy h64)
    rw [h1] at H1
    rw [h2] at H2
    obtain ⟨m, hm⟩ : ∃ m : Nat, k = (m : Int) := ⟨k.toNat, by omega⟩
    subst hm
    rw [Int.toNat_natCast] at hB
    have hok : ∀ j, 1 ≤ j → j ≤ m → rhoN x y j ≠ 0 := fun j hj1 hj2 => star_rho h1 h2 j hj1 (by omega)
    have HT := Lib.hid (fun w => implTab x y w h1)
    have HF : Hid (∀ g W, (∃ n, ownsT W g n (tabD x y (x.length + y.length))) → Calls Tryd.prog 51 #[tabV x y g, .int .i64 (m : Int)] W fun e w' => e = .returned (.bool B) ∧ Below W.heap.size W w') := Lib.hid (fun g W hW => (implFails x y g m W h1 hW (by omega) (by omega) hok).mono fun e w' he => ⟨he.1.at hB, he.2⟩)
    have hd1 : decide ((m : Int) < 1) = false := decide_eq_false (by omega)
    have hd2 : decide ((m : Int) ≥ (y.length : Int)) = false := decide_eq_false (by omega)
    have hd3 : decide ((y.length : Int) ≤ (m : Int)) = false := hd2
    have hd4 : decide (y.length ≤ m) = false := decide_eq_false (by omega)
    have hd5 : m ≠ 0 := by omega
    have hd6 : (m < 1) = False := eq_false (by omega)
    clear h1 h2 hxy hl hy h64 hB hok
    go_enter Tryd.func21, Tryd.ntmps21
    go_wp2_with fail
    refine (H1.out _).mono ?_
    rintro e w1 ⟨rfl, hb1⟩
    have S1 := S0.on hb1
    clear S0 hb1
    obtain ⟨bb, z, c0, c1⟩ := id S1
    go_wp2_with fail
    refine (H2.out _).mono ?_
    rintro e w2 ⟨rfl, hb2⟩
    have S2 := S1.on hb2
    clear S1 hb2 bb z c0 c1
    obtain ⟨bb, z, c0, c1⟩ := id S2
    go_wp2_with fail
    refine (HT.out _).mono ?_
    rintro e w3 ⟨g, n, rfl, hm2, -, hb3⟩
    have S3 := S2.on hb3
    have M2 := Lib.hid hm2
    clear bb z c0 c1 hm2 hb3 S2
    go_wp2_with fail
    refine (HF.out g _ ⟨n, M2.out⟩).mono ?_
    rintro e w4 ⟨rfl, hb4⟩
    have S4 := S3.on hb4
    go_wp2
    go_ret2
    exact ⟨rfl, S4.B⟩

set_option maxRecDepth 8000 in
set_option maxHeartbeats 4000000 in
theorem specFailsFor (x y : Wd) (k : Int) (w : World) (hxy : x.length + y.length ≤ 1048576) (B : Bool) (C : Int) (hd : FfIs x y k B C) :
    Calls Tryd.prog 20 #[sqV x y, .int .i64 k] w fun e w' => e = .returned (.tuple #[.bool B, .int .i64 C]) ∧ Below w.heap.size w w' := by
  have H1 := Lib.hid (fun w => specL01Seq x y w hxy)
  have hly := fun W => lenS 9 3 y Tryd.underlying9 W
  have S0 := sqs0 w x y 25
  rcases hd with ⟨h1, rfl, rfl⟩ | ⟨h1, h2, rfl, rfl⟩ | ⟨h1, h2, h3, rfl, rfl⟩ | ⟨h1, h2, ⟨h3, h4⟩, hB, rfl⟩
  · rw [h1] at H1
    clear h1 hxy hly
    go_enter Tryd.func20, Tryd.ntmps20
    go_wp2_with fail
    refine (H1.out _).mono ?_
    rintro e w1 ⟨rfl, hb1⟩
    have S1 := S0.on hb1
    go_wp2
    go_ret2
    exact ⟨rfl, S1.B⟩
  · obtain ⟨-, hl, hy, h64, -⟩ := isSeq_yes h1
    have H2 := Lib.hid (fun w => specStar x y w hy h64)
    rw [h1] at H1
    rw [h2] at H2
    clear h1 h2 hxy hl hy h64 hly
    go_enter Tryd.func20, Tryd.ntmps20
    go_wp2_with fail
    refine (H1.out _).mono ?_
    rintro e w1 ⟨rfl, hb1⟩
    have S1 := S0.on hb1
    clear S0 hb1
    obtain ⟨bb, z, c0, c1⟩ := id S1
    go_wp2_with fail
    refine (H2.out _).mono ?_
    rintro e w2 ⟨rfl, hb2⟩
    have S2 := S1.on hb2
    clear S1 hb2 bb z c0 c1
    go_wp2
    go_ret2
    exact ⟨rfl, S2.B⟩
  · obtain ⟨-, hl, hy, h64, -⟩ := isSeq_yes h1
    have H2 := Lib.hid (fun w => specStar x y w hy h64)
    rw [h1] at H1
    rw [h2] at H2
    obtain ⟨n, hn⟩ : ∃ n, (y.length : Int) = n := ⟨_, rfl⟩
    rw [hn] at hly h3
    obtain ⟨nm, hnm⟩ : ∃ nm, n - 1 = nm := ⟨_, rfl⟩
    have wn : IntKind.i64.wrap (n - 1) = nm := by rw [IntWalk.i64_in _ (by omega)]; exact hnm
    have H3 := Lib.hid (fun w => specInP k 1 nm w)
    have e : (decide (1 ≤ k) && decide (k ≤ nm)) = false := by
      cases hh : (decide (1 ≤ k) && decide (k ≤ nm))
      · rfl
      · rw [Bool.and_eq_true, decide_eq_true_eq, decide_eq_true_eq] at hh
        exact absurd ⟨hh.1, by omega⟩ h3
    rw [e] at H3
    clear h1 h2 hxy hl hy h64 hn h3 e hnm
    go_enter Tryd.func20, Tryd.ntmps20
    go_wp2_with fail
    refine (H1.out _).mono ?_
    rintro e w1 ⟨rfl, hb1⟩
    have S1 := S0.on hb1
    clear S0 hb1
    obtain ⟨bb, z, c0, c1⟩ := id S1
    go_wp2_with fail
    refine (H2.out _).mono ?_
    rintro e w2 ⟨rfl, hb2⟩
    have S2 := S1.on hb2
    clear S1 hb2 bb z c0 c1
    obtain ⟨bb, z, c0, c1⟩ := id S2
    go_wp2_with fail
    refine (H3.out _).mono ?_
    rintro e w3 ⟨rfl, hb3⟩
    have S3 := S2.on hb3
    go_wp2
    go_ret2
    exact ⟨rfl, S3.B⟩
  · obtain ⟨-, hl, hy, h64, -⟩ := isSeq_yes h1
    have H2 := Lib.hid (fun w => specStar x y w hy h64)
    rw [h1] at H1
    rw [h2] at H2
    obtain ⟨m, hm⟩ : ∃ m : Nat, k = (m : Int) := ⟨k.toNat, by omega⟩
    subst hm
    rw [Int.toNat_natCast] at hB
    have hok : ∀ j, 1 ≤ j → j ≤ m → rhoN x y j ≠ 0 := fun j hj1 hj2 => star_rho h1 h2 j hj1 (by omega)
    have HF : Hid (∀ W, Calls Tryd.prog 49 #[sqV x y, .int .i64 (m : Int)] W fun e w' => e = .returned (.bool B) ∧ Below W.heap.size W w') := Lib.hid (fun W => (specFails x y m W h1 (by omega) (by omega) hok).mono fun e w' he => ⟨he.1.at hB, he.2⟩)
    obtain ⟨n, hn⟩ : ∃ n, (y.length : Int) = n := ⟨_, rfl⟩
    rw [hn] at hly h4
    obtain ⟨nm, hnm⟩ : ∃ nm, n - 1 = nm := ⟨_, rfl⟩
    have wn : IntKind.i64.wrap (n - 1) = nm := by rw [IntWalk.i64_in _ (by omega)]; exact hnm
    have H3 := Lib.hid (fun w => specInP (m : Int) 1 nm w)
    have e : (decide (1 ≤ (m : Int)) && decide ((m : Int) ≤ nm)) = true := by rw [decide_eq_true (by omega), decide_eq_true (by omega)]; rfl
    rw [e] at H3
    clear h1 h2 hxy hl hy h64 hn h3 h4 e hB hok hnm
    go_enter Tryd.func20, Tryd.ntmps20
    go_wp2_with fail
    refine (H1.out _).mono ?_
    rintro e w1 ⟨rfl, hb1⟩
    have S1 := S0.on hb1
    clear S0 hb1
    obtain ⟨bb, z, c0, c1⟩ := id S1
    go_wp2_with fail
    refine (H2.out _).mono ?_
    rintro e w2 ⟨rfl, hb2⟩
    have S2 := S1.on hb2
    clear S1 hb2 bb z c0 c1
    obtain ⟨bb, z, c0, c1⟩ := id S2
    go_wp2_with fail
    refine (H3.out _).mono ?_
    rintro e w3 ⟨rfl, hb3⟩
    have S3 := S2.on hb3
    clear S2 hb3 bb z c0 c1
    obtain ⟨bb, z, c0, c1⟩ := id S3
    go_wp2_with fail
    refine (HF.out _).mono ?_
    rintro e w4 ⟨rfl, hb4⟩
    have S4 := S3.on hb4
    go_wp2
    go_ret2
    exact ⟨rfl, S4.B⟩

set_option maxHeartbeats 2000000 in
theorem lawFailsFor (x y : Wd) (hx : x.length ≤ maxLen) (hy : y.length ≤ maxLen) (k : Int) (_ : (Lit.int .i64 k).wf = true) (w : World) :
    Calls Tryd.prog 6 #[sqV x y, .int .i64 k] w fun e w' => e = .returned (.bool true) ∧ Below w.heap.size w w' := by
  have HZ := Lib.hid (fun w => szSeq x y w (by unfold maxLen at hx; omega) (by unfold maxLen at hy; omega))
  have HT := Lib.hid (fun w => toSeq x y w)
  rcases szQ_cases x y with h | ⟨h, hxy⟩
  · rw [h] at HZ
    clear h hx hy
    go_enter Tryd.func6, Tryd.ntmps6
    go_wp2_with fail
    refine (HZ.out _).mono ?_
    rintro e w2 ⟨rfl, hb2⟩
    have hS := keepQ hb2 keepQ0
    clear hb2
    obtain ⟨u1, u2, u3, u4⟩ := hS
    go_wp2
    go_ret
    exact ⟨rfl, u2⟩
  · obtain ⟨R, C, hd⟩ := ff_ex x y k
    have HA := Lib.hid (fun w => specFailsFor x y k w hxy R C hd)
    have HB := Lib.hid (fun w => implFailsFor x y k w hxy R C hd)
    clear hd
    have hlt : decide (szQ x y < 0) = false := by simp; omega
    generalize szQ x y = z at *
    clear h hx hy hxy
    go_enter Tryd.func6, Tryd.ntmps6
    go_wp2_with fail
    refine (HZ.out _).mono ?_
    rintro e w2 ⟨rfl, hb2⟩
    have hS := keepQ hb2 keepQ0
    clear hb2
    obtain ⟨u1, u2, u3, u4⟩ := id hS
    go_wp2_with fail
    refine (HT.out _).mono ?_
    rintro e w3 ⟨rfl, hb3⟩
    have hS3 := keepQ hb3 hS
    clear hb3 u1 u2 u3 u4 hS
    obtain ⟨u1, u2, u3, u4⟩ := id hS3
    go_wp2_with fail
    refine (HA.out _).mono ?_
    rintro e w4 ⟨rfl, hb4⟩
    have hS4 := keepQ hb4 hS3
    clear hb4 u1 u2 u3 u4 hS3
    obtain ⟨u1, u2, u3, u4⟩ := id hS4
    go_wp2_with fail
    refine (HT.out _).mono ?_
    rintro e w5 ⟨rfl, hb5⟩
    have hS5 := keepQ hb5 hS4
    clear hb5 u1 u2 u3 u4 hS4
    obtain ⟨u1, u2, u3, u4⟩ := id hS5
    go_wp2_with fail
    refine (HB.out _).mono ?_
    rintro e w6 ⟨rfl, hb6⟩
    have hS6 := keepQ hb6 hS5
    clear hb6 u1 u2 u3 u4 hS5
    obtain ⟨u1, u2, u3, u4⟩ := id hS6
    go_wp2
    go_ret
    exact ⟨rfl, u2⟩

/-- No number for which the sequence fails. -/
def GoodN (x y : Wd) : Prop := ∀ m, 1 ≤ m → m < y.length → ¬ FailsN x y m
/-- The boxes of a sequence and of its table, kept. -/
structure GdS (w : World) (x y : Wd) (b g : Nat) (W : World) : Prop where
  S : SqS w x y W
  z : b < W.heap.size
  t0 : W.cell? ⟨b, 0, none⟩ = some (.string (bs x))
  t1 : W.cell? ⟨b, 1, none⟩ = some (.string (bs y))
  t2 : W.cell? ⟨b, 2, none⟩ = some (.map (some g))
  m : ∃ n, ownsT W g n (tabD x y (x.length + y.length))
theorem GdS.on {w W w1 : World} {x y : Wd} {b g : Nat} (H : GdS w x y b g W) (hb : Below W.heap.size W w1) : GdS w x y b g w1 :=
  ⟨H.S.on hb, Nat.lt_of_lt_of_le H.z hb.size, cellThru hb H.z H.t0, cellThru hb H.z H.t1, cellThru hb H.z H.t2, ownsT_on H.m hb⟩

set_option maxRecDepth 8000 in
set_option maxHeartbeats 4000000 in
theorem implGood (x y : Wd) (w : World) (h : isSeq x y = true) (hok : ∀ k, 1 ≤ k → k < y.length → rhoN x y k ≠ 0) :
    Calls Tryd.prog 53 #[sqV x y] w fun e w' => YesOf e (GoodN x y) ∧ Below w.heap.size w w' := by
  obtain ⟨-, -, hy, h64, -⟩ := isSeq_yes h
  have HT := Lib.hid (fun w => implTab x y w h)
  have HF := Lib.hid (fun (g m : Nat) (W : World) (hW : ∃ n, ownsT W g n (tabD x y (x.length + y.length))) (h1 : 0 < m) (h2 : m < y.length) => implFails x y g m W h hW h1 (by omega) (fun k a b => hok k a (by omega)))
  have hly := fun W => lenS 9 3 y Tryd.underlying9 W
  have S0 := sqs0 w x y 25
  have HG : Hid (∀ n, y.length = n → ((∀ m, 1 ≤ m → m < n → ¬ FailsN x y m) ↔ GoodN x y)) := Lib.hid (fun n hn => by subst hn; rfl)
  obtain ⟨n, hn⟩ : ∃ n, y.length = n := ⟨_, rfl⟩
  have HG' := Lib.hid (HG.out n hn)
  have HN0 := Lib.hid hn
  rw [hn] at hly HF hy h64
  clear h hok hn HG
  go_enter Tryd.func53, Tryd.ntmps53
  go_wp2_with fail
  refine (HT.out _).mono ?_
  rintro e w2 ⟨g, n2, rfl, hm2, -, hb2⟩
  have S2 := S0.on hb2
  have M2 := Lib.hid hm2
  obtain ⟨bb, zz, c0, c1⟩ := id S2
  clear S0 hb2 hm2 HT
  go_wp2
  have G0 : GdS w x y w2.heap.size g (w2.alloc (.cells #[.string (bs x), .string (bs y), .map (some g)] 61)) :=
    ⟨S2.on (belowAlloc (Below.refl _ _) _), by simp, by simp [go_sem], by simp [go_sem], by simp [go_sem], ⟨n2, M2.out.alloc _⟩⟩
  clear S2 M2 bb zz c0 c1
  go_loopw [4] (fun s wr => ∃ k : Nat, 1 ≤ k ∧ k ≤ n ∧ s = .int .i64 (k : Int) ∧ Hid (∀ m, 1 ≤ m → m < k → ¬ FailsN x y m) ∧ GdS w x y w2.heap.size g wr) (fun s _ => n - (intOf s).toNat)
  case atStart => exact ⟨1, by omega, by omega, rfl, Lib.hid (fun j h1 h2 => absurd h1 (by omega)), G0⟩
  case round =>
    clear G0
    obtain ⟨k, hk1, hkn, rfl, HN, S⟩ := hrel
    obtain ⟨⟨bb, zz, c0, c1⟩, zt, t0, t1, t2, HM⟩ := id S
    by_cases hlt : k < n
    · have d1 : decide ((k : Int) < (n : Int)) = true := decide_eq_true (by omega)
      have d1n : decide (k < n) = true := decide_eq_true hlt
      have d1p : (k < n) = True := eq_true hlt
      have HFk := Lib.hid (HF.out g k wr (by rw [HN0.out] at HM; exact HM) (by omega) hlt)
      clear HM
      go_wp2_with fail
      refine HFk.out.mono ?_
      rintro e w3 ⟨⟨r, rfl, Hr⟩, hb3⟩
      have S3 := S.on hb3
      clear S hb3 c0 c1 zt t0 t1 t2 bb zz HFk
      cases r with
      | true =>
        have HE : Hid (false = true ↔ GoodN x y) := Lib.hid ⟨fun h => (by cases h), fun h => absurd (Hr.out.1 rfl) (HG'.out.2 h k hk1 hlt)⟩
        go_wp2
        go_ret
        exact ⟨.mk false rfl HE, S3.S.B⟩
      | false =>
        have HN' : Hid (∀ m, 1 ≤ m → m < k + 1 → ¬ FailsN x y m) := Lib.hid (fun m h1 h2 hf => by
          by_cases e : m = k
          · subst e; have := Hr.out.2 hf; cases this
          · exact HN.out m h1 (by omega) hf)
        go_wp2
        go_roundw
        case rel => exact ⟨k + 1, by omega, by omega, by go_num, HN', S3⟩
        case measure => simp [intOf]; omega
    · obtain rfl : k = n := by omega
      have HE : Hid (GoodN x y) := Lib.hid (HG'.out.1 HN.out)
      go_wp2
      go_ret
      exact ⟨.mk true rfl (Lib.hid ⟨fun _ => HE.out, fun _ => rfl⟩), S.S.B⟩

set_option maxRecDepth 8000 in
set_option maxHeartbeats 4000000 in
theorem specGood (x y : Wd) (w : World) (h : isSeq x y = true) (hok : ∀ k, 1 ≤ k → k < y.length → rhoN x y k ≠ 0) :
    Calls Tryd.prog 52 #[sqV x y] w fun e w' => YesOf e (GoodN x y) ∧ Below w.heap.size w w' := by
  obtain ⟨-, -, hy, h64, -⟩ := isSeq_yes h
  have HF := Lib.hid (fun (m : Nat) (W : World) (h1 : 0 < m) (h2 : m < y.length) => specFails x y m W h h1 (by omega) (fun k a b => hok k a (by omega)))
  have hly := fun W => lenS 9 3 y Tryd.underlying9 W
  have S0 := sqs0 w x y 25
  have HG : Hid (∀ n, y.length = n → ((∀ m, 1 ≤ m → m < n → ¬ FailsN x y m) ↔ GoodN x y)) := Lib.hid (fun n hn => by subst hn; rfl)
  obtain ⟨n, hn⟩ : ∃ n, y.length = n := ⟨_, rfl⟩
  have HG' := Lib.hid (HG.out n hn)
  rw [hn] at hly HF hy h64
  clear h hok hn HG
  go_enter Tryd.func52, Tryd.ntmps52
  go_wp2
  go_loopw [3] (fun s wr => ∃ k : Nat, 1 ≤ k ∧ k ≤ n ∧ s = .int .i64 (k : Int) ∧ Hid (∀ m, 1 ≤ m → m < k → ¬ FailsN x y m) ∧ SqS w x y wr) (fun s _ => n - (intOf s).toNat)
  case atStart => exact ⟨1, by omega, by omega, rfl, Lib.hid (fun j h1 h2 => absurd h1 (by omega)), S0⟩
  case round =>
    clear S0
    obtain ⟨k, hk1, hkn, rfl, HN, S⟩ := hrel
    obtain ⟨bb, zz, c0, c1⟩ := id S
    by_cases hlt : k < n
    · have d1 : decide ((k : Int) < (n : Int)) = true := decide_eq_true (by omega)
      have d1n : decide (k < n) = true := decide_eq_true hlt
      have d1p : (k < n) = True := eq_true hlt
      have HFk := Lib.hid (HF.out k wr (by omega) hlt)
      go_wp2_with fail
      refine HFk.out.mono ?_
      rintro e w3 ⟨⟨r, rfl, Hr⟩, hb3⟩
      have S3 := S.on hb3
      clear S hb3 c0 c1 bb zz HFk
      cases r with
      | true =>
        have HE : Hid (false = true ↔ GoodN x y) := Lib.hid ⟨fun h => (by cases h), fun h => absurd (Hr.out.1 rfl) (HG'.out.2 h k hk1 hlt)⟩
        go_wp2
        go_ret
        exact ⟨.mk false rfl HE, S3.B⟩
      | false =>
        have HN' : Hid (∀ m, 1 ≤ m → m < k + 1 → ¬ FailsN x y m) := Lib.hid (fun m h1 h2 hf => by
          by_cases e : m = k
          · subst e; have := Hr.out.2 hf; cases this
          · exact HN.out m h1 (by omega) hf)
        go_wp2
        go_roundw
        case rel => exact ⟨k + 1, by omega, by omega, by go_num, HN', S3⟩
        case measure => simp [intOf]; omega
    · obtain rfl : k = n := by omega
      have HE : Hid (GoodN x y) := Lib.hid (HG'.out.1 HN.out)
      go_wp2
      go_ret
      exact ⟨.mk true rfl (Lib.hid ⟨fun _ => HE.out, fun _ => rfl⟩), S.B⟩

/-- What IsAdmissible answers. -/
def AdIs (x y : Wd) (B : Bool) (C : Int) : Prop :=
  (isSeq x y = false ∧ B = false ∧ C = 1) ∨ (isSeq x y = true ∧ starQ x y = false ∧ B = false ∧ C = 5) ∨
    (isSeq x y = true ∧ starQ x y = true ∧ (B = true ↔ GoodN x y) ∧ C = 0)
theorem ad_ex (x y : Wd) : ∃ B C, AdIs x y B C := by
  cases h1 : isSeq x y
  · exact ⟨false, 1, .inl ⟨h1, rfl, rfl⟩⟩
  · cases h2 : starQ x y
    · exact ⟨false, 5, .inr (.inl ⟨h1, h2, rfl, rfl⟩)⟩
    · obtain ⟨B, hB⟩ := yes_ex (GoodN x y)
      exact ⟨B, 0, .inr (.inr ⟨h1, h2, hB, rfl⟩)⟩

set_option maxHeartbeats 4000000 in
theorem implIsAd (x y : Wd) (w : World) (hxy : x.length + y.length ≤ 1048576) (B : Bool) (C : Int) (hd : AdIs x y B C) :
    Calls Tryd.prog 23 #[sqV x y] w fun e w' => e = .returned (.tuple #[.bool B, .int .i64 C]) ∧ Below w.heap.size w w' := by
  have H1 := Lib.hid (fun w => implIsSeq x y w hxy)
  have S0 := sqs0 w x y 25
  rcases hd with ⟨h1, rfl, rfl⟩ | ⟨h1, h2, rfl, rfl⟩ | ⟨h1, h2, hB, rfl⟩
  · rw [h1] at H1
    clear h1 hxy
    go_enter Tryd.func23, Tryd.ntmps23
    go_wp2_with fail
    refine (H1.out _).mono ?_
    rintro e w1 ⟨rfl, hb1⟩
    have S1 := S0.on hb1
    clear S0 hb1
    go_wp2
    go_ret2
    exact ⟨rfl, S1.B⟩
  · obtain ⟨-, hl, hy, h64, -⟩ := isSeq_yes h1
    have H2 := Lib.hid (fun w => implStar x y w hl hy h64)
    rw [h1] at H1
    rw [h2] at H2
    clear h1 h2 hxy hl hy h64
    go_enter Tryd.func23, Tryd.ntmps23
    go_wp2_with fail
    refine (H1.out _).mono ?_
    rintro e w1 ⟨rfl, hb1⟩
    have S1 := S0.on hb1
    clear S0 hb1
    obtain ⟨bb, z, c0, c1⟩ := id S1
    go_wp2_with fail
    refine (H2.out _).mono ?_
    rintro e w2 ⟨rfl, hb2⟩
    have S2 := S1.on hb2
    clear S1 hb2 bb z c0 c1
    go_wp2
    go_ret2
    exact ⟨rfl, S2.B⟩
  · obtain ⟨-, hl, hy, h64, -⟩ := isSeq_yes h1
    have H2 := Lib.hid (fun w => implStar x y w hl hy h64)
    rw [h1] at H1
    rw [h2] at H2
    have HF : Hid (∀ W, Calls Tryd.prog 53 #[sqV x y] W fun e w' => e = .returned (.bool B) ∧ Below W.heap.size W w') := Lib.hid (fun W => (implGood x y W h1 (star_rho h1 h2)).mono fun e w' he => ⟨he.1.at hB, he.2⟩)
    clear h1 h2 hxy hl hy h64 hB
    go_enter Tryd.func23, Tryd.ntmps23
    go_wp2_with fail
    refine (H1.out _).mono ?_
    rintro e w1 ⟨rfl, hb1⟩
    have S1 := S0.on hb1
    clear S0 hb1
    obtain ⟨bb, z, c0, c1⟩ := id S1
    go_wp2_with fail
    refine (H2.out _).mono ?_
    rintro e w2 ⟨rfl, hb2⟩
    have S2 := S1.on hb2
    clear S1 hb2 bb z c0 c1
    obtain ⟨bb, z, c0, c1⟩ := id S2
    go_wp2_with fail
    refine (HF.out _).mono ?_
    rintro e w3 ⟨rfl, hb3⟩
    have S3 := S2.on hb3
    go_wp2
    go_ret2
    exact ⟨rfl, S3.B⟩

set_option maxHeartbeats 4000000 in
theorem specIsAd (x y : Wd) (w : World) (hxy : x.length + y.length ≤ 1048576) (B : Bool) (C : Int) (hd : AdIs x y B C) :
    Calls Tryd.prog 22 #[sqV x y] w fun e w' => e = .returned (.tuple #[.bool B, .int .i64 C]) ∧ Below w.heap.size w w' := by
  have H1 := Lib.hid (fun w => specL01Seq x y w hxy)
  have S0 := sqs0 w x y 25
  rcases hd with ⟨h1, rfl, rfl⟩ | ⟨h1, h2, rfl, rfl⟩ | ⟨h1, h2, hB, rfl⟩
  · rw [h1] at H1
    clear h1 hxy
    go_enter Tryd.func22, Tryd.ntmps22
    go_wp2_with fail
    refine (H1.out _).mono ?_
    rintro e w1 ⟨rfl, hb1⟩
    have S1 := S0.on hb1
    clear S0 hb1
    go_wp2
    go_ret2
    exact ⟨rfl, S1.B⟩
  · obtain ⟨-, hl, hy, h64, -⟩ := isSeq_yes h1
    have H2 := Lib.hid (fun w => specStar x y w hy h64)
    rw [h1] at H1
    rw [h2] at H2
    clear h1 h2 hxy hl hy h64
    go_enter Tryd.func22, Tryd.ntmps22
    go_wp2_with fail
    refine (H1.out _).mono ?_
    rintro e w1 ⟨rfl, hb1⟩
    have S1 := S0.on hb1
    clear S0 hb1
    obtain ⟨bb, z, c0, c1⟩ := id S1
    go_wp2_with fail
    refine (H2.out _).mono ?_
    rintro e w2 ⟨rfl, hb2⟩
    have S2 := S1.on hb2
    clear S1 hb2 bb z c0 c1
    go_wp2
    go_ret2
    exact ⟨rfl, S2.B⟩
  · obtain ⟨-, hl, hy, h64, -⟩ := isSeq_yes h1
    have H2 := Lib.hid (fun w => specStar x y w hy h64)
    rw [h1] at H1
    rw [h2] at H2
    have HF : Hid (∀ W, Calls Tryd.prog 52 #[sqV x y] W fun e w' => e = .returned (.bool B) ∧ Below W.heap.size W w') := Lib.hid (fun W => (specGood x y W h1 (star_rho h1 h2)).mono fun e w' he => ⟨he.1.at hB, he.2⟩)
    clear h1 h2 hxy hl hy h64 hB
    go_enter Tryd.func22, Tryd.ntmps22
    go_wp2_with fail
    refine (H1.out _).mono ?_
    rintro e w1 ⟨rfl, hb1⟩
    have S1 := S0.on hb1
    clear S0 hb1
    obtain ⟨bb, z, c0, c1⟩ := id S1
    go_wp2_with fail
    refine (H2.out _).mono ?_
    rintro e w2 ⟨rfl, hb2⟩
    have S2 := S1.on hb2
    clear S1 hb2 bb z c0 c1
    obtain ⟨bb, z, c0, c1⟩ := id S2
    go_wp2_with fail
    refine (HF.out _).mono ?_
    rintro e w3 ⟨rfl, hb3⟩
    have S3 := S2.on hb3
    go_wp2
    go_ret2
    exact ⟨rfl, S3.B⟩

set_option maxHeartbeats 2000000 in
theorem lawIsAdmissible (x y : Wd) (hx : x.length ≤ maxLen) (hy : y.length ≤ maxLen) (w : World) :
    Calls Tryd.prog 7 #[sqV x y] w fun e w' => e = .returned (.bool true) ∧ Below w.heap.size w w' := by
  have HZ := Lib.hid (fun w => szSeq x y w (by unfold maxLen at hx; omega) (by unfold maxLen at hy; omega))
  have HT := Lib.hid (fun w => toSeq x y w)
  rcases szQ_cases x y with h | ⟨h, hxy⟩
  · rw [h] at HZ
    clear h hx hy
    go_enter Tryd.func7, Tryd.ntmps7
    go_wp2_with fail
    refine (HZ.out _).mono ?_
    rintro e w2 ⟨rfl, hb2⟩
    have hS := keepQ hb2 keepQ0
    clear hb2
    obtain ⟨u1, u2, u3, u4⟩ := hS
    go_wp2
    go_ret
    exact ⟨rfl, u2⟩
  · obtain ⟨B, C, hd⟩ := ad_ex x y
    have HA := Lib.hid (fun w => specIsAd x y w hxy B C hd)
    have HB := Lib.hid (fun w => implIsAd x y w hxy B C hd)
    clear hd
    have hlt : decide (szQ x y < 0) = false := by simp; omega
    generalize szQ x y = z at *
    clear h hx hy hxy
    go_enter Tryd.func7, Tryd.ntmps7
    go_wp2_with fail
    refine (HZ.out _).mono ?_
    rintro e w2 ⟨rfl, hb2⟩
    have hS := keepQ hb2 keepQ0
    clear hb2
    obtain ⟨u1, u2, u3, u4⟩ := id hS
    go_wp2_with fail
    refine (HT.out _).mono ?_
    rintro e w3 ⟨rfl, hb3⟩
    have hS3 := keepQ hb3 hS
    clear hb3 u1 u2 u3 u4 hS
    obtain ⟨u1, u2, u3, u4⟩ := id hS3
    go_wp2_with fail
    refine (HA.out _).mono ?_
    rintro e w4 ⟨rfl, hb4⟩
    have hS4 := keepQ hb4 hS3
    clear hb4 u1 u2 u3 u4 hS3
    obtain ⟨u1, u2, u3, u4⟩ := id hS4
    go_wp2_with fail
    refine (HT.out _).mono ?_
    rintro e w5 ⟨rfl, hb5⟩
    have hS5 := keepQ hb5 hS4
    clear hb5 u1 u2 u3 u4 hS4
    obtain ⟨u1, u2, u3, u4⟩ := id hS5
    go_wp2_with fail
    refine (HB.out _).mono ?_
    rintro e w6 ⟨rfl, hb6⟩
    have hS6 := keepQ hb6 hS5
    clear hb6 u1 u2 u3 u4 hS5
    obtain ⟨u1, u2, u3, u4⟩ := id hS6
    go_wp2
    go_ret
    exact ⟨rfl, u2⟩
end Go.Proofs.YtomcmjnhfloeeaaDoor

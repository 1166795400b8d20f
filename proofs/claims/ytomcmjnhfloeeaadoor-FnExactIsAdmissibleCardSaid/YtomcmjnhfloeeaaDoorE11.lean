/-
  Contracts: RhoOf, on both sides; the walk of its law.
-/
import Derived.Test.YtomcmjnhfloeeaaDoorE10
import Derived.Test.YtomcmjnhfloeeaaDoorD2
namespace Go.Proofs.YtomcmjnhfloeeaaDoor
open Go.RowKit

/-- What RhoOf answers. -/
def RhIs (x y : Wd) (k N C : Int) : Prop :=
  (isSeq x y = false ∧ N = 0 ∧ C = 1) ∨ (isSeq x y = true ∧ ¬ (1 ≤ k ∧ k ≤ 1000) ∧ N = 0 ∧ C = 2) ∨
    (isSeq x y = true ∧ (1 ≤ k ∧ k ≤ 1000) ∧ ((shQ k.toNat x y = (x, y) ∧ N = 0 ∧ C = 4) ∨ (shQ k.toNat x y ≠ (x, y) ∧ N = (rhoN x y k.toNat : Int) ∧ C = 0)))
theorem rh_ex (x y : Wd) (k : Int) : ∃ N C, RhIs x y k N C := by
  cases h1 : isSeq x y
  · exact ⟨0, 1, .inl ⟨h1, rfl, rfl⟩⟩
  · by_cases h2 : 1 ≤ k ∧ k ≤ 1000
    · by_cases h3 : shQ k.toNat x y = (x, y)
      · exact ⟨0, 4, .inr (.inr ⟨h1, h2, .inl ⟨h3, rfl, rfl⟩⟩)⟩
      · exact ⟨_, 0, .inr (.inr ⟨h1, h2, .inr ⟨h3, rfl, rfl⟩⟩)⟩
    · exact ⟨0, 2, .inr (.inl ⟨h1, h2, rfl, rfl⟩)⟩

set_option maxHeartbeats 2000000 in
theorem implRhoOf (x y : Wd) (k : Int) (w : World) (hxy : x.length + y.length ≤ 1048576) (N C : Int) (hd : RhIs x y k N C) :
    Calls Tryd.prog 19 #[sqV x y, .int .i64 k] w fun e w' => e = .returned (.tuple #[.int .i64 N, .int .i64 C]) ∧ Below w.heap.size w w' := by
  have H1 := Lib.hid (fun w => implIsSeq x y w hxy)
  have S0 := sqs0 w x y 25
  rcases hd with ⟨h1, rfl, rfl⟩ | ⟨h1, h2, rfl, rfl⟩ | ⟨h1, ⟨h2, h3⟩, h4⟩
  · rw [h1] at H1
    clear h1 hxy
    go_enter Tryd.func19, Tryd.ntmps19
    go_wp2_with fail
    refine (H1.out _).mono ?_
    rintro e w1 ⟨rfl, hb1⟩
    have S1 := S0.on hb1
    go_wp2
    go_ret2
    exact ⟨rfl, S1.B⟩
  · rw [h1] at H1
    clear h1 hxy
    go_enter Tryd.func19, Tryd.ntmps19
    go_wp2_with fail
    refine (H1.out _).mono ?_
    rintro e w1 ⟨rfl, hb1⟩
    have S1 := S0.on hb1
    clear S0
    by_cases hk1 : k < 1
    · have d1 : decide (k < 1) = true := decide_eq_true hk1
      go_wp2
      go_ret2
      exact ⟨rfl, S1.B⟩
    · have d1 : decide (k < 1) = false := decide_eq_false hk1
      have d2 : decide (1000 < k) = true := decide_eq_true (by omega)
      have d3 : decide (k > 1000) = true := d2
      go_wp2
      go_ret2
      exact ⟨rfl, S1.B⟩
  · rw [h1] at H1
    obtain ⟨m, hm⟩ : ∃ m : Nat, k = (m : Int) := ⟨k.toNat, by omega⟩
    subst hm
    have d1 : decide ((m : Int) < 1) = false := decide_eq_false (by omega)
    have d2 : decide (1000 < (m : Int)) = false := decide_eq_false (by omega)
    have d3 : decide ((m : Int) > 1000) = false := d2
    have HT := Lib.hid (fun w => implTab x y w h1)
    have HR := Lib.hid (fun (g n : Nat) (w : World) (hm : ownsT w g n (tabD x y (x.length + y.length))) => implRho x y g n m w h1 hm (by omega))
    rw [Int.toNat_natCast] at h4
    have hfin : ∃ q : Bool, (!(shQ m x y == (x, y))) = q ∧ ((q = false ∧ N = 0 ∧ C = 4) ∨ (q = true ∧ N = (rhoN x y m : Int) ∧ C = 0)) := by
      rcases h4 with ⟨e, rfl, rfl⟩ | ⟨e, rfl, rfl⟩
      · exact ⟨false, by simp [e], .inl ⟨rfl, rfl, rfl⟩⟩
      · exact ⟨true, by simp [e], .inr ⟨rfl, rfl, rfl⟩⟩
    obtain ⟨q, hq, hfin⟩ := hfin
    unfold rhoV at HR
    rw [hq] at HR
    generalize (rhoN x y m : Int) = RN at *
    generalize tabD x y (x.length + y.length) = TD at *
    clear hq h1 h2 h3 h4 hxy
    go_enter Tryd.func19, Tryd.ntmps19
    go_wp2_with fail
    refine (H1.out _).mono ?_
    rintro e w1 ⟨rfl, hb1⟩
    have S1 := S0.on hb1
    obtain ⟨B, z, c0, c1⟩ := id S1
    clear S0 hb1
    go_wp2_with fail
    refine (HT.out _).mono ?_
    rintro e w2 ⟨g, n, rfl, hm2, -, hb2⟩
    have S2 := S1.on hb2
    have M2 := Lib.hid hm2
    clear B z c0 c1 hm2 hb2 S1
    go_wp2_with fail
    refine (HR.out g n _ M2.out).mono ?_
    rintro e w3 ⟨rfl, hb3⟩
    have S3 := S2.on hb3
    clear S2 M2 hb3
    rcases hfin with ⟨rfl, rfl, rfl⟩ | ⟨rfl, rfl, rfl⟩
    · go_wp2
      go_ret2
      exact ⟨rfl, S3.B⟩
    · go_wp2
      go_ret2
      exact ⟨rfl, S3.B⟩

set_option maxHeartbeats 2000000 in
theorem specInQ (n lo hi : Int) (w : World) (_ : lo ≤ hi) :
    Calls Tryd.prog 44 #[.int .i64 n, .int .i64 lo, .int .i64 hi] w fun e w' => e = .returned (.bool (decide (lo ≤ n) && decide (n ≤ hi))) ∧ Below w.heap.size w w' := by
  cases h1 : decide (lo ≤ n)
  · have h1' : decide (n ≥ lo) = false := h1
    go_enter Tryd.func44, Tryd.ntmps44
    go_wp2
    go_ret
    exact ⟨rfl, Below.refl _ _⟩
  · have h1' : decide (n ≥ lo) = true := h1
    cases h2 : decide (n ≤ hi)
    all_goals
      go_enter Tryd.func44, Tryd.ntmps44
      go_wp2
      go_ret
      exact ⟨rfl, Below.refl _ _⟩

set_option maxHeartbeats 2000000 in
theorem specRhoOf (x y : Wd) (k : Int) (w : World) (hxy : x.length + y.length ≤ 1048576) (N C : Int) (hd : RhIs x y k N C) :
    Calls Tryd.prog 18 #[sqV x y, .int .i64 k] w fun e w' => e = .returned (.tuple #[.int .i64 N, .int .i64 C]) ∧ Below w.heap.size w w' := by
  have H1 := Lib.hid (fun w => specL01Seq x y w hxy)
  have H2 := Lib.hid (fun w => specInQ k 1 1000 w (by omega))
  have S0 := sqs0 w x y 25
  rcases hd with ⟨h1, rfl, rfl⟩ | ⟨h1, h2, rfl, rfl⟩ | ⟨h1, ⟨h2, h3⟩, h4⟩
  · rw [h1] at H1
    clear h1 hxy H2
    go_enter Tryd.func18, Tryd.ntmps18
    go_wp2_with fail
    refine (H1.out _).mono ?_
    rintro e w1 ⟨rfl, hb1⟩
    have S1 := S0.on hb1
    go_wp2
    go_ret2
    exact ⟨rfl, S1.B⟩
  · rw [h1] at H1
    have e : (decide (1 ≤ k) && decide (k ≤ 1000)) = false := by
      cases hh : (decide (1 ≤ k) && decide (k ≤ 1000))
      · rfl
      · rw [Bool.and_eq_true, decide_eq_true_eq, decide_eq_true_eq] at hh
        exact absurd hh h2
    rw [e] at H2
    clear h1 hxy h2 e
    go_enter Tryd.func18, Tryd.ntmps18
    go_wp2_with fail
    refine (H1.out _).mono ?_
    rintro e w1 ⟨rfl, hb1⟩
    have S1 := S0.on hb1
    clear S0 hb1
    go_wp2_with fail
    refine (H2.out _).mono ?_
    rintro e w2 ⟨rfl, hb2⟩
    have S2 := S1.on hb2
    go_wp2
    go_ret2
    exact ⟨rfl, S2.B⟩
  · rw [h1] at H1
    have e : (decide (1 ≤ k) && decide (k ≤ 1000)) = true := by rw [decide_eq_true h2, decide_eq_true h3]; rfl
    rw [e] at H2
    obtain ⟨m, hm⟩ : ∃ m : Nat, k = (m : Int) := ⟨k.toNat, by omega⟩
    subst hm
    have HR := Lib.hid (fun (w : World) => specRho x y m w h1 (by omega))
    rw [Int.toNat_natCast] at h4
    have hfin : ((rhoN x y m : Int) = 0 ∧ N = 0 ∧ C = 4) ∨ (((rhoN x y m : Int) == 0) = false ∧ ¬ (rhoN x y m : Int) = 0 ∧ N = (rhoN x y m : Int) ∧ C = 0) := by
      rcases h4 with ⟨e, rfl, rfl⟩ | ⟨e, rfl, rfl⟩
      · exact .inl ⟨by unfold rhoN; rw [if_pos e]; rfl, rfl, rfl⟩
      · have : (rhoN x y m : Int) ≠ 0 := by unfold rhoN; rw [if_neg e]; omega
        exact .inr ⟨beq_eq_false_iff_ne.2 this, this, rfl, rfl⟩
    generalize (rhoN x y m : Int) = RN at *
    clear h1 h2 h3 h4 hxy e
    go_enter Tryd.func18, Tryd.ntmps18
    go_wp2_with fail
    refine (H1.out _).mono ?_
    rintro e w1 ⟨rfl, hb1⟩
    have S1 := S0.on hb1
    clear S0 hb1
    go_wp2_with fail
    refine (H2.out _).mono ?_
    rintro e w2 ⟨rfl, hb2⟩
    have S2 := S1.on hb2
    obtain ⟨B, z, c0, c1⟩ := id S2
    clear S1 hb2
    go_wp2_with fail
    refine (HR.out _).mono ?_
    rintro e w3 ⟨rfl, hb3⟩
    have S3 := S2.on hb3
    clear S2 hb3 B z c0 c1
    rcases hfin with ⟨h0, rfl, rfl⟩ | ⟨h0, h0', rfl, rfl⟩
    · rw [h0]
      go_wp2
      go_ret2
      exact ⟨rfl, S3.B⟩
    · go_wp2
      go_ret2
      exact ⟨rfl, S3.B⟩

set_option maxHeartbeats 2000000 in
theorem lawRhoOf (x y : Wd) (hx : x.length ≤ maxLen) (hy : y.length ≤ maxLen) (k : Int) (_ : (Lit.int .i64 k).wf = true) (w : World) :
    Calls Tryd.prog 5 #[sqV x y, .int .i64 k] w fun e w' => e = .returned (.bool true) ∧ Below w.heap.size w w' := by
  have HZ := Lib.hid (fun w => szSeq x y w (by unfold maxLen at hx; omega) (by unfold maxLen at hy; omega))
  have HT := Lib.hid (fun w => toSeq x y w)
  rcases szQ_cases x y with h | ⟨h, hxy⟩
  · rw [h] at HZ
    clear h hx hy
    go_enter Tryd.func5, Tryd.ntmps5
    go_wp2_with fail
    refine (HZ.out _).mono ?_
    rintro e w2 ⟨rfl, hb2⟩
    have hS := keepQ hb2 keepQ0
    clear hb2
    obtain ⟨u1, u2, u3, u4⟩ := hS
    go_wp2
    go_ret
    exact ⟨rfl, u2⟩
  · obtain ⟨R, C, hd⟩ := rh_ex x y k
    have HA := Lib.hid (fun w => specRhoOf x y k w hxy R C hd)
    have HB := Lib.hid (fun w => implRhoOf x y k w hxy R C hd)
    clear hd
    have hlt : decide (szQ x y < 0) = false := by simp; omega
    generalize szQ x y = z at *
    clear h hx hy hxy
    go_enter Tryd.func5, Tryd.ntmps5
    go_wp2_with fail
    refine (HZ.out _).mono ?_
    rintro e w2 ⟨rfl, hb2⟩
    have hS := keepQ hb2 keepQ0
    clear hb2
    obtain ⟨u1, u2, u3, u4⟩ := id hS
    go_wp2_with fail
    refine (HT.out _).mono ?_
    rintro e w3 ⟨rfl, hb3⟩
    have hS3 := keepQ hb3 hS
    clear hb3 u1 u2 u3 u4 hS
    obtain ⟨u1, u2, u3, u4⟩ := id hS3
    go_wp2_with fail
    refine (HA.out _).mono ?_
    rintro e w4 ⟨rfl, hb4⟩
    have hS4 := keepQ hb4 hS3
    clear hb4 u1 u2 u3 u4 hS3
    obtain ⟨u1, u2, u3, u4⟩ := id hS4
    go_wp2_with fail
    refine (HT.out _).mono ?_
    rintro e w5 ⟨rfl, hb5⟩
    have hS5 := keepQ hb5 hS4
    clear hb5 u1 u2 u3 u4 hS4
    obtain ⟨u1, u2, u3, u4⟩ := id hS5
    go_wp2_with fail
    refine (HB.out _).mono ?_
    rintro e w6 ⟨rfl, hb6⟩
    have hS6 := keepQ hb6 hS5
    clear hb6 u1 u2 u3 u4 hS5
    obtain ⟨u1, u2, u3, u4⟩ := id hS6
    go_wp2
    go_ret
    exact ⟨rfl, u2⟩
end Go.Proofs.YtomcmjnhfloeeaaDoor

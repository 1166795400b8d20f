/-
  Contracts: RotationSet, on both sides.
-/
import Derived.Test.YtlmgpecfbpcgaaaP1
import Derived.Test.YtlmgpecfbpcgaaaW36
import Derived.BigQuiet
namespace Go.Proofs.Ytlmgpecfbpcgaaa
open Go.RowKit

/-- What RotationSet answers. -/
def RoIs (q v : Int) (R : List (Int × Int)) (C : Int) : Prop :=
  (∃ a b : Nat, q = (a : Int) ∧ v = (b : Int) ∧ 2 ≤ b ∧ b ≤ 13 ∧ 1 ≤ a ∧ a < b ∧ gcdI q v = 1 ∧ R = rotL a b ∧ C = 0) ∨
    ((v < 2 ∨ 13 < v ∨ q < 1 ∨ v ≤ q ∨ gcdI q v ≠ 1) ∧ R = [] ∧ C = 2)
theorem ro_ex (q v : Int) : ∃ R C, RoIs q v R C := by
  by_cases h : v < 2 ∨ 13 < v ∨ q < 1 ∨ v ≤ q ∨ gcdI q v ≠ 1
  · exact ⟨_, _, .inr ⟨h, rfl, rfl⟩⟩
  · have h5 : gcdI q v = 1 := Classical.byContradiction fun g => h (.inr (.inr (.inr (.inr g))))
    refine ⟨rotL q.toNat v.toNat, 0, .inl ⟨q.toNat, v.toNat, ?_, ?_, ?_, ?_, ?_, ?_, h5, rfl, rfl⟩⟩ <;> omega
theorem ro_len {q v : Int} {R : List (Int × Int)} {C : Int} (h : RoIs q v R C) : R.length ≤ 13 := by
  rcases h with ⟨a, b, _, _, _, h, _, _, _, rfl, _⟩ | ⟨_, rfl, _⟩
  · rw [rotL_len]; exact h
  · simp

set_option maxHeartbeats 1000000 in
theorem inRangeP (n a b : Int) (w : World) :
    Calls Try.prog 76 #[.int .i64 n, .int .i64 a, .int .i64 b] w fun e w' => e = .returned (.bool (decide (a ≤ n) && decide (n ≤ b))) ∧ w = w' := by
  by_cases h1 : a ≤ n <;> by_cases h2 : n ≤ b
  all_goals
    go_enter Try.func76, Try.ntmps76
    go_wp2
    go_ret
    exact ⟨by simp [h1, h2], rfl⟩

set_option maxRecDepth 8000 in
set_option maxHeartbeats 2000000 in
theorem specRotSet (q v : Int) (w : World) (R : List (Int × Int)) (C : Int) (h : RoIs q v R C) :
    Calls Try.prog 35 #[.int .i64 q, .int .i64 v] w (ResAng w R C) := by
  rcases h with ⟨a, b, rfl, rfl, h2, h13, h1, hq, hg, rfl, rfl⟩ | ⟨h, rfl, rfl⟩
  · obtain ⟨hok, hsame⟩ := rot_ok h13 h2 h1 hq hg
    have HR := Lib.hid (fun w => specRot a b w h2 h13 h1 hq hok hsame)
    have HG := Lib.hid (fun w => specGcd a b w (by omega) (by omega) (by omega) (by omega))
    rw [hg] at HG
    clear hok hsame hg
    have t1 : (decide ((2 : Int) ≤ (b : Int)) && decide ((b : Int) ≤ 13)) = true := by simp; omega
    have t2 : (decide ((1 : Int) ≤ (a : Int)) && decide ((a : Int) ≤ (b : Int) - 1)) = true := by simp; omega
    generalize rotL a b = l at *
    go_enter Try.func35, Try.ntmps35
    go_wp2_with fail
    refine (inRangeP _ _ _ _).mono ?_
    rintro e w1 ⟨rfl, rfl⟩
    rw [t1]
    go_wp2_with fail
    refine (inRangeP _ _ _ _).mono ?_
    rintro e w1 ⟨rfl, rfl⟩
    rw [t2]
    go_wp2_with fail
    refine (HG.out _).mono ?_
    rintro e w1 ⟨rfl, rfl⟩
    go_wp2_with fail
    refine (HR.out _).mono ?_
    rintro e w2 ⟨g, c, rfl, ho, hb2⟩
    have HO := Lib.hid ho
    clear ho
    go_wp2
    go_ret2
    exact ⟨_, c, rfl, HO.out, hb2⟩
  · by_cases c1 : 2 ≤ v ∧ v ≤ 13
    · have t1 : (decide ((2 : Int) ≤ v) && decide (v ≤ 13)) = true := by simp; omega
      have hw : IntKind.i64.wrap (v - 1) = v - 1 := IntWalk.i64_in _ (by omega)
      by_cases c2 : 1 ≤ q ∧ q ≤ v - 1
      · have t2 : (decide ((1 : Int) ≤ q) && decide (q ≤ v - 1)) = true := by simp; omega
        have hg : gcdI q v ≠ 1 := by
          rcases h with h | h | h | h | h
          · omega
          · omega
          · omega
          · omega
          · exact h
        have HG := Lib.hid (fun w => specGcd q v w (by omega) (by omega) (by omega) (by omega))
        generalize gcdI q v = G at *
        clear h
        go_enter Try.func35, Try.ntmps35
        go_wp2_with fail
        refine (inRangeP _ _ _ _).mono ?_
        rintro e w1 ⟨rfl, rfl⟩
        rw [t1]
        go_wp2_with fail
        refine (inRangeP _ _ _ _).mono ?_
        rintro e w1 ⟨rfl, rfl⟩
        rw [t2]
        go_wp2_with fail
        refine (HG.out _).mono ?_
        rintro e w1 ⟨rfl, rfl⟩
        have hG : (G == 1) = false := beq_eq_false_iff_ne.2 hg
        go_wp2
        go_ret2
        exact ⟨none, 0, rfl, own_nil, Below.refl _ _⟩
      · have t2 : (decide ((1 : Int) ≤ q) && decide (q ≤ v - 1)) = false := by simp; omega
        clear h
        go_enter Try.func35, Try.ntmps35
        go_wp2_with fail
        refine (inRangeP _ _ _ _).mono ?_
        rintro e w1 ⟨rfl, rfl⟩
        rw [t1]
        go_wp2_with fail
        refine (inRangeP _ _ _ _).mono ?_
        rintro e w1 ⟨rfl, rfl⟩
        rw [t2]
        go_wp2
        go_ret2
        exact ⟨none, 0, rfl, own_nil, Below.refl _ _⟩
    · have t1 : (decide ((2 : Int) ≤ v) && decide (v ≤ 13)) = false := by simp; omega
      clear h
      go_enter Try.func35, Try.ntmps35
      go_wp2_with fail
      refine (inRangeP _ _ _ _).mono ?_
      rintro e w1 ⟨rfl, rfl⟩
      rw [t1]
      go_wp2
      go_ret2
      exact ⟨none, 0, rfl, own_nil, Below.refl _ _⟩

end Go.Proofs.Ytlmgpecfbpcgaaa

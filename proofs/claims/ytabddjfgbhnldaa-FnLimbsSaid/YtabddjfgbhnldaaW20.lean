/-
  Contracts: both halves of an angle, as the program has them; halves.
-/
import Derived.Test.YtabddjfgbhnldaaW10
namespace Go.Proofs.Ytabddjfgbhnldaa
open Go.RowKit

theorem setDrewN (w : World) (n : Nat) (a : Addr) (v : Value) : (w.drewN n).setCell a v = (w.setCell a v).drewN n := rfl
theorem allocDrewN (w : World) (n : Nat) (o : Obj) : (w.drewN n).alloc o = (w.alloc o).drewN n := rfl
attribute [local go_sem] setDrewN allocDrewN

set_option maxHeartbeats 400000 in
theorem implRedX (n d : Int) (w : World) (hd : 1 ≤ d) (hD : d ≤ 4611686018427387904) (hn : -4611686018427387904 ≤ n) (hN : n ≤ 4611686018427387904) :
    Calls Try.prog 35 #[.int .i64 n, .int .i64 d] w fun e w' => e = .returned (ang (redN n d) (redD n d)) ∧ ∃ k, ((w.alloc (.cells #[.int .i64 (redN n d), .int .i64 (redD n d)] 25)).drewN k) = w' := by
  have h1 := Int.emod_nonneg n (b := d) (by omega)
  have h2 := Int.emod_lt_of_pos n (show 0 < d by omega)
  have HN : Hid (redN n d = (n % d) / gcdI (n % d) d) := Lib.hid rfl
  have HD : Hid (redD n d = d / gcdI (n % d) d) := Lib.hid rfl
  generalize redN n d = X at *
  generalize redD n d = Y at *
  have hc : (n.tmod d = n % d) ∨ (n.tmod d = n % d - d ∧ 0 < n % d) := by
    by_cases h0 : 0 ≤ n
    · exact .inl (tmod_nonneg n d h0)
    · by_cases hz : n % d = 0
      · exact .inl ((tmod_neg0 n d (by omega) hz).trans hz.symm)
      · exact .inr ⟨tmod_neg1 n d (by omega) (by omega) (by omega), by omega⟩
  generalize n % d = r at *
  have hg := gcdI_pos r d (by omega)
  have hl := gcdI_le r d (by omega)
  have hdne : (d == 0) = false := beq_eq_false_iff_ne.2 (by omega)
  have hc1 := implGcd r d
  generalize gcdI r d = g at *
  have HC := Lib.hid hc1
  clear hc1
  have hgne : (g == 0) = false := beq_eq_false_iff_ne.2 (by omega)
  rcases hc with he | ⟨he, hr⟩
  all_goals
    go_enter Try.func35, Try.ntmps35
    go_wp2_with fail
    refine (HC.out _ (by omega) (by omega) (by omega) (by omega)).mono ?_
    rintro e w1 ⟨rfl, k, rfl⟩
    go_wp2
    go_region
    all_goals
      go_wp2
      go_returns
      refine ⟨by rw [HN.out, HD.out], k + 1, ?_⟩
      rw [HN.out, HD.out] <;> (first | rfl | (simp [go_sem]; done))

end Go.Proofs.Ytabddjfgbhnldaa

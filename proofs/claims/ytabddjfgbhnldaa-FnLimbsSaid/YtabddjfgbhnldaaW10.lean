/-
  Contracts: halves, as the model has them.
-/
import Derived.Test.YtabddjfgbhnldaaW9
import Derived.IntWalk
namespace Go.Proofs.Ytabddjfgbhnldaa
open Go.RowKit

set_option maxHeartbeats 400000 in
theorem specRedX (n d : Int) (w : World) (hd : 1 ≤ d) (hD : d ≤ 4611686018427387904) (hn : -4611686018427387904 ≤ n) (hN : n ≤ 4611686018427387904) :
    Calls Try.prog 37 #[.int .i64 n, .int .i64 d] w fun e w' => e = .returned (ang (redN n d) (redD n d)) ∧ ((w.alloc (.cells #[.int .i64 (redN n d), .int .i64 (redD n d)] 25)).drew) = w' := by
  have h1 := Int.emod_nonneg n (b := d) (by omega)
  have h2 := Int.emod_lt_of_pos n (show 0 < d by omega)
  have HN : Hid (redN n d = (n % d) / gcdI (n % d) d) := Lib.hid rfl
  have HD : Hid (redD n d = d / gcdI (n % d) d) := Lib.hid rfl
  generalize redN n d = X at *
  generalize redD n d = Y at *
  have hc : (n.tmod d = n % d) ∨ (n.tmod d = n % d - d ∧ 0 < n % d) := by
    by_cases h0 : 0 ≤ n
    · exact .inl (tmod_nonneg n d h0)
    · by_cases hz : n % d = 0
      · exact .inl ((tmod_neg0 n d (by omega) hz).trans hz.symm)
      · exact .inr ⟨tmod_neg1 n d (by omega) (by omega) (by omega), by omega⟩
  generalize n % d = r at *
  have hg := gcdI_pos r d (by omega)
  have hl := gcdI_le r d (by omega)
  have hdne : (d == 0) = false := beq_eq_false_iff_ne.2 (by omega)
  have hc1 := specGcd r d
  generalize gcdI r d = g at *
  have HC := Lib.hid hc1
  clear hc1
  have hgne : (g == 0) = false := beq_eq_false_iff_ne.2 (by omega)
  have e1 : (r + d) % d = r := by rw [Int.add_emod_right, Int.emod_eq_of_lt h1 h2]
  have e2 : r % d = r := Int.emod_eq_of_lt h1 h2
  rcases hc with he | ⟨he, hr⟩
  all_goals
    go_enter Try.func37, Try.ntmps37
    go_wp2_with fail
    refine (HC.out _ (by omega) (by omega) (by omega) (by omega)).mono ?_
    rintro e w1 ⟨rfl, rfl⟩
    go_wp2
    go_region
    all_goals
      go_wp2
      go_returns
      refine ⟨by rw [HN.out, HD.out], ?_⟩
      rw [HN.out, HD.out]

theorem keepG {W : World} {p : Addr} {v : Value} {g5 g6 : Nat} {x y x' y' : Int} (h5 : p.block ≠ g5) (h6 : p.block ≠ g6)
    (h : W.cell? ⟨g5, 0, none⟩ = some (.int .i64 x) ∧ W.cell? ⟨g5, 1, none⟩ = some (.int .i64 y) ∧ W.cell? ⟨g6, 0, none⟩ = some (.int .i64 x') ∧ W.cell? ⟨g6, 1, none⟩ = some (.int .i64 y')) :
    (W.setCell p v).cell? ⟨g5, 0, none⟩ = some (.int .i64 x) ∧ (W.setCell p v).cell? ⟨g5, 1, none⟩ = some (.int .i64 y) ∧ (W.setCell p v).cell? ⟨g6, 0, none⟩ = some (.int .i64 x') ∧ (W.setCell p v).cell? ⟨g6, 1, none⟩ = some (.int .i64 y') := by
  refine ⟨?_, ?_, ?_, ?_⟩
  · rw [World.cell?_setCell_other _ _ _ _ (fun e => by subst e; exact h5 rfl)]; exact h.1
  · rw [World.cell?_setCell_other _ _ _ _ (fun e => by subst e; exact h5 rfl)]; exact h.2.1
  · rw [World.cell?_setCell_other _ _ _ _ (fun e => by subst e; exact h6 rfl)]; exact h.2.2.1
  · rw [World.cell?_setCell_other _ _ _ _ (fun e => by subst e; exact h6 rfl)]; exact h.2.2.2

theorem keepGd {W : World} {g5 g6 : Nat} {x y x' y' : Int}
    (h : W.cell? ⟨g5, 0, none⟩ = some (.int .i64 x) ∧ W.cell? ⟨g5, 1, none⟩ = some (.int .i64 y) ∧ W.cell? ⟨g6, 0, none⟩ = some (.int .i64 x') ∧ W.cell? ⟨g6, 1, none⟩ = some (.int .i64 y')) :
    W.drew.cell? ⟨g5, 0, none⟩ = some (.int .i64 x) ∧ W.drew.cell? ⟨g5, 1, none⟩ = some (.int .i64 y) ∧ W.drew.cell? ⟨g6, 0, none⟩ = some (.int .i64 x') ∧ W.drew.cell? ⟨g6, 1, none⟩ = some (.int .i64 y') := h

end Go.Proofs.Ytabddjfgbhnldaa

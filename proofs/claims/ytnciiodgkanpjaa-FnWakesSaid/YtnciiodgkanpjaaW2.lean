/-
  Contracts: what is an angle; angles from numbers.
-/
import Derived.Test.YtnciiodgkanpjaaW1
namespace Go.Proofs.Ytnciiodgkanpjaa
open Go.RowKit

theorem isAng_cases (n d : Int) : (isAng n d = false ∧ (d < 1 ∨ (1 ≤ d ∧ 8191 < d) ∨ (1 ≤ d ∧ d ≤ 8191 ∧ n < 0) ∨ (1 ≤ d ∧ d ≤ 8191 ∧ 0 ≤ n ∧ d ≤ n))) ∨
    (1 ≤ d ∧ d ≤ 8191 ∧ 0 ≤ n ∧ n < d ∧ isAng n d = (gcdI n d == 1)) := by
  by_cases h : 1 ≤ d ∧ d ≤ 8191 ∧ 0 ≤ n ∧ n < d
  · refine .inr ⟨h.1, h.2.1, h.2.2.1, h.2.2.2, ?_⟩
    unfold isAng
    rw [Bool.eq_iff_iff]
    simp [h]
  · refine .inl ⟨?_, by omega⟩
    unfold isAng
    simp
    omega

set_option maxHeartbeats 400000 in
theorem implIs (n d : Int) (w : World) :
    Calls Try.prog 10 #[ang n d] w fun e w' => e = .returned (.bool (isAng n d)) ∧ Below w.heap.size w w' := by
  rcases isAng_cases n d with ⟨hI, h | ⟨h1, h⟩ | ⟨h1, h2, h⟩ | ⟨h1, h2, h3, h⟩⟩ | ⟨h1, h2, h3, h4, hI⟩
  all_goals
    have HI := Lib.hid hI
    clear hI
    generalize isAng n d = I at *
    have hc1 := implGcd n d
    generalize gcdI n d = g at *
    have HC := Lib.hid hc1
    clear hc1
    go_enter Try.func10, Try.ntmps10
    go_wp2_with fail
  all_goals try
    refine (HC.out _ (by omega) (by omega) (by omega) (by omega)).mono ?_
    rintro e w1 ⟨rfl, k, rfl⟩
    go_wp2
  all_goals
    go_ret
    refine ⟨by rw [HI.out]; rfl, ?_⟩
    (repeat' (first | (with_reducible exact Below.refl _ _) | (with_reducible assumption) | (with_reducible refine belowNext ?_ (by with_reducible assumption)) | (with_reducible refine belowAlloc ?_ _) | (with_reducible refine Below.drew ?_) | (with_reducible refine below_drewN ?_ _) | (with_reducible refine Below.setCell ?_ ?_ _) | go_size | (with_reducible refine sizeOf' ?_) | (with_reducible refine sizeAdd ?_) | (dsimp only; first | (with_reducible refine sizeOf' ?_) | (with_reducible refine sizeAdd ?_))))

set_option maxHeartbeats 400000 in
theorem specIs1 (n d : Int) (w : World) :
    Calls Try.prog 49 #[ang n d] w fun e w' => e = .returned (.bool (isAng n d)) ∧ Below w.heap.size w w' := by
  rcases isAng_cases n d with ⟨hI, h | ⟨h1, h⟩ | ⟨h1, h2, h⟩ | ⟨h1, h2, h3, h⟩⟩ | ⟨h1, h2, h3, h4, hI⟩
  all_goals
    have HI := Lib.hid hI
    clear hI
    generalize isAng n d = I at *
    have hc1 := specGcd n d
    generalize gcdI n d = g at *
    have HC := Lib.hid hc1
    clear hc1
    go_enter Try.func49, Try.ntmps49
    go_wp2_with fail
  all_goals (try (refine (inNo _ _ _ _ (by omega)).mono ?_; rintro e w1 ⟨rfl, rfl⟩; go_wp2_with fail))
  all_goals (try (refine (inYes _ _ _ _ (by omega) (by omega)).mono ?_; rintro e w1 ⟨rfl, rfl⟩; go_wp2_with fail))
  all_goals (try (refine (inNo _ _ _ _ (by omega)).mono ?_; rintro e w1 ⟨rfl, rfl⟩; go_wp2_with fail))
  all_goals (try (refine (inYes _ _ _ _ (by omega) (by omega)).mono ?_; rintro e w1 ⟨rfl, rfl⟩; go_wp2_with fail))
  all_goals (try (refine (HC.out _ (by omega) (by omega) (by omega) (by omega)).mono ?_; rintro e w1 ⟨rfl, rfl⟩; go_wp2))
  all_goals
    go_ret
    refine ⟨by rw [HI.out]; rfl, ?_⟩
    (repeat' (first | (with_reducible exact Below.refl _ _) | (with_reducible assumption) | (with_reducible refine belowNext ?_ (by with_reducible assumption)) | (with_reducible refine belowAlloc ?_ _) | (with_reducible refine Below.drew ?_) | (with_reducible refine below_drewN ?_ _) | (with_reducible refine Below.setCell ?_ ?_ _) | go_size | (with_reducible refine sizeOf' ?_) | (with_reducible refine sizeAdd ?_) | (dsimp only; first | (with_reducible refine sizeOf' ?_) | (with_reducible refine sizeAdd ?_))))

set_option maxHeartbeats 400000 in
theorem specIs (n d : Int) (w : World) :
    Calls Try.prog 11 #[ang n d] w fun e w' => e = .returned (.bool (isAng n d)) ∧ Below w.heap.size w w' := by
  generalize hI : isAng n d = I
  have HC := Lib.hid (specIs1 n d)
  rw [hI] at HC
  clear hI
  go_enter Try.func11, Try.ntmps11
  go_wp2_with fail
  refine (HC.out _).mono ?_
  rintro e w1 ⟨rfl, hb⟩
  go_wp2
  go_ret
  refine ⟨rfl, (?_ : Below w.heap.size w _).trans (hb.mono (by simp))⟩
  (repeat' (first | (with_reducible exact Below.refl _ _) | (with_reducible assumption) | (with_reducible refine belowNext ?_ (by with_reducible assumption)) | (with_reducible refine belowAlloc ?_ _) | (with_reducible refine Below.drew ?_) | (with_reducible refine below_drewN ?_ _) | (with_reducible refine Below.setCell ?_ ?_ _) | go_size | (with_reducible refine sizeOf' ?_) | (with_reducible refine sizeAdd ?_) | (dsimp only; first | (with_reducible refine sizeOf' ?_) | (with_reducible refine sizeAdd ?_))))

end Go.Proofs.Ytnciiodgkanpjaa

/-
  The walk of the exact law of halves.
-/
import Derived.Test.YtnciiodgkanpjaaW20
namespace Go.Proofs.Ytnciiodgkanpjaa
open Go.RowKit

set_option maxHeartbeats 1000000 in
theorem specHalves (n d : Int) (w : World) : Calls Try.prog 8 #[ang n d] w (ResAng w (halL n d) (halC n d)) := by
  have HS := Lib.hid (fun w => specIs1 n d w)
  cases h1 : isAng n d
  · obtain ⟨e1, e2⟩ := hal_no h1
    rw [e1, e2]
    rw [h1] at HS
    clear e1 e2 h1
    go_enter Try.func8, Try.ntmps8
    go_wp2_with fail
    refine (HS.out _).mono ?_
    rintro e w1 ⟨rfl, hb1⟩
    go_wp2
    go_ret2
    refine ⟨none, 0, rfl, own_nil, ?_⟩
    (repeat' (first | (with_reducible exact Below.refl _ _) | (with_reducible assumption) | (with_reducible refine belowNext ?_ (by with_reducible assumption)) | (with_reducible refine belowAlloc ?_ _) | (with_reducible refine Below.drew ?_) | (with_reducible refine below_drewN ?_ _) | (with_reducible refine Below.setCell ?_ ?_ _) | go_size | (with_reducible refine sizeOf' ?_) | (with_reducible refine sizeAdd ?_) | (dsimp only; first | (with_reducible refine sizeOf' ?_) | (with_reducible refine sizeAdd ?_))))
  · have HH := Lib.hid (fun w => specHal3 n d w (isAng_ok h1))
    rw [h1] at HS
    cases h2 : halOk n d
    · obtain ⟨e1, e2⟩ := hal_far h1 h2
      rw [e1, e2]
      rw [h2] at HH
      clear e1 e2 h1 h2
      generalize redN n (2 * d) = x at *
      generalize redD n (2 * d) = y at *
      generalize redN (n + d) (2 * d) = x' at *
      generalize redD (n + d) (2 * d) = y' at *
      go_enter Try.func8, Try.ntmps8
      go_wp2_with fail
      refine (HS.out _).mono ?_
      rintro e w1 ⟨rfl, hb1⟩
      have hz1 : w.heap.size < w1.heap.size := by have := hb1.size; simp at this; omega
      obtain ⟨hc1, hf1⟩ := bcell hb1
      go_wp2_with fail
      refine (HH.out _).mono ?_
      rintro e w2 ⟨rfl, hb2⟩
      go_wp2
      try go_region
      all_goals
        go_wp2
        go_ret2
        refine ⟨none, 0, rfl, own_nil, ?_⟩
        (repeat' (first | (with_reducible exact Below.refl _ _) | (with_reducible assumption) | (with_reducible refine belowNext ?_ (by with_reducible assumption)) | (with_reducible refine belowAlloc ?_ _) | (with_reducible refine Below.drew ?_) | (with_reducible refine below_drewN ?_ _) | (with_reducible refine Below.setCell ?_ ?_ _) | go_size | (with_reducible refine sizeOf' ?_) | (with_reducible refine sizeAdd ?_) | (dsimp only; first | (with_reducible refine sizeOf' ?_) | (with_reducible refine sizeAdd ?_))))
    · obtain ⟨e1, e2⟩ := hal_yes h1 h2
      rw [e1, e2]
      rw [h2] at HH
      clear e1 e2 h1 h2
      generalize redN n (2 * d) = x at *
      generalize redD n (2 * d) = y at *
      generalize redN (n + d) (2 * d) = x' at *
      generalize redD (n + d) (2 * d) = y' at *
      go_enter Try.func8, Try.ntmps8
      go_wp2_with fail
      refine (HS.out _).mono ?_
      rintro e w1 ⟨rfl, hb1⟩
      have hz1 : w.heap.size < w1.heap.size := by have := hb1.size; simp at this; omega
      obtain ⟨hc1, hf1⟩ := bcell hb1
      go_wp2_with fail
      refine (HH.out _).mono ?_
      rintro e w2 ⟨rfl, hb2⟩
      go_wp2
      try go_region
      all_goals
        go_wp2
        go_ret2
        refine ⟨some ⟨_, 0, none⟩, 2, rfl, own2 _ ?_ _ _ _ _ _ _ ?_, ?_⟩
        · (repeat' (first | (with_reducible exact Below.refl _ _) | (with_reducible assumption) | (with_reducible refine belowNext ?_ (by with_reducible assumption)) | (with_reducible refine belowAlloc ?_ _) | (with_reducible refine Below.drew ?_) | (with_reducible refine below_drewN ?_ _) | (with_reducible refine Below.setCell ?_ ?_ _) | go_size | (with_reducible refine sizeOf' ?_) | (with_reducible refine sizeAdd ?_) | (dsimp only; first | (with_reducible refine sizeOf' ?_) | (with_reducible refine sizeAdd ?_))))
        · simp
        · (repeat' (first | (with_reducible exact Below.refl _ _) | (with_reducible assumption) | (with_reducible refine belowNext ?_ (by with_reducible assumption)) | (with_reducible refine belowAlloc ?_ _) | (with_reducible refine Below.drew ?_) | (with_reducible refine below_drewN ?_ _) | (with_reducible refine Below.setCell ?_ ?_ _) | go_size | (with_reducible refine sizeOf' ?_) | (with_reducible refine sizeAdd ?_) | (dsimp only; first | (with_reducible refine sizeOf' ?_) | (with_reducible refine sizeAdd ?_))))

theorem halL_len (n d : Int) : (halL n d).length ≤ 1000000000000 := by
  unfold halL; split <;> simp

end Go.Proofs.Ytnciiodgkanpjaa

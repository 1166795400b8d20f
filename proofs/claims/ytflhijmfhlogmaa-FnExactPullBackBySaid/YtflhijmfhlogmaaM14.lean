/-
  Contracts: ConditionThatFails, on the model's side; the walk of the law.
-/
import Derived.Test.YtflhijmfhlogmaaM13
namespace Go.Proofs.Ytflhijmfhlogmaa
open Go.RowKit

set_option maxHeartbeats 1000000 in
theorem specFailsLong (a b c d : Int) (w : World) (h : isLf a b c d = true) (h2 : shortB a b c d = false) :
    Calls Try.prog 34 #[leafV a b c d] w fun e w' => e = .returned (.tuple #[.int .i64 1, .bool true]) ∧ Below w.heap.size w w' := by
  obtain ⟨r1, r2, -⟩ := isLf_yes h
  have H2 := Lib.hid (fun w => specLong a b c d w (okOf r1) (okOf r2))
  rw [h2] at H2
  clear h h2 r1 r2
  go_enter Try.func34, Try.ntmps34
  go_wp2_with fail
  refine (H2.out _).mono ?_
  rintro e w1 ⟨rfl, hb1⟩
  obtain ⟨hc1, hf1⟩ := bcell hb1
  have hz1_0 : w.heap.size < w1.heap.size := by have := hb1.size; first | omega | (simp at this; omega)
  go_wp2
  go_ret2
  refine ⟨rfl, ?_⟩
  (repeat' (first | (with_reducible exact Below.refl _ _) | (with_reducible assumption) | (with_reducible refine belowNext ?_ (by with_reducible assumption)) | (with_reducible refine belowAlloc ?_ _) | (with_reducible refine Below.drew ?_) | (with_reducible refine below_drewN ?_ _) | (with_reducible refine Below.setCell ?_ ?_ _) | go_size | (with_reducible refine sizeOf' ?_) | (with_reducible refine sizeAdd ?_) | (dsimp only; first | (with_reducible refine sizeOf' ?_) | (with_reducible refine sizeAdd ?_))))

set_option maxHeartbeats 2000000 in
theorem specFailsNo (a b c d : Int) (w : World) (h : isLf a b c d = true) (h2 : shortB a b c d = true) (h3 : imF 64 (a, b, c, d) [] = none ∨ pbHal a b c d = false) :
    Calls Try.prog 34 #[leafV a b c d] w fun e w' => e = .returned (.tuple #[.int .i64 0, .bool false]) ∧ Below w.heap.size w w' := by
  obtain ⟨r1, r2, -⟩ := isLf_yes h
  have H2 := Lib.hid (fun w => specLong a b c d w (okOf r1) (okOf r2))
  rw [h2] at H2
  have HI := Lib.hid (fun w => specImages a b c d w h)
  unfold ResIm at HI
  cases hf : imF 64 (a, b, c, d) [] with
  | none =>
    rw [hf] at HI
    dsimp only at HI
    cases h4 : pbHal a b c d
    · have HM := Lib.hid (fun w => specMjNo a b c d w r1 r2 h4)
      clear h h2 h3 hf h4 r1 r2
      go_enter Try.func34, Try.ntmps34
      go_wp2_with fail
      refine (H2.out _).mono ?_
      rintro e w1 ⟨rfl, hb1⟩
      obtain ⟨hc1, hf1⟩ := bcell hb1
      have hz1_0 : w.heap.size < w1.heap.size := by have := hb1.size; first | omega | (simp at this; omega)
      go_wp2_with fail
      refine (HI.out _).mono ?_
      rintro e w2 ⟨rfl, hb2⟩
      obtain ⟨hc2, hf2⟩ := bcell hb2
      have hz2_0 : w.heap.size < w2.heap.size := by have := hb2.size; first | omega | (simp at this; omega)
      go_wp2_with fail
      refine (HM.out _).mono ?_
      rintro e w3 ⟨rfl, hb3⟩
      obtain ⟨hc3, hf3⟩ := bcell hb3
      have hz3_0 : w.heap.size < w3.heap.size := by have := hb3.size; first | omega | (simp at this; omega)
      go_wp2
      go_ret2
      refine ⟨rfl, ?_⟩
      (repeat' (first | (with_reducible exact Below.refl _ _) | (with_reducible assumption) | (with_reducible refine belowNext ?_ (by with_reducible assumption)) | (with_reducible refine belowAlloc ?_ _) | (with_reducible refine Below.drew ?_) | (with_reducible refine below_drewN ?_ _) | (with_reducible refine Below.setCell ?_ ?_ _) | go_size | (with_reducible refine sizeOf' ?_) | (with_reducible refine sizeAdd ?_) | (dsimp only; first | (with_reducible refine sizeOf' ?_) | (with_reducible refine sizeAdd ?_))))
    · have HM := Lib.hid (fun w => specMj a b c d w h h4)
      clear h h2 h3 hf h4 r1 r2
      go_enter Try.func34, Try.ntmps34
      go_wp2_with fail
      refine (H2.out _).mono ?_
      rintro e w1 ⟨rfl, hb1⟩
      obtain ⟨hc1, hf1⟩ := bcell hb1
      have hz1_0 : w.heap.size < w1.heap.size := by have := hb1.size; first | omega | (simp at this; omega)
      go_wp2_with fail
      refine (HI.out _).mono ?_
      rintro e w2 ⟨rfl, hb2⟩
      obtain ⟨hc2, hf2⟩ := bcell hb2
      have hz2_0 : w.heap.size < w2.heap.size := by have := hb2.size; first | omega | (simp at this; omega)
      go_wp2_with fail
      refine (HM.out _).mono ?_
      rintro e w3 ⟨B, rfl, ho3, hb3⟩
      obtain ⟨hc3, hf3⟩ := bcell hb3
      have hz3_0 : w.heap.size < w3.heap.size := by have := hb3.size; first | omega | (simp at this; omega)
      clear ho3
      go_wp2
      go_ret2
      refine ⟨rfl, ?_⟩
      (repeat' (first | (with_reducible exact Below.refl _ _) | (with_reducible assumption) | (with_reducible refine belowNext ?_ (by with_reducible assumption)) | (with_reducible refine belowAlloc ?_ _) | (with_reducible refine Below.drew ?_) | (with_reducible refine below_drewN ?_ _) | (with_reducible refine Below.setCell ?_ ?_ _) | go_size | (with_reducible refine sizeOf' ?_) | (with_reducible refine sizeAdd ?_) | (dsimp only; first | (with_reducible refine sizeOf' ?_) | (with_reducible refine sizeAdd ?_))))
  | some r =>
    have h4 : pbHal a b c d = false := by
      rcases h3 with h3 | h3
      · rw [hf] at h3; cases h3
      · exact h3
    rw [hf] at HI
    dsimp only at HI
    have HM := Lib.hid (fun w => specMjNo a b c d w r1 r2 h4)
    clear h h2 h3 hf h4 r1 r2
    go_enter Try.func34, Try.ntmps34
    go_wp2_with fail
    refine (H2.out _).mono ?_
    rintro e w1 ⟨rfl, hb1⟩
    obtain ⟨hc1, hf1⟩ := bcell hb1
    have hz1_0 : w.heap.size < w1.heap.size := by have := hb1.size; first | omega | (simp at this; omega)
    go_wp2_with fail
    refine (HI.out _).mono ?_
    rintro e w2 ⟨A, cap, rfl, ho2, hb2⟩
    obtain ⟨hc2, hf2⟩ := bcell hb2
    have hz2_0 : w.heap.size < w2.heap.size := by have := hb2.size; first | omega | (simp at this; omega)
    clear ho2
    go_wp2_with fail
    refine (HM.out _).mono ?_
    rintro e w3 ⟨rfl, hb3⟩
    obtain ⟨hc3, hf3⟩ := bcell hb3
    have hz3_0 : w.heap.size < w3.heap.size := by have := hb3.size; first | omega | (simp at this; omega)
    go_wp2
    go_ret2
    refine ⟨rfl, ?_⟩
    (repeat' (first | (with_reducible exact Below.refl _ _) | (with_reducible assumption) | (with_reducible refine belowNext ?_ (by with_reducible assumption)) | (with_reducible refine belowAlloc ?_ _) | (with_reducible refine Below.drew ?_) | (with_reducible refine below_drewN ?_ _) | (with_reducible refine Below.setCell ?_ ?_ _) | go_size | (with_reducible refine sizeOf' ?_) | (with_reducible refine sizeAdd ?_) | (dsimp only; first | (with_reducible refine sizeOf' ?_) | (with_reducible refine sizeAdd ?_))))

end Go.Proofs.Ytflhijmfhlogmaa

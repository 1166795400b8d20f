/-
  Contracts: distances as the model tells them.
-/
import Derived.Test.YtnciiodgkanpjaaW13
namespace Go.Proofs.Ytnciiodgkanpjaa
open Go.RowKit

set_option maxHeartbeats 1000000 in
theorem specDist (n d m c : Int) (w : World) :
    Calls Try.prog 24 #[ang n d, ang m c] w fun e w' => e = .returned (res3 (disN n d m c) (disD n d m c) (disC n d m c)) ∧ Below w.heap.size w w' := by
  have H1 := Lib.hid (fun w => specIs1 n d w)
  have H2 := Lib.hid (fun w => specIs1 m c w)
  have hcase : (isAng n d = false) ∨ (isAng n d = true ∧ isAng m c = false) ∨ (isAng n d = true ∧ isAng m c = true) := by
    cases isAng n d <;> cases isAng m c <;> simp
  rcases hcase with hi1 | ⟨hi1, hi2⟩ | ⟨hi1, hi2⟩
  · have E := Lib.hid (dis_no (show sumOk n d m c = false by simp [sumOk, hi1]))
    rw [hi1] at H1
    clear hi1
    generalize disN n d m c = X at *
    generalize disD n d m c = Y at *
    generalize disC n d m c = C at *
    go_enter Try.func24, Try.ntmps24
    go_wp2_with fail
    refine (H1.out _).mono ?_
    rintro e w1 ⟨rfl, hb1⟩
    have hz0 : w.heap.size < w1.heap.size := by have := hb1.size; simp at this; omega
    have hz1 : w.heap.size + 1 < w1.heap.size := by have := hb1.size; simp at this; omega
    have hz2 : w.heap.size + 1 + 1 < w1.heap.size := by have := hb1.size; simp at this; omega
    obtain ⟨hc1, hf1⟩ := bcell hb1
    have k0 : w1.cell? ⟨w.heap.size + 1 + 1, 0, none⟩ = some (.int .i64 0) := (cellThru hb1 (by simp) (by simp [go_sem]))
    have k1 : w1.cell? ⟨w.heap.size + 1 + 1, 1, none⟩ = some (.int .i64 0) := (cellThru hb1 (by simp) (by simp [go_sem]))
    go_wp2
    refine bodyPost_ret (v := res3 0 0 1) (by simp [results, Try.results24, go_sem, k0, k1]) rfl ⟨ret3 E.out.1.symm E.out.2.1.symm E.out.2.2.symm, ?_⟩
    (repeat' (first | (with_reducible exact Below.refl _ _) | (with_reducible assumption) | (with_reducible refine belowNext ?_ (by with_reducible assumption)) | (with_reducible refine belowAlloc ?_ _) | (with_reducible refine Below.drew ?_) | (with_reducible refine below_drewN ?_ _) | (with_reducible refine Below.setCell ?_ ?_ _) | go_size | (with_reducible refine sizeOf' ?_) | (with_reducible refine sizeAdd ?_) | (dsimp only; first | (with_reducible refine sizeOf' ?_) | (with_reducible refine sizeAdd ?_))))
  · have E := Lib.hid (dis_no (show sumOk n d m c = false by simp [sumOk, hi2]))
    rw [hi1] at H1
    rw [hi2] at H2
    clear hi1 hi2
    generalize disN n d m c = X at *
    generalize disD n d m c = Y at *
    generalize disC n d m c = C at *
    go_enter Try.func24, Try.ntmps24
    go_wp2_with fail
    refine (H1.out _).mono ?_
    rintro e w1 ⟨rfl, hb1⟩
    have hz0 : w.heap.size < w1.heap.size := by have := hb1.size; simp at this; omega
    have hz1 : w.heap.size + 1 < w1.heap.size := by have := hb1.size; simp at this; omega
    have hz2 : w.heap.size + 1 + 1 < w1.heap.size := by have := hb1.size; simp at this; omega
    obtain ⟨hc1, hf1⟩ := bcell hb1
    go_wp2_with fail
    refine (H2.out _).mono ?_
    rintro e w2 ⟨rfl, hb2⟩
    obtain ⟨hc2, hf2⟩ := bcell hb2
    have k0 : w2.cell? ⟨w.heap.size + 1 + 1, 0, none⟩ = some (.int .i64 0) := (cellThru hb2 hz2 (cellThru hb1 (by simp) (by simp [go_sem])))
    have k1 : w2.cell? ⟨w.heap.size + 1 + 1, 1, none⟩ = some (.int .i64 0) := (cellThru hb2 hz2 (cellThru hb1 (by simp) (by simp [go_sem])))
    go_wp2
    refine bodyPost_ret (v := res3 0 0 1) (by simp [results, Try.results24, go_sem, k0, k1]) rfl ⟨ret3 E.out.1.symm E.out.2.1.symm E.out.2.2.symm, ?_⟩
    (repeat' (first | (with_reducible exact Below.refl _ _) | (with_reducible assumption) | (with_reducible refine belowNext ?_ (by with_reducible assumption)) | (with_reducible refine belowAlloc ?_ _) | (with_reducible refine Below.drew ?_) | (with_reducible refine below_drewN ?_ _) | (with_reducible refine Below.setCell ?_ ?_ _) | go_size | (with_reducible refine sizeOf' ?_) | (with_reducible refine sizeAdd ?_) | (dsimp only; first | (with_reducible refine sizeOf' ?_) | (with_reducible refine sizeAdd ?_))))
  · have E := Lib.hid (dis_yes (show sumOk n d m c = true by simp [sumOk, hi1, hi2]))
    have HS := Lib.hid (fun w => specDist1 n d m c w (isAng_ok hi1) (isAng_ok hi2))
    rw [hi1] at H1
    rw [hi2] at H2
    clear hi1 hi2
    generalize minN (redN (m * d - n * c) (d * c)) (redD (m * d - n * c) (d * c)) (redN (-(m * d - n * c)) (d * c)) (redD (-(m * d - n * c)) (d * c)) = x at *
    generalize minD (redN (m * d - n * c) (d * c)) (redD (m * d - n * c) (d * c)) (redN (-(m * d - n * c)) (d * c)) (redD (-(m * d - n * c)) (d * c)) = y at *
    generalize disN n d m c = X at *
    generalize disD n d m c = Y at *
    generalize disC n d m c = C at *
    go_enter Try.func24, Try.ntmps24
    go_wp2_with fail
    refine (H1.out _).mono ?_
    rintro e w1 ⟨rfl, hb1⟩
    have hz0 : w.heap.size < w1.heap.size := by have := hb1.size; simp at this; omega
    have hz1 : w.heap.size + 1 < w1.heap.size := by have := hb1.size; simp at this; omega
    have hz2 : w.heap.size + 1 + 1 < w1.heap.size := by have := hb1.size; simp at this; omega
    obtain ⟨hc1, hf1⟩ := bcell hb1
    go_wp2_with fail
    refine (H2.out _).mono ?_
    rintro e w2 ⟨rfl, hb2⟩
    obtain ⟨hc2, hf2⟩ := bcell hb2
    have hy0 : w.heap.size < w2.heap.size := by have := hb2.size; omega
    have hy1 : w.heap.size + 1 < w2.heap.size := by have := hb2.size; omega
    have hy2 : w.heap.size + 1 + 1 < w2.heap.size := by have := hb2.size; omega
    go_wp2_with fail
    refine (HS.out _).mono ?_
    rintro e w3 ⟨rfl, hb3⟩
    obtain ⟨hc3, hf3⟩ := bcell hb3
    have hx2 : w.heap.size + 1 + 1 < w3.heap.size := by have := hb3.size; omega
    go_wp2_with fail
    refine (specTold _ _ _).mono ?_
    rintro e w4 ⟨rfl, hb4⟩
    obtain ⟨hc4, hf4⟩ := bcell hb4
    have k0 : w4.cell? ⟨w.heap.size + 1 + 1, 0, none⟩ = some (.int .i64 0) := (cellThru hb4 hx2 (cellThru hb3 hy2 (cellThru hb2 hz2 (cellThru hb1 (by simp) (by simp [go_sem])))))
    have k1 : w4.cell? ⟨w.heap.size + 1 + 1, 1, none⟩ = some (.int .i64 0) := (cellThru hb4 hx2 (cellThru hb3 hy2 (cellThru hb2 hz2 (cellThru hb1 (by simp) (by simp [go_sem])))))
    go_wp2
    refine bodyPost_ret (v := res3 (toldN x y) (toldD y) (toldC y)) (by simp [results, Try.results24, go_sem, k0, k1]) rfl ⟨ret3 E.out.1.symm E.out.2.1.symm E.out.2.2.symm, ?_⟩
    (repeat' (first | (with_reducible exact Below.refl _ _) | (with_reducible assumption) | (with_reducible refine belowNext ?_ (by with_reducible assumption)) | (with_reducible refine belowAlloc ?_ _) | (with_reducible refine Below.drew ?_) | (with_reducible refine below_drewN ?_ _) | (with_reducible refine Below.setCell ?_ ?_ _) | go_size | (with_reducible refine sizeOf' ?_) | (with_reducible refine sizeAdd ?_) | (dsimp only; first | (with_reducible refine sizeOf' ?_) | (with_reducible refine sizeAdd ?_))))

end Go.Proofs.Ytnciiodgkanpjaa

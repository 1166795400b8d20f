/-
  Contracts: the leaf between two angles.
-/
import Derived.Test.YtdmppdfncbljoaaV1
namespace Go.Proofs.Ytdmppdfncbljoaa
open Go.RowKit

/-- The ends of the leaf between a/b and c/d, in order. -/
def lfA (a b c d : Int) : Int := if ltA a b c d then a else c
def lfB (a b c d : Int) : Int := if ltA a b c d then b else d
def lfC (a b c d : Int) : Int := if ltA a b c d then c else a
def lfD (a b c d : Int) : Int := if ltA a b c d then d else b
theorem lf_yes {a b c d : Int} (h : ltA a b c d = true) : lfA a b c d = a ∧ lfB a b c d = b ∧ lfC a b c d = c ∧ lfD a b c d = d := by
  unfold lfA lfB lfC lfD; simp [h]
theorem lf_no {a b c d : Int} (h : ltA a b c d = false) : lfA a b c d = c ∧ lfB a b c d = d ∧ lfC a b c d = a ∧ lfD a b c d = b := by
  unfold lfA lfB lfC lfD; simp [h]
theorem retL {a b c d a' b' c' d' : Int} (h1 : a = a') (h2 : b = b') (h3 : c = c') (h4 : d = d') : Ending.returned (leafV a b c d) = .returned (leafV a' b' c' d') := by rw [h1, h2, h3, h4]

set_option maxHeartbeats 1000000 in
theorem implLB (a b c d : Int) (w : World) (h1 : angOk a b) (h2 : angOk c d) :
    Calls Try.prog 84 #[ang a b, ang c d] w fun e w' => e = .returned (leafV (lfA a b c d) (lfB a b c d) (lfC a b c d) (lfD a b c d)) ∧ Below w.heap.size w w' := by
  have H1 := Lib.hid (fun w => cmpAng a b c d w h1 h2)
  have L := ltA_cmp a b c d
  clear h1 h2
  cases h : ltA a b c d
  · have E := Lib.hid (lf_no h)
    rw [h] at L
    have L' := L.symm
    simp at L'
    clear h L
    generalize lfA a b c d = X1 at *
    generalize lfB a b c d = X2 at *
    generalize lfC a b c d = X3 at *
    generalize lfD a b c d = X4 at *
    generalize cmpI (a * d) (c * b) = C at *
    go_enter Try.func84, Try.ntmps84
    go_wp2_with fail
    refine (H1.out _).mono ?_
    rintro e w1 ⟨rfl, hb1⟩
    obtain ⟨hc1, hf1⟩ := bcell hb1
    have hz1_0 : w.heap.size < w1.heap.size := by have := hb1.size; first | omega | (simp at this; omega)
    have hz1_1 : w.heap.size + 1 < w1.heap.size := by have := hb1.size; first | omega | (simp at this; omega)
    have hz1_2 : w.heap.size + 1 + 1 < w1.heap.size := by have := hb1.size; first | omega | (simp at this; omega)
    have q1_2_0 : w1.cell? ⟨w.heap.size + 1 + 1, 0, none⟩ = some (.int .i64 0) := cellThru hb1 (by simp <;> omega) (by simp [go_sem])
    have q1_2_1 : w1.cell? ⟨w.heap.size + 1 + 1, 1, none⟩ = some (.int .i64 0) := cellThru hb1 (by simp <;> omega) (by simp [go_sem])
    have q1_2_2 : w1.cell? ⟨w.heap.size + 1 + 1, 2, none⟩ = some (.int .i64 0) := cellThru hb1 (by simp <;> omega) (by simp [go_sem])
    have q1_2_3 : w1.cell? ⟨w.heap.size + 1 + 1, 3, none⟩ = some (.int .i64 0) := cellThru hb1 (by simp <;> omega) (by simp [go_sem])
    go_wp2
    refine bodyPost_ret (v := leafV c d a b) (by simp [results, Try.results84, go_sem, q1_2_0, q1_2_1, q1_2_2, q1_2_3]) rfl ⟨?_, ?_⟩
    rotate_left
    · (repeat' (first | (with_reducible exact Below.refl _ _) | (with_reducible assumption) | (with_reducible refine belowNext ?_ (by with_reducible assumption)) | (with_reducible refine belowAlloc ?_ _) | (with_reducible refine Below.drew ?_) | (with_reducible refine below_drewN ?_ _) | (with_reducible refine Below.setCell ?_ ?_ _) | go_size | (with_reducible refine sizeOf' ?_) | (with_reducible refine sizeAdd ?_) | (dsimp only; first | (with_reducible refine sizeOf' ?_) | (with_reducible refine sizeAdd ?_))))
    · exact retL E.out.1.symm E.out.2.1.symm E.out.2.2.1.symm E.out.2.2.2.symm
  · have E := Lib.hid (lf_yes h)
    rw [h] at L
    have L' := of_decide_eq_true L.symm
    clear h L
    generalize lfA a b c d = X1 at *
    generalize lfB a b c d = X2 at *
    generalize lfC a b c d = X3 at *
    generalize lfD a b c d = X4 at *
    generalize cmpI (a * d) (c * b) = C at *
    go_enter Try.func84, Try.ntmps84
    go_wp2_with fail
    refine (H1.out _).mono ?_
    rintro e w1 ⟨rfl, hb1⟩
    obtain ⟨hc1, hf1⟩ := bcell hb1
    have hz1_0 : w.heap.size < w1.heap.size := by have := hb1.size; first | omega | (simp at this; omega)
    have hz1_1 : w.heap.size + 1 < w1.heap.size := by have := hb1.size; first | omega | (simp at this; omega)
    have hz1_2 : w.heap.size + 1 + 1 < w1.heap.size := by have := hb1.size; first | omega | (simp at this; omega)
    have q1_2_0 : w1.cell? ⟨w.heap.size + 1 + 1, 0, none⟩ = some (.int .i64 0) := cellThru hb1 (by simp <;> omega) (by simp [go_sem])
    have q1_2_1 : w1.cell? ⟨w.heap.size + 1 + 1, 1, none⟩ = some (.int .i64 0) := cellThru hb1 (by simp <;> omega) (by simp [go_sem])
    have q1_2_2 : w1.cell? ⟨w.heap.size + 1 + 1, 2, none⟩ = some (.int .i64 0) := cellThru hb1 (by simp <;> omega) (by simp [go_sem])
    have q1_2_3 : w1.cell? ⟨w.heap.size + 1 + 1, 3, none⟩ = some (.int .i64 0) := cellThru hb1 (by simp <;> omega) (by simp [go_sem])
    go_wp2
    refine bodyPost_ret (v := leafV a b c d) (by simp [results, Try.results84, go_sem, q1_2_0, q1_2_1, q1_2_2, q1_2_3]) rfl ⟨?_, ?_⟩
    rotate_left
    · (repeat' (first | (with_reducible exact Below.refl _ _) | (with_reducible assumption) | (with_reducible refine belowNext ?_ (by with_reducible assumption)) | (with_reducible refine belowAlloc ?_ _) | (with_reducible refine Below.drew ?_) | (with_reducible refine below_drewN ?_ _) | (with_reducible refine Below.setCell ?_ ?_ _) | go_size | (with_reducible refine sizeOf' ?_) | (with_reducible refine sizeAdd ?_) | (dsimp only; first | (with_reducible refine sizeOf' ?_) | (with_reducible refine sizeAdd ?_))))
    · exact retL E.out.1.symm E.out.2.1.symm E.out.2.2.1.symm E.out.2.2.2.symm

/-- Two fractions are different as numbers, or written alike. -/
def apartA (a b c d : Int) : Prop := a * d ≠ c * b ∨ (a = c ∧ b = d)
theorem lf_turn {a b c d : Int} (h : apartA a b c d) : lfA a b c d = lfA c d a b ∧ lfB a b c d = lfB c d a b ∧ lfC a b c d = lfC c d a b ∧ lfD a b c d = lfD c d a b := by
  rcases h with h | ⟨rfl, rfl⟩
  · rcases Int.lt_or_gt_of_ne h with h | h
    · have e1 : ltA a b c d = true := decide_eq_true h
      have e2 : ltA c d a b = false := decide_eq_false (by omega)
      unfold lfA lfB lfC lfD
      simp [e1, e2]
    · have e1 : ltA a b c d = false := decide_eq_false (by omega)
      have e2 : ltA c d a b = true := decide_eq_true h
      unfold lfA lfB lfC lfD
      simp [e1, e2]
  · exact ⟨rfl, rfl, rfl, rfl⟩

set_option maxHeartbeats 1000000 in
theorem specLB (a b c d : Int) (w : World) (h1 : angOk a b) (h2 : angOk c d) (h3 : apartA a b c d) :
    Calls Try.prog 148 #[ang a b, ang c d] w fun e w' => e = .returned (leafV (lfA a b c d) (lfB a b c d) (lfC a b c d) (lfD a b c d)) ∧ Below w.heap.size w w' := by
  have H1 := Lib.hid (fun w => specLess c d a b w h2 h1)
  obtain ⟨t1, t2, t3, t4⟩ := lf_turn h3
  rw [t1, t2, t3, t4]
  clear h1 h2 h3 t1 t2 t3 t4
  cases h : ltA c d a b
  · have E := Lib.hid (lf_no h)
    rw [h] at H1
    clear h
    generalize lfA c d a b = X1 at *
    generalize lfB c d a b = X2 at *
    generalize lfC c d a b = X3 at *
    generalize lfD c d a b = X4 at *
    go_enter Try.func148, Try.ntmps148
    go_wp2_with fail
    refine (H1.out _).mono ?_
    rintro e w1 ⟨rfl, hb1⟩
    obtain ⟨hc1, hf1⟩ := bcell hb1
    have hz1_0 : w.heap.size < w1.heap.size := by have := hb1.size; first | omega | (simp at this; omega)
    have hz1_1 : w.heap.size + 1 < w1.heap.size := by have := hb1.size; first | omega | (simp at this; omega)
    have hz1_2 : w.heap.size + 1 + 1 < w1.heap.size := by have := hb1.size; first | omega | (simp at this; omega)
    have q1_2_0 : w1.cell? ⟨w.heap.size + 1 + 1, 0, none⟩ = some (.int .i64 0) := cellThru hb1 (by simp <;> omega) (by simp [go_sem])
    have q1_2_1 : w1.cell? ⟨w.heap.size + 1 + 1, 1, none⟩ = some (.int .i64 0) := cellThru hb1 (by simp <;> omega) (by simp [go_sem])
    have q1_2_2 : w1.cell? ⟨w.heap.size + 1 + 1, 2, none⟩ = some (.int .i64 0) := cellThru hb1 (by simp <;> omega) (by simp [go_sem])
    have q1_2_3 : w1.cell? ⟨w.heap.size + 1 + 1, 3, none⟩ = some (.int .i64 0) := cellThru hb1 (by simp <;> omega) (by simp [go_sem])
    go_wp2
    refine bodyPost_ret (v := leafV a b c d) (by simp [results, Try.results148, go_sem, q1_2_0, q1_2_1, q1_2_2, q1_2_3]) rfl ⟨?_, ?_⟩
    rotate_left
    · (repeat' (first | (with_reducible exact Below.refl _ _) | (with_reducible assumption) | (with_reducible refine belowNext ?_ (by with_reducible assumption)) | (with_reducible refine belowAlloc ?_ _) | (with_reducible refine Below.drew ?_) | (with_reducible refine below_drewN ?_ _) | (with_reducible refine Below.setCell ?_ ?_ _) | go_size | (with_reducible refine sizeOf' ?_) | (with_reducible refine sizeAdd ?_) | (dsimp only; first | (with_reducible refine sizeOf' ?_) | (with_reducible refine sizeAdd ?_))))
    · exact retL E.out.1.symm E.out.2.1.symm E.out.2.2.1.symm E.out.2.2.2.symm
  · have E := Lib.hid (lf_yes h)
    rw [h] at H1
    clear h
    generalize lfA c d a b = X1 at *
    generalize lfB c d a b = X2 at *
    generalize lfC c d a b = X3 at *
    generalize lfD c d a b = X4 at *
    go_enter Try.func148, Try.ntmps148
    go_wp2_with fail
    refine (H1.out _).mono ?_
    rintro e w1 ⟨rfl, hb1⟩
    obtain ⟨hc1, hf1⟩ := bcell hb1
    have hz1_0 : w.heap.size < w1.heap.size := by have := hb1.size; first | omega | (simp at this; omega)
    have hz1_1 : w.heap.size + 1 < w1.heap.size := by have := hb1.size; first | omega | (simp at this; omega)
    have hz1_2 : w.heap.size + 1 + 1 < w1.heap.size := by have := hb1.size; first | omega | (simp at this; omega)
    have q1_2_0 : w1.cell? ⟨w.heap.size + 1 + 1, 0, none⟩ = some (.int .i64 0) := cellThru hb1 (by simp <;> omega) (by simp [go_sem])
    have q1_2_1 : w1.cell? ⟨w.heap.size + 1 + 1, 1, none⟩ = some (.int .i64 0) := cellThru hb1 (by simp <;> omega) (by simp [go_sem])
    have q1_2_2 : w1.cell? ⟨w.heap.size + 1 + 1, 2, none⟩ = some (.int .i64 0) := cellThru hb1 (by simp <;> omega) (by simp [go_sem])
    have q1_2_3 : w1.cell? ⟨w.heap.size + 1 + 1, 3, none⟩ = some (.int .i64 0) := cellThru hb1 (by simp <;> omega) (by simp [go_sem])
    go_wp2
    refine bodyPost_ret (v := leafV c d a b) (by simp [results, Try.results148, go_sem, q1_2_0, q1_2_1, q1_2_2, q1_2_3]) rfl ⟨?_, ?_⟩
    rotate_left
    · (repeat' (first | (with_reducible exact Below.refl _ _) | (with_reducible assumption) | (with_reducible refine belowNext ?_ (by with_reducible assumption)) | (with_reducible refine belowAlloc ?_ _) | (with_reducible refine Below.drew ?_) | (with_reducible refine below_drewN ?_ _) | (with_reducible refine Below.setCell ?_ ?_ _) | go_size | (with_reducible refine sizeOf' ?_) | (with_reducible refine sizeAdd ?_) | (dsimp only; first | (with_reducible refine sizeOf' ?_) | (with_reducible refine sizeAdd ?_))))
    · exact retL E.out.1.symm E.out.2.1.symm E.out.2.2.1.symm E.out.2.2.2.symm
end Go.Proofs.Ytdmppdfncbljoaa

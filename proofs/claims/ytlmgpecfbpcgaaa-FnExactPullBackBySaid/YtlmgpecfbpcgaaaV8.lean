/-
  Contracts: lengths of leaves; the walks of the laws of LeafLength and LeafOf.
  Contracts: lengths of leaves as they are compared; leaves that are short enough.
-/
import Derived.Test.YtlmgpecfbpcgaaaV7
import Derived.Test.YtlmgpecfbpcgaaaW14
import Derived.Deep.DeepCutAuto
namespace Go.Proofs.Ytlmgpecfbpcgaaa
open Go.RowKit

/-- The length, and its code. -/
def llN (a b c d : Int) : Int := if isLf a b c d then disN a b c d else 0
def llD (a b c d : Int) : Int := if isLf a b c d then disD a b c d else 0
def llC (a b c d : Int) : Int := if isLf a b c d then disC a b c d else 1
theorem ll_no {a b c d : Int} (h : isLf a b c d = false) : llN a b c d = 0 ∧ llD a b c d = 0 ∧ llC a b c d = 1 := by
  unfold llN llD llC; simp [h]
theorem ll_yes {a b c d : Int} (h : isLf a b c d = true) : llN a b c d = disN a b c d ∧ llD a b c d = disD a b c d ∧ llC a b c d = disC a b c d := by
  unfold llN llD llC; simp [h]

set_option maxHeartbeats 1000000 in
theorem implLen (a b c d : Int) (w : World) :
    Calls Try.prog 18 #[leafV a b c d] w fun e w' => e = .returned (res3 (llN a b c d) (llD a b c d) (llC a b c d)) ∧ Below w.heap.size w w' := by
  have H1 := Lib.hid (fun w => implLf a b c d w)
  have H2 := Lib.hid (fun w => implDist a b c d w)
  cases h : isLf a b c d
  · have E := Lib.hid (ll_no h)
    rw [h] at H1
    clear h
    generalize llN a b c d = X1 at *
    generalize llD a b c d = X2 at *
    generalize llC a b c d = X3 at *
    go_enter Try.func18, Try.ntmps18
    go_wp2_with fail
    refine (H1.out _).mono ?_
    rintro e w1 ⟨rfl, hb1⟩
    obtain ⟨hc1, hf1⟩ := bcell hb1
    have hz1_0 : w.heap.size < w1.heap.size := by have := hb1.size; first | omega | (simp at this; omega)
    have hz1_1 : w.heap.size + 1 < w1.heap.size := by have := hb1.size; first | omega | (simp at this; omega)
    have q1_1_0 : w1.cell? ⟨w.heap.size + 1, 0, none⟩ = some (.int .i64 0) := cellThru hb1 (by simp <;> omega) (by simp [go_sem])
    have q1_1_1 : w1.cell? ⟨w.heap.size + 1, 1, none⟩ = some (.int .i64 0) := cellThru hb1 (by simp <;> omega) (by simp [go_sem])
    go_wp2
    refine bodyPost_ret (v := res3 0 0 1) (by simp [results, Try.results18, go_sem, q1_1_0, q1_1_1]) rfl ⟨ret3 E.out.1.symm E.out.2.1.symm E.out.2.2.symm, ?_⟩
    (repeat' (first | (with_reducible exact Below.refl _ _) | (with_reducible assumption) | (with_reducible refine belowNext ?_ (by with_reducible assumption)) | (with_reducible refine belowAlloc ?_ _) | (with_reducible refine Below.drew ?_) | (with_reducible refine below_drewN ?_ _) | (with_reducible refine Below.setCell ?_ ?_ _) | go_size | (with_reducible refine sizeOf' ?_) | (with_reducible refine sizeAdd ?_) | (dsimp only; first | (with_reducible refine sizeOf' ?_) | (with_reducible refine sizeAdd ?_))))
  · have E := Lib.hid (ll_yes h)
    rw [h] at H1
    clear h
    generalize llN a b c d = X1 at *
    generalize llD a b c d = X2 at *
    generalize llC a b c d = X3 at *
    generalize disN a b c d = Y1 at *
    generalize disD a b c d = Y2 at *
    generalize disC a b c d = Y3 at *
    go_enter Try.func18, Try.ntmps18
    go_wp2_with fail
    refine (H1.out _).mono ?_
    rintro e w1 ⟨rfl, hb1⟩
    obtain ⟨hc1, hf1⟩ := bcell hb1
    have hz1_0 : w.heap.size < w1.heap.size := by have := hb1.size; first | omega | (simp at this; omega)
    have hz1_1 : w.heap.size + 1 < w1.heap.size := by have := hb1.size; first | omega | (simp at this; omega)
    have q1_1_0 : w1.cell? ⟨w.heap.size + 1, 0, none⟩ = some (.int .i64 0) := cellThru hb1 (by simp <;> omega) (by simp [go_sem])
    have q1_1_1 : w1.cell? ⟨w.heap.size + 1, 1, none⟩ = some (.int .i64 0) := cellThru hb1 (by simp <;> omega) (by simp [go_sem])
    go_wp2_with fail
    refine (H2.out _).mono ?_
    rintro e w2 ⟨rfl, hb2⟩
    obtain ⟨hc2, hf2⟩ := bcell hb2
    have hz2_0 : w.heap.size < w2.heap.size := by have := hb2.size; first | omega | (simp at this; omega)
    have hz2_1 : w.heap.size + 1 < w2.heap.size := by have := hb2.size; first | omega | (simp at this; omega)
    have q2_1_0 : w2.cell? ⟨w.heap.size + 1, 0, none⟩ = some (.int .i64 0) := by first | exact cellThru hb2 hz1_1 q1_1_0 | (refine cellThru hb2 ?_ (cellThru (belowAlloc (Below.refl _ _) _) hz1_1 q1_1_0); first | omega | (simp; omega)) | (refine cellThru hb2 ?_ (cellThru (belowAlloc (belowAlloc (Below.refl _ _) _) _) hz1_1 q1_1_0); first | omega | (simp; omega)) | (refine cellThru hb2 ?_ ?_; (first | omega | (simp; omega) | go_size); simp [go_sem, q1_1_0])
    have q2_1_1 : w2.cell? ⟨w.heap.size + 1, 1, none⟩ = some (.int .i64 0) := by first | exact cellThru hb2 hz1_1 q1_1_1 | (refine cellThru hb2 ?_ (cellThru (belowAlloc (Below.refl _ _) _) hz1_1 q1_1_1); first | omega | (simp; omega)) | (refine cellThru hb2 ?_ (cellThru (belowAlloc (belowAlloc (Below.refl _ _) _) _) hz1_1 q1_1_1); first | omega | (simp; omega)) | (refine cellThru hb2 ?_ ?_; (first | omega | (simp; omega) | go_size); simp [go_sem, q1_1_1])
    go_wp2
    refine bodyPost_ret (v := res3 Y1 Y2 Y3) (by simp [results, Try.results18, go_sem, q2_1_0, q2_1_1]) rfl ⟨ret3 E.out.1.symm E.out.2.1.symm E.out.2.2.symm, ?_⟩
    (repeat' (first | (with_reducible exact Below.refl _ _) | (with_reducible assumption) | (with_reducible refine belowNext ?_ (by with_reducible assumption)) | (with_reducible refine belowAlloc ?_ _) | (with_reducible refine Below.drew ?_) | (with_reducible refine below_drewN ?_ _) | (with_reducible refine Below.setCell ?_ ?_ _) | go_size | (with_reducible refine sizeOf' ?_) | (with_reducible refine sizeAdd ?_) | (dsimp only; first | (with_reducible refine sizeOf' ?_) | (with_reducible refine sizeAdd ?_))))

set_option maxHeartbeats 1000000 in
theorem specLen (a b c d : Int) (w : World) :
    Calls Try.prog 16 #[leafV a b c d] w fun e w' => e = .returned (res3 (llN a b c d) (llD a b c d) (llC a b c d)) ∧ Below w.heap.size w w' := by
  have H1 := Lib.hid (fun w => specLf1 a b c d w)
  cases h : isLf a b c d
  · have E := Lib.hid (ll_no h)
    rw [h] at H1
    clear h
    generalize llN a b c d = X1 at *
    generalize llD a b c d = X2 at *
    generalize llC a b c d = X3 at *
    go_enter Try.func16, Try.ntmps16
    go_wp2_with fail
    refine (H1.out _).mono ?_
    rintro e w1 ⟨rfl, hb1⟩
    obtain ⟨hc1, hf1⟩ := bcell hb1
    have hz1_0 : w.heap.size < w1.heap.size := by have := hb1.size; first | omega | (simp at this; omega)
    have hz1_1 : w.heap.size + 1 < w1.heap.size := by have := hb1.size; first | omega | (simp at this; omega)
    have q1_1_0 : w1.cell? ⟨w.heap.size + 1, 0, none⟩ = some (.int .i64 0) := cellThru hb1 (by simp <;> omega) (by simp [go_sem])
    have q1_1_1 : w1.cell? ⟨w.heap.size + 1, 1, none⟩ = some (.int .i64 0) := cellThru hb1 (by simp <;> omega) (by simp [go_sem])
    go_wp2
    refine bodyPost_ret (v := res3 0 0 1) (by simp [results, Try.results16, go_sem, q1_1_0, q1_1_1]) rfl ⟨ret3 E.out.1.symm E.out.2.1.symm E.out.2.2.symm, ?_⟩
    (repeat' (first | (with_reducible exact Below.refl _ _) | (with_reducible assumption) | (with_reducible refine belowNext ?_ (by with_reducible assumption)) | (with_reducible refine belowAlloc ?_ _) | (with_reducible refine Below.drew ?_) | (with_reducible refine below_drewN ?_ _) | (with_reducible refine Below.setCell ?_ ?_ _) | go_size | (with_reducible refine sizeOf' ?_) | (with_reducible refine sizeAdd ?_) | (dsimp only; first | (with_reducible refine sizeOf' ?_) | (with_reducible refine sizeAdd ?_))))
  · obtain ⟨r1, r2, -⟩ := isLf_yes h
    have hs : sumOk a b c d = true := by unfold sumOk; rw [angOf r1, angOf r2]; rfl
    have E0 := ll_yes h
    have E1 := dis_yes hs
    have E := Lib.hid (And.intro (E0.1.trans E1.1) (And.intro (E0.2.1.trans E1.2.1) (E0.2.2.trans E1.2.2)))
    have H2 := Lib.hid (fun w => specDist1 a b c d w (okOf r1) (okOf r2))
    rw [h] at H1
    clear h r1 r2 hs E0 E1
    generalize llN a b c d = X1 at *
    generalize llD a b c d = X2 at *
    generalize llC a b c d = X3 at *
    generalize minN (redN (c * b - a * d) (b * d)) (redD (c * b - a * d) (b * d)) (redN (-(c * b - a * d)) (b * d)) (redD (-(c * b - a * d)) (b * d)) = p at *
    generalize minD (redN (c * b - a * d) (b * d)) (redD (c * b - a * d) (b * d)) (redN (-(c * b - a * d)) (b * d)) (redD (-(c * b - a * d)) (b * d)) = q at *
    have H3 := Lib.hid (fun w => specTold p q w)
    generalize toldN p q = Y1 at *
    generalize toldD q = Y2 at *
    generalize toldC q = Y3 at *
    go_enter Try.func16, Try.ntmps16
    go_wp2_with fail
    refine (H1.out _).mono ?_
    rintro e w1 ⟨rfl, hb1⟩
    obtain ⟨hc1, hf1⟩ := bcell hb1
    have hz1_0 : w.heap.size < w1.heap.size := by have := hb1.size; first | omega | (simp at this; omega)
    have hz1_1 : w.heap.size + 1 < w1.heap.size := by have := hb1.size; first | omega | (simp at this; omega)
    have q1_1_0 : w1.cell? ⟨w.heap.size + 1, 0, none⟩ = some (.int .i64 0) := cellThru hb1 (by simp <;> omega) (by simp [go_sem])
    have q1_1_1 : w1.cell? ⟨w.heap.size + 1, 1, none⟩ = some (.int .i64 0) := cellThru hb1 (by simp <;> omega) (by simp [go_sem])
    go_wp2_with fail
    refine (H2.out _).mono ?_
    rintro e w2 ⟨rfl, hb2⟩
    obtain ⟨hc2, hf2⟩ := bcell hb2
    have hz2_0 : w.heap.size < w2.heap.size := by have := hb2.size; first | omega | (simp at this; omega)
    have hz2_1 : w.heap.size + 1 < w2.heap.size := by have := hb2.size; first | omega | (simp at this; omega)
    have q2_1_0 : w2.cell? ⟨w.heap.size + 1, 0, none⟩ = some (.int .i64 0) := by first | exact cellThru hb2 hz1_1 q1_1_0 | (refine cellThru hb2 ?_ (cellThru (belowAlloc (Below.refl _ _) _) hz1_1 q1_1_0); first | omega | (simp; omega)) | (refine cellThru hb2 ?_ (cellThru (belowAlloc (belowAlloc (Below.refl _ _) _) _) hz1_1 q1_1_0); first | omega | (simp; omega)) | (refine cellThru hb2 ?_ ?_; (first | omega | (simp; omega) | go_size); simp [go_sem, q1_1_0])
    have q2_1_1 : w2.cell? ⟨w.heap.size + 1, 1, none⟩ = some (.int .i64 0) := by first | exact cellThru hb2 hz1_1 q1_1_1 | (refine cellThru hb2 ?_ (cellThru (belowAlloc (Below.refl _ _) _) hz1_1 q1_1_1); first | omega | (simp; omega)) | (refine cellThru hb2 ?_ (cellThru (belowAlloc (belowAlloc (Below.refl _ _) _) _) hz1_1 q1_1_1); first | omega | (simp; omega)) | (refine cellThru hb2 ?_ ?_; (first | omega | (simp; omega) | go_size); simp [go_sem, q1_1_1])
    go_wp2_with fail
    refine (H3.out _).mono ?_
    rintro e w3 ⟨rfl, hb3⟩
    obtain ⟨hc3, hf3⟩ := bcell hb3
    have hz3_0 : w.heap.size < w3.heap.size := by have := hb3.size; first | omega | (simp at this; omega)
    have hz3_1 : w.heap.size + 1 < w3.heap.size := by have := hb3.size; first | omega | (simp at this; omega)
    have q3_1_0 : w3.cell? ⟨w.heap.size + 1, 0, none⟩ = some (.int .i64 0) := by first | exact cellThru hb3 hz2_1 q2_1_0 | (refine cellThru hb3 ?_ (cellThru (belowAlloc (Below.refl _ _) _) hz2_1 q2_1_0); first | omega | (simp; omega)) | (refine cellThru hb3 ?_ (cellThru (belowAlloc (belowAlloc (Below.refl _ _) _) _) hz2_1 q2_1_0); first | omega | (simp; omega)) | (refine cellThru hb3 ?_ ?_; (first | omega | (simp; omega) | go_size); simp [go_sem, q2_1_0])
    have q3_1_1 : w3.cell? ⟨w.heap.size + 1, 1, none⟩ = some (.int .i64 0) := by first | exact cellThru hb3 hz2_1 q2_1_1 | (refine cellThru hb3 ?_ (cellThru (belowAlloc (Below.refl _ _) _) hz2_1 q2_1_1); first | omega | (simp; omega)) | (refine cellThru hb3 ?_ (cellThru (belowAlloc (belowAlloc (Below.refl _ _) _) _) hz2_1 q2_1_1); first | omega | (simp; omega)) | (refine cellThru hb3 ?_ ?_; (first | omega | (simp; omega) | go_size); simp [go_sem, q2_1_1])
    go_wp2
    refine bodyPost_ret (v := res3 Y1 Y2 Y3) (by simp [results, Try.results16, go_sem, q3_1_0, q3_1_1]) rfl ⟨ret3 E.out.1.symm E.out.2.1.symm E.out.2.2.symm, ?_⟩
    (repeat' (first | (with_reducible exact Below.refl _ _) | (with_reducible assumption) | (with_reducible refine belowNext ?_ (by with_reducible assumption)) | (with_reducible refine belowAlloc ?_ _) | (with_reducible refine Below.drew ?_) | (with_reducible refine below_drewN ?_ _) | (with_reducible refine Below.setCell ?_ ?_ _) | go_size | (with_reducible refine sizeOf' ?_) | (with_reducible refine sizeAdd ?_) | (dsimp only; first | (with_reducible refine sizeOf' ?_) | (with_reducible refine sizeAdd ?_))))

set_option maxHeartbeats 1000000 in
theorem lawLeafLength (a b c d : Int) (_ : (Lit.int .i64 a).wf = true) (_ : (Lit.int .i64 b).wf = true) (_ : (Lit.int .i64 c).wf = true) (_ : (Lit.int .i64 d).wf = true) (w : World) :
    Calls Try.prog 4 #[leafV a b c d] w fun e w' => e = .returned (.bool true) ∧ Below w.heap.size w w' := by
  have HS := Lib.hid (fun w => specLen a b c d w)
  have HI := Lib.hid (fun w => implLen a b c d w)
  generalize llN a b c d = X1 at *
  generalize llD a b c d = X2 at *
  generalize llC a b c d = X3 at *
  go_enter Try.func4, Try.ntmps4
  go_wp2_with fail
  refine (toLf _ _ _ _ _).mono ?_
  rintro e w1 ⟨rfl, hb1⟩
  obtain ⟨hc1, hf1⟩ := bcell hb1
  have hz1_0 : w.heap.size < w1.heap.size := by have := hb1.size; first | omega | (simp at this; omega)
  go_wp2_with fail
  refine (HS.out _).mono ?_
  rintro e w2 ⟨rfl, hb2⟩
  obtain ⟨hc2, hf2⟩ := bcell hb2
  have hz2_0 : w.heap.size < w2.heap.size := by have := hb2.size; first | omega | (simp at this; omega)
  go_wp2_with fail
  refine (toLf _ _ _ _ _).mono ?_
  rintro e w3 ⟨rfl, hb3⟩
  obtain ⟨hc3, hf3⟩ := bcell hb3
  have hz3_0 : w.heap.size < w3.heap.size := by have := hb3.size; first | omega | (simp at this; omega)
  have hw2 : w2.heap.size < w3.heap.size := by have := hb3.size; simp at this; omega
  go_wp2_with fail
  refine (HI.out _).mono ?_
  rintro e w4 ⟨rfl, hb4⟩
  obtain ⟨hc4, hf4⟩ := bcell hb4
  have hz4_0 : w.heap.size < w4.heap.size := by have := hb4.size; first | omega | (simp at this; omega)
  have hw24 : w2.heap.size < w4.heap.size := by have := hb4.size; first | omega | (simp at this; omega)
  go_wp2_with fail
  refine (eqAngSame _ _ _).mono ?_
  rintro e w5 ⟨rfl, hb5⟩
  go_wp2
  go_ret
  refine ⟨rfl, ?_⟩
  (repeat' (first | (with_reducible exact Below.refl _ _) | (with_reducible assumption) | (with_reducible refine belowNext ?_ (by with_reducible assumption)) | (with_reducible refine belowAlloc ?_ _) | (with_reducible refine Below.drew ?_) | (with_reducible refine below_drewN ?_ _) | (with_reducible refine Below.setCell ?_ ?_ _) | go_size | (with_reducible refine sizeOf' ?_) | (with_reducible refine sizeAdd ?_) | (dsimp only; first | (with_reducible refine sizeOf' ?_) | (with_reducible refine sizeAdd ?_))))

theorem zThruL {W w1 : World} (hb : Below W.heap.size W w1) : ∀ b, b < W.heap.size → b < w1.heap.size := fun _ h => Nat.lt_of_lt_of_le h hb.size

/-- Two boxed angles, kept. -/
theorem two2 {w W w1 : World} {n d m c : Int} (hb : Below W.heap.size W w1) (h : w.heap.size + 1 < W.heap.size ∧ Below w.heap.size w W ∧ W.cell? ⟨w.heap.size, 0, none⟩ = some (.int .i64 n) ∧ W.cell? ⟨w.heap.size, 1, none⟩ = some (.int .i64 d) ∧ W.cell? ⟨w.heap.size + 1, 0, none⟩ = some (.int .i64 m) ∧ W.cell? ⟨w.heap.size + 1, 1, none⟩ = some (.int .i64 c)) :
    w.heap.size + 1 < w1.heap.size ∧ Below w.heap.size w w1 ∧ w1.cell? ⟨w.heap.size, 0, none⟩ = some (.int .i64 n) ∧ w1.cell? ⟨w.heap.size, 1, none⟩ = some (.int .i64 d) ∧ w1.cell? ⟨w.heap.size + 1, 0, none⟩ = some (.int .i64 m) ∧ w1.cell? ⟨w.heap.size + 1, 1, none⟩ = some (.int .i64 c) := by
  obtain ⟨hz, hB, h0, h1, h2, h3⟩ := h
  exact ⟨Nat.lt_of_lt_of_le hz hb.size, belowNext hB hb, cellThru hb (by omega) h0, cellThru hb (by omega) h1, cellThru hb (by omega) h2, cellThru hb (by omega) h3⟩

theorem cmpI_le (x y : Int) : decide (cmpI x y ≤ 0) = decide (x ≤ y) := by
  unfold cmpI
  rw [decide_eq_decide]
  split
  · omega
  · split <;> omega
theorem cmpI_lt (x y : Int) : decide (cmpI x y < 0) = decide (x < y) := by
  unfold cmpI
  rw [decide_eq_decide]
  split
  · omega
  · split <;> omega
/-- The length is at most a third. -/
def shortB (a b c d : Int) : Bool := decide (3 * dsN a b c d ≤ dsD a b c d)

set_option maxHeartbeats 1000000 in
theorem implLenOf (a b c d : Int) (w : World) (h1 : angOk a b) (h2 : angOk c d) :
    Calls Try.prog 96 #[leafV a b c d] w fun e w' => e = .returned (ang (dsN a b c d) (dsD a b c d)) ∧ Below w.heap.size w w' := by
  have H2 := Lib.hid (fun w => implDB a b c d w h1 h2)
  clear h1 h2
  generalize dsN a b c d = X at *
  generalize dsD a b c d = Y at *
  go_enter Try.func96, Try.ntmps96
  go_wp2_with fail
  refine (H2.out _).mono ?_
  rintro e w1 ⟨rfl, hb1⟩
  obtain ⟨hc1, hf1⟩ := bcell hb1
  have hz1_0 : w.heap.size < w1.heap.size := by have := hb1.size; first | omega | (simp at this; omega)
  have hz1_1 : w.heap.size + 1 < w1.heap.size := by have := hb1.size; first | omega | (simp at this; omega)
  have q1_1_0 : w1.cell? ⟨w.heap.size + 1, 0, none⟩ = some (.int .i64 0) := cellThru hb1 (by simp <;> omega) (by simp [go_sem])
  have q1_1_1 : w1.cell? ⟨w.heap.size + 1, 1, none⟩ = some (.int .i64 0) := cellThru hb1 (by simp <;> omega) (by simp [go_sem])
  go_wp2
  refine bodyPost_ret (v := ang X Y) (by simp [results, Try.results96, go_sem, q1_1_0, q1_1_1]) rfl ⟨rfl, ?_⟩
  (repeat' (first | (with_reducible exact Below.refl _ _) | (with_reducible assumption) | (with_reducible refine belowNext ?_ (by with_reducible assumption)) | (with_reducible refine belowAlloc ?_ _) | (with_reducible refine Below.drew ?_) | (with_reducible refine below_drewN ?_ _) | (with_reducible refine Below.setCell ?_ ?_ _) | go_size | (with_reducible refine sizeOf' ?_) | (with_reducible refine sizeAdd ?_) | (dsimp only; first | (with_reducible refine sizeOf' ?_) | (with_reducible refine sizeAdd ?_))))

set_option maxHeartbeats 1000000 in
theorem implCmpLen (a b c d e f g h : Int) (w : World) (h1 : angOk a b) (h2 : angOk c d) (h3 : angOk e f) (h4 : angOk g h) :
    Calls Try.prog 56 #[leafV a b c d, leafV e f g h] w fun e' w' => e' = .returned (.int .i64 (cmpI (dsN a b c d * dsD e f g h) (dsN e f g h * dsD a b c d))) ∧ Below w.heap.size w w' := by
  have H1 := Lib.hid (fun w => implLenOf a b c d w h1 h2)
  have H2 := Lib.hid (fun w => implLenOf e f g h w h3 h4)
  have H3 := Lib.hid (fun w => cmpAngV (dsN a b c d) (dsD a b c d) (dsN e f g h) (dsD e f g h) w (ds_W h1 h2) (ds_W h3 h4))
  clear h1 h2 h3 h4
  generalize dsN a b c d = X at *
  generalize dsD a b c d = Y at *
  generalize dsN e f g h = X' at *
  generalize dsD e f g h = Y' at *
  generalize cmpI (X * Y') (X' * Y) = C at *
  go_enter Try.func56, Try.ntmps56
  go_wp2_with fail
  go_region_with (first
      | (go_at_call 96; (with_reducible refine (H1.out _).mono ?_); rintro e' w1 ⟨rfl, hb1⟩; obtain ⟨hc1, hf1⟩ := bcell hb1; have hz1 : w.heap.size < w1.heap.size := (by have := hb1.size; first | omega | (simp at this; omega)); have hz1' : w.heap.size + 1 < w1.heap.size := (by have := hb1.size; first | omega | (simp at this; omega)))
      | (go_at_call 96; (with_reducible refine (H2.out _).mono ?_); rintro e' w2 ⟨rfl, hb2⟩; obtain ⟨hc2, hf2⟩ := bcell hb2; have hz2 : w.heap.size < w2.heap.size := (by have := hb2.size; first | omega | (simp at this; omega)); have hz2' : w.heap.size + 1 < w2.heap.size := (by have := hb2.size; first | omega | (simp at this; omega)))
      | (go_at_call 90; (with_reducible refine (H3.out _).mono ?_); rintro e' w3 ⟨rfl, hb3⟩))
  all_goals
    go_wp2
    go_ret
    refine ⟨rfl, ?_⟩
    (repeat' (first | (with_reducible exact Below.refl _ _) | (with_reducible assumption) | (with_reducible refine belowNext ?_ (by with_reducible assumption)) | (with_reducible refine belowAlloc ?_ _) | (with_reducible refine Below.drew ?_) | (with_reducible refine below_drewN ?_ _) | (with_reducible refine Below.setCell ?_ ?_ _) | go_size | (with_reducible refine sizeOf' ?_) | (with_reducible refine sizeAdd ?_) | (dsimp only; first | (with_reducible refine sizeOf' ?_) | (with_reducible refine sizeAdd ?_))))

set_option maxHeartbeats 1000000 in
theorem implShort (a b c d : Int) (w : World) (h1 : angOk a b) (h2 : angOk c d) :
    Calls Try.prog 59 #[leafV a b c d] w fun e w' => e = .returned (.bool (shortB a b c d)) ∧ Below w.heap.size w w' := by
  have H1 := Lib.hid (fun w => implLenOf a b c d w h1 h2)
  have H3 := Lib.hid (fun w => cmpAngV (dsN a b c d) (dsD a b c d) 1 3 w (ds_W h1 h2) ⟨by omega, by omega, by omega, by omega⟩)
  have E : Hid (shortB a b c d = decide (cmpI (dsN a b c d * 3) (1 * dsD a b c d) ≤ 0)) := Lib.hid (by
    rw [cmpI_le]
    unfold shortB
    rw [decide_eq_decide]
    omega)
  clear h1 h2
  generalize shortB a b c d = S at *
  generalize dsN a b c d = X at *
  generalize dsD a b c d = Y at *
  generalize cmpI (X * 3) (1 * Y) = C at *
  go_enter Try.func59, Try.ntmps59
  go_wp2_with fail
  refine (H1.out _).mono ?_
  rintro e w1 ⟨rfl, hb1⟩
  obtain ⟨hc1, hf1⟩ := bcell hb1
  have hz1_0 : w.heap.size < w1.heap.size := by have := hb1.size; first | omega | (simp at this; omega)
  go_wp2_with fail
  refine (H3.out _).mono ?_
  rintro e w2 ⟨rfl, hb2⟩
  go_wp2
  go_ret
  refine ⟨retB (by rw [E.out]), ?_⟩
  (repeat' (first | (with_reducible exact Below.refl _ _) | (with_reducible assumption) | (with_reducible refine belowNext ?_ (by with_reducible assumption)) | (with_reducible refine belowAlloc ?_ _) | (with_reducible refine Below.drew ?_) | (with_reducible refine below_drewN ?_ _) | (with_reducible refine Below.setCell ?_ ?_ _) | go_size | (with_reducible refine sizeOf' ?_) | (with_reducible refine sizeAdd ?_) | (dsimp only; first | (with_reducible refine sizeOf' ?_) | (with_reducible refine sizeAdd ?_))))

set_option maxHeartbeats 1000000 in
theorem specLong (a b c d : Int) (w : World) (h1 : angOk a b) (h2 : angOk c d) :
    Calls Try.prog 57 #[leafV a b c d] w fun e w' => e = .returned (.bool (!shortB a b c d)) ∧ Below w.heap.size w w' := by
  have H1 : Hid (∀ w, Calls Try.prog 46 #[ang a b, ang c d] w fun e w' => e = .returned (ang (dsN a b c d) (dsD a b c d)) ∧ Below w.heap.size w w') := Lib.hid (fun w => specDist1 a b c d w h1 h2)
  obtain ⟨b1, b2, b3, b4⟩ := ds_W h1 h2
  have E : Hid ((!shortB a b c d) = decide (dsD a b c d < 3 * dsN a b c d)) := Lib.hid (by
    unfold shortB
    rw [Bool.eq_iff_iff]
    simp)
  clear h1 h2
  generalize shortB a b c d = S at *
  generalize dsN a b c d = X at *
  generalize dsD a b c d = Y at *
  have wr : IntKind.i64.wrap (3 * X) = 3 * X := IntWalk.i64_in _ (by omega)
  clear b1 b2 b3 b4
  go_enter Try.func57, Try.ntmps57
  go_wp2_with fail
  refine (H1.out _).mono ?_
  rintro e w1 ⟨rfl, hb1⟩
  obtain ⟨hc1, hf1⟩ := bcell hb1
  have hz1_0 : w.heap.size < w1.heap.size := by have := hb1.size; first | omega | (simp at this; omega)
  go_wp2
  go_ret
  refine ⟨retB (by rw [E.out]), ?_⟩
  (repeat' (first | (with_reducible exact Below.refl _ _) | (with_reducible assumption) | (with_reducible refine belowNext ?_ (by with_reducible assumption)) | (with_reducible refine belowAlloc ?_ _) | (with_reducible refine Below.drew ?_) | (with_reducible refine below_drewN ?_ _) | (with_reducible refine Below.setCell ?_ ?_ _) | go_size | (with_reducible refine sizeOf' ?_) | (with_reducible refine sizeAdd ?_) | (dsimp only; first | (with_reducible refine sizeOf' ?_) | (with_reducible refine sizeAdd ?_))))
end Go.Proofs.Ytlmgpecfbpcgaaa

/-
  Contracts: leaves; what is a leaf.
-/
import Derived.Test.YtdmppdfncbljoaaW7
namespace Go.Proofs.Ytdmppdfncbljoaa
open Go.RowKit

/-- A leaf as a value. -/
abbrev leafV (a b c d : Int) : Value := .agg #[.int .i64 a, .int .i64 b, .int .i64 c, .int .i64 d]

set_option maxHeartbeats 1000000 in
theorem toLf (a b c d : Int) (w : World) :
    Calls Try.prog 9 #[leafV a b c d] w fun e w' => e = .returned (leafV a b c d) ∧ Below w.heap.size w w' := by
  go_enter Try.func9, Try.ntmps9
  go_wp2_with fail
  refine (toAngX _ _ _).mono ?_
  rintro e w1 ⟨rfl, rfl⟩
  go_wp2_with fail
  refine (toAngX _ _ _).mono ?_
  rintro e w2 ⟨rfl, rfl⟩
  go_wp2
  go_returns
  refine ⟨rfl, ?_⟩
  (repeat' (first | (with_reducible exact Below.refl _ _) | (with_reducible assumption) | (with_reducible refine belowNext ?_ (by with_reducible assumption)) | (with_reducible refine belowAlloc ?_ _) | (with_reducible refine Below.drew ?_) | (with_reducible refine below_drewN ?_ _) | (with_reducible refine Below.setCell ?_ ?_ _) | go_size | (with_reducible refine sizeOf' ?_) | (with_reducible refine sizeAdd ?_) | (dsimp only; first | (with_reducible refine sizeOf' ?_) | (with_reducible refine sizeAdd ?_))))

set_option maxHeartbeats 1000000 in
theorem eqLfSame (a b c d : Int) (w : World) :
    Calls Try.prog 38 #[leafV a b c d, leafV a b c d] w fun e w' => e = .returned (.bool true) ∧ Below w.heap.size w w' := by
  go_enter Try.func38, Try.ntmps38
  go_wp2_with fail
  refine (eqAngSame _ _ _).mono ?_
  rintro e w1 ⟨rfl, hb1⟩
  obtain ⟨hc1, hf1⟩ := bcell hb1
  have hz1 : w.heap.size < w1.heap.size := by have := hb1.size; simp at this; omega
  have hz1' : w.heap.size + 1 < w1.heap.size := by have := hb1.size; simp at this; omega
  go_wp2_with fail
  refine (eqAngSame _ _ _).mono ?_
  rintro e w2 ⟨rfl, hb2⟩
  go_wp2
  go_ret
  refine ⟨rfl, ?_⟩
  (repeat' (first | (with_reducible exact Below.refl _ _) | (with_reducible assumption) | (with_reducible refine belowNext ?_ (by with_reducible assumption)) | (with_reducible refine belowAlloc ?_ _) | (with_reducible refine Below.drew ?_) | (with_reducible refine below_drewN ?_ _) | (with_reducible refine Below.setCell ?_ ?_ _) | go_size | (with_reducible refine sizeOf' ?_) | (with_reducible refine sizeAdd ?_) | (dsimp only; first | (with_reducible refine sizeOf' ?_) | (with_reducible refine sizeAdd ?_))))

/-- Whether both ends are angles in order. -/
def isLf (a b c d : Int) : Bool := isAng a b && isAng c d && ltA a b c d

set_option maxHeartbeats 1000000 in
theorem specLf1 (a b c d : Int) (w : World) :
    Calls Try.prog 34 #[leafV a b c d] w fun e w' => e = .returned (.bool (isLf a b c d)) ∧ Below w.heap.size w w' := by
  have H1 := Lib.hid (fun w => specIs1 a b w)
  have H2 := Lib.hid (fun w => specIs1 c d w)
  cases h1 : isAng a b
  · have E : Hid (isLf a b c d = false) := Lib.hid (by simp [isLf, h1])
    rw [h1] at H1
    clear h1
    generalize isLf a b c d = X at *
    go_enter Try.func34, Try.ntmps34
    go_wp2_with fail
    refine (H1.out _).mono ?_
    rintro e w1 ⟨rfl, hb1⟩
    go_wp2
    go_ret
    refine ⟨retB E.out.symm, ?_⟩
    (repeat' (first | (with_reducible exact Below.refl _ _) | (with_reducible assumption) | (with_reducible refine belowNext ?_ (by with_reducible assumption)) | (with_reducible refine belowAlloc ?_ _) | (with_reducible refine Below.drew ?_) | (with_reducible refine below_drewN ?_ _) | (with_reducible refine Below.setCell ?_ ?_ _) | go_size | (with_reducible refine sizeOf' ?_) | (with_reducible refine sizeAdd ?_) | (dsimp only; first | (with_reducible refine sizeOf' ?_) | (with_reducible refine sizeAdd ?_))))
  · cases h2 : isAng c d
    · have E : Hid (isLf a b c d = false) := Lib.hid (by simp [isLf, h2])
      rw [h1] at H1
      rw [h2] at H2
      clear h1 h2
      generalize isLf a b c d = X at *
      go_enter Try.func34, Try.ntmps34
      go_wp2_with fail
      refine (H1.out _).mono ?_
      rintro e w1 ⟨rfl, hb1⟩
      obtain ⟨hc1, hf1⟩ := bcell hb1
      have hz1 : w.heap.size < w1.heap.size := by have := hb1.size; simp at this; omega
      go_wp2_with fail
      refine (H2.out _).mono ?_
      rintro e w2 ⟨rfl, hb2⟩
      go_wp2
      go_ret
      refine ⟨retB E.out.symm, ?_⟩
      (repeat' (first | (with_reducible exact Below.refl _ _) | (with_reducible assumption) | (with_reducible refine belowNext ?_ (by with_reducible assumption)) | (with_reducible refine belowAlloc ?_ _) | (with_reducible refine Below.drew ?_) | (with_reducible refine below_drewN ?_ _) | (with_reducible refine Below.setCell ?_ ?_ _) | go_size | (with_reducible refine sizeOf' ?_) | (with_reducible refine sizeAdd ?_) | (dsimp only; first | (with_reducible refine sizeOf' ?_) | (with_reducible refine sizeAdd ?_))))
    · have E : Hid (isLf a b c d = ltA a b c d) := Lib.hid (by simp [isLf, h1, h2])
      have H3 := Lib.hid (fun w => specLess a b c d w (isAng_ok h1) (isAng_ok h2))
      rw [h1] at H1
      rw [h2] at H2
      clear h1 h2
      generalize isLf a b c d = X at *
      generalize ltA a b c d = L at *
      go_enter Try.func34, Try.ntmps34
      go_wp2_with fail
      refine (H1.out _).mono ?_
      rintro e w1 ⟨rfl, hb1⟩
      obtain ⟨hc1, hf1⟩ := bcell hb1
      have hz1 : w.heap.size < w1.heap.size := by have := hb1.size; simp at this; omega
      go_wp2_with fail
      refine (H2.out _).mono ?_
      rintro e w2 ⟨rfl, hb2⟩
      obtain ⟨hc2, hf2⟩ := bcell hb2
      have hz2 : w.heap.size < w2.heap.size := by have := hb2.size; omega
      go_wp2_with fail
      refine (H3.out _).mono ?_
      rintro e w3 ⟨rfl, hb3⟩
      go_wp2
      go_ret
      refine ⟨retB E.out.symm, ?_⟩
      (repeat' (first | (with_reducible exact Below.refl _ _) | (with_reducible assumption) | (with_reducible refine belowNext ?_ (by with_reducible assumption)) | (with_reducible refine belowAlloc ?_ _) | (with_reducible refine Below.drew ?_) | (with_reducible refine below_drewN ?_ _) | (with_reducible refine Below.setCell ?_ ?_ _) | go_size | (with_reducible refine sizeOf' ?_) | (with_reducible refine sizeAdd ?_) | (dsimp only; first | (with_reducible refine sizeOf' ?_) | (with_reducible refine sizeAdd ?_))))

theorem ltA_cmp (n d m c : Int) : ltA n d m c = decide (cmpI (n * c) (m * d) < 0) := by
  unfold ltA; by_cases h : n * c < m * d
  · have := cmpI_neg h; simp [h, this]
  · have := cmpI_nonneg h; simp [h]; omega

set_option maxHeartbeats 1000000 in
theorem implLf (a b c d : Int) (w : World) :
    Calls Try.prog 70 #[leafV a b c d] w fun e w' => e = .returned (.bool (isLf a b c d)) ∧ Below w.heap.size w w' := by
  have HA : Hid (∀ (w : World) B cap, AngRow w w.heap.size (some ⟨B, 0, none⟩) [(a, b), (c, d)] → Calls Try.prog 55 #[.slice (some ⟨B, 0, none⟩) 2 cap] w fun e w' => e = .returned (.bool (isAng a b && isAng c d)) ∧ Below w.heap.size w w') := Lib.hid (fun w B cap h => by
    have := areAng (some ⟨B, 0, none⟩) 2 cap [(a, b), (c, d)] w h rfl (by omega)
    rw [all2] at this
    exact this)
  cases h : isAng a b && isAng c d
  · have E : Hid (isLf a b c d = false) := Lib.hid (by unfold isLf; rw [h]; rfl)
    rw [h] at HA
    clear h
    generalize isLf a b c d = X at *
    go_enter Try.func70, Try.ntmps70
    go_wp2_with fail
    refine (HA.out _ _ _ (by exact row2 _ _ _ _ _ _ _ (by simp))).mono ?_
    rintro e w1 ⟨rfl, hb1⟩
    go_wp2
    go_ret
    refine ⟨retB E.out.symm, ?_⟩
    (repeat' (first | (with_reducible exact Below.refl _ _) | (with_reducible assumption) | (with_reducible refine belowNext ?_ (by with_reducible assumption)) | (with_reducible refine belowAlloc ?_ _) | (with_reducible refine Below.drew ?_) | (with_reducible refine below_drewN ?_ _) | (with_reducible refine Below.setCell ?_ ?_ _) | go_size | (with_reducible refine sizeOf' ?_) | (with_reducible refine sizeAdd ?_) | (dsimp only; first | (with_reducible refine sizeOf' ?_) | (with_reducible refine sizeAdd ?_))))
  · have h1 : isAng a b = true := by simp at h; exact h.1
    have h2 : isAng c d = true := by simp at h; exact h.2
    have E : Hid (isLf a b c d = decide (cmpI (a * d) (c * b) < 0)) := Lib.hid (by unfold isLf; rw [h, ltA_cmp]; rfl)
    have H3 := Lib.hid (fun w => cmpAng a b c d w (isAng_ok h1) (isAng_ok h2))
    rw [h] at HA
    clear h h1 h2
    generalize isLf a b c d = X at *
    generalize cmpI (a * d) (c * b) = L at *
    go_enter Try.func70, Try.ntmps70
    go_wp2_with fail
    refine (HA.out _ _ _ (by exact row2 _ _ _ _ _ _ _ (by simp))).mono ?_
    rintro e w1 ⟨rfl, hb1⟩
    obtain ⟨hc1, hf1⟩ := bcell hb1
    have hz1 : w.heap.size < w1.heap.size := by have := hb1.size; simp at this; omega
    go_wp2_with fail
    refine (H3.out _).mono ?_
    rintro e w2 ⟨rfl, hb2⟩
    go_wp2
    go_ret
    refine ⟨retB (by rw [E.out]), ?_⟩
    (repeat' (first | (with_reducible exact Below.refl _ _) | (with_reducible assumption) | (with_reducible refine belowNext ?_ (by with_reducible assumption)) | (with_reducible refine belowAlloc ?_ _) | (with_reducible refine Below.drew ?_) | (with_reducible refine below_drewN ?_ _) | (with_reducible refine Below.setCell ?_ ?_ _) | go_size | (with_reducible refine sizeOf' ?_) | (with_reducible refine sizeAdd ?_) | (dsimp only; first | (with_reducible refine sizeOf' ?_) | (with_reducible refine sizeAdd ?_))))
end Go.Proofs.Ytdmppdfncbljoaa

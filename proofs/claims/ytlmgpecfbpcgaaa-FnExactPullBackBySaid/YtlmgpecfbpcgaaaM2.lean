/-
  Contracts: the ways to join the halves of the ends of a leaf; majors, on the program's side.
-/
import Derived.Test.YtlmgpecfbpcgaaaV8
import Derived.Test.YtlmgpecfbpcgaaaV11
import Derived.Test.YtlmgpecfbpcgaaaV13
namespace Go.Proofs.Ytlmgpecfbpcgaaa
open Go.RowKit

/-- Both ways to join the halves. -/
def wayA (a b c d : Int) : List Lf4 := [(redN a (2 * b), redD a (2 * b), redN c (2 * d), redD c (2 * d)), (redN (a + b) (2 * b), redD (a + b) (2 * b), redN (c + d) (2 * d), redD (c + d) (2 * d))]
def wayX (a b c d : Int) : List Lf4 := [(redN a (2 * b), redD a (2 * b), redN (c + d) (2 * d), redD (c + d) (2 * d)), (redN c (2 * d), redD c (2 * d), redN (a + b) (2 * b), redD (a + b) (2 * b))]
/-- What the majors are. -/
def mjL (a b c d : Int) : List Lf4 := if isLf a b c d then (if shortB a b c d then (if pbHal a b c d then wayX a b c d else []) else []) else []
def mjC (a b c d : Int) : Int := if isLf a b c d then (if shortB a b c d then (if pbHal a b c d then 0 else 3) else 5) else 1
theorem mj_no {a b c d : Int} (h : isLf a b c d = false) : mjL a b c d = [] ∧ mjC a b c d = 1 := by unfold mjL mjC; simp [h]
theorem mj_long {a b c d : Int} (h : isLf a b c d = true) (h2 : shortB a b c d = false) : mjL a b c d = [] ∧ mjC a b c d = 5 := by unfold mjL mjC; simp [h, h2]
theorem mj_far {a b c d : Int} (h : isLf a b c d = true) (h2 : shortB a b c d = true) (h3 : pbHal a b c d = false) : mjL a b c d = [] ∧ mjC a b c d = 3 := by unfold mjL mjC; simp [h, h2, h3]
theorem mj_yes {a b c d : Int} (h : isLf a b c d = true) (h2 : shortB a b c d = true) (h3 : pbHal a b c d = true) : mjL a b c d = wayX a b c d ∧ mjC a b c d = 0 := by unfold mjL mjC; simp [h, h2, h3]
theorem mj_len (a b c d : Int) : (mjL a b c d).length ≤ 1000000000000 := by
  unfold mjL wayX
  split
  · split
    · split <;> simp
    · simp
  · simp

set_option maxHeartbeats 1000000 in
theorem implWJno (a b c d : Int) (w : World) (r1 : Red (a, b)) (r2 : Red (c, d)) (h3 : pbHal a b c d = false) :
    Calls Try.prog 60 #[leafV a b c d] w fun e w' => e = .returned (.tuple #[.slice none 0 0, .slice none 0 0, .int .i64 3]) ∧ Below w.heap.size w w' := by
  have HH := Lib.hid (fun w => implHEno a b c d w r1 r2 h3)
  clear r1 r2 h3
  go_enter Try.func60, Try.ntmps60
  go_wp2_with fail
  refine (HH.out _).mono ?_
  rintro e w1 ⟨rfl, hb1⟩
  obtain ⟨hc1, hf1⟩ := bcell hb1
  have hz1_0 : w.heap.size < w1.heap.size := by have := hb1.size; first | omega | (simp at this; omega)
  go_wp2
  refine bodyPost_ret (v := .tuple #[.slice none 0 0, .slice none 0 0, .int .i64 3]) (by simp [results, Try.results60, go_sem]) rfl ⟨rfl, ?_⟩
  (repeat' (first | (with_reducible exact Below.refl _ _) | (with_reducible assumption) | (with_reducible refine belowNext ?_ (by with_reducible assumption)) | (with_reducible refine belowAlloc ?_ _) | (with_reducible refine Below.drew ?_) | (with_reducible refine below_drewN ?_ _) | (with_reducible refine Below.setCell ?_ ?_ _) | go_size | (with_reducible refine sizeOf' ?_) | (with_reducible refine sizeAdd ?_) | (dsimp only; first | (with_reducible refine sizeOf' ?_) | (with_reducible refine sizeAdd ?_))))

theorem LfOwn.loM {w : World} {lo lo' : Nat} {A : Option Addr} {l : List Lf4} (h : LfOwn w lo A l) (hl : lo' ≤ lo) : LfOwn w lo' A l := by
  intro hn
  obtain ⟨b, off, e, h1, h2, hc⟩ := h hn
  exact ⟨b, off, e, Nat.le_trans hl h1, h2, hc⟩
/-- Both ways, in rows of their own. -/
def ResWJ (w : World) (l m : List Lf4) (e : Ending) (w' : World) : Prop :=
  ∃ A B, e = .returned (.tuple #[.slice A 2 2, .slice B 2 2, .int .i64 0]) ∧ LfOwn w' w.heap.size A l ∧ LfOwn w' w.heap.size B m ∧ Below w.heap.size w w'

set_option maxHeartbeats 2000000 in
theorem implWJ (a b c d : Int) (w : World) (r1 : Red (a, b)) (r2 : Red (c, d)) (h3 : pbHal a b c d = true) :
    Calls Try.prog 60 #[leafV a b c d] w (ResWJ w (wayA a b c d) (wayX a b c d)) := by
  have HH := Lib.hid (fun w => implHE a b c d w r1 r2 h3)
  unfold wayA wayX
  clear r1 r2 h3
  generalize redN a (2 * b) = x0 at *
  generalize redD a (2 * b) = y0 at *
  generalize redN (a + b) (2 * b) = x1 at *
  generalize redD (a + b) (2 * b) = y1 at *
  generalize redN c (2 * d) = u0 at *
  generalize redD c (2 * d) = v0 at *
  generalize redN (c + d) (2 * d) = u1 at *
  generalize redD (c + d) (2 * d) = v1 at *
  go_enter Try.func60, Try.ntmps60
  go_wp2_with fail
  refine (HH.out _).mono ?_
  rintro e w1 ⟨b1, o1, cap1, b2, o2, cap2, G1, rfl, hO1, hO2, hbG, hG1, hb1⟩
  obtain ⟨hc1, hf1⟩ := bcell hb1
  have hz1_0 : w.heap.size < w1.heap.size := by have := hb1.size; first | omega | (simp at this; omega)
  obtain ⟨⟨s0, s1, s2, s3⟩, l1, m1⟩ := row2_at hO1
  obtain ⟨⟨n0, n1, n2, n3⟩, l2, m2⟩ := row2_at hO2
  have B1 : Below w.heap.size w w1 := by
    (repeat' (first | (with_reducible exact Below.refl _ _) | (with_reducible assumption) | (with_reducible refine belowNext ?_ (by with_reducible assumption)) | (with_reducible refine belowAlloc ?_ _) | (with_reducible refine Below.drew ?_) | (with_reducible refine below_drewN ?_ _) | (with_reducible refine Below.setCell ?_ ?_ _) | go_size | (with_reducible refine sizeOf' ?_) | (with_reducible refine sizeAdd ?_) | (dsimp only; first | (with_reducible refine sizeOf' ?_) | (with_reducible refine sizeAdd ?_))))
  clear hO1 hO2 hbG hG1 hb1 l1 l2
  go_wp2_with fail
  go_region
  all_goals
    go_wp2_with fail
    go_region
    all_goals
      go_wp2
      refine bodyPost_ret (v := .tuple #[.slice (some ⟨w1.heap.size, 0, none⟩) 2 2, .slice (some ⟨w1.heap.size + 1, 0, none⟩) 2 2, .int .i64 0]) (by simp [results, Try.results60, go_sem]) rfl ?_
      show ResWJ _ _ _ _ _
      refine ⟨_, _, rfl, ?_, ?_, ?_⟩
      · exact (lfOwn2 w1 B1 _ _ _ _ _ _ _ _ _ _ rfl).next (Below.drew (Below.drew (belowAlloc (Below.refl _ _) _)))
      · exact (lfOwn2 _ (belowAlloc B1 _) _ _ _ _ _ _ _ _ _ _ (by simp)).next (Below.drew (Below.drew (Below.refl _ _)))
      · (repeat' (first | (with_reducible exact Below.refl _ _) | (with_reducible assumption) | (with_reducible refine belowNext ?_ (by with_reducible assumption)) | (with_reducible refine belowAlloc ?_ _) | (with_reducible refine Below.drew ?_) | (with_reducible refine below_drewN ?_ _) | (with_reducible refine Below.setCell ?_ ?_ _) | go_size | (with_reducible refine sizeOf' ?_) | (with_reducible refine sizeAdd ?_) | (dsimp only; first | (with_reducible refine sizeOf' ?_) | (with_reducible refine sizeAdd ?_))))

set_option maxHeartbeats 1000000 in
theorem implMaj (a b c d : Int) (w : World) : Calls Try.prog 26 #[leafV a b c d] w (ResLf w (mjL a b c d) (mjC a b c d)) := by
  have H1 := Lib.hid (fun w => implLf a b c d w)
  cases h : isLf a b c d
  · obtain ⟨E1, E2⟩ := mj_no h
    rw [E1, E2]
    rw [h] at H1
    clear h E1 E2
    go_enter Try.func26, Try.ntmps26
    go_wp2_with fail
    refine (H1.out _).mono ?_
    rintro e w1 ⟨rfl, hb1⟩
    obtain ⟨hc1, hf1⟩ := bcell hb1
    have hz1_0 : w.heap.size < w1.heap.size := by have := hb1.size; first | omega | (simp at this; omega)
    go_wp2
    go_ret2
    refine ⟨none, 0, rfl, lfOwn_nil, ?_⟩
    (repeat' (first | (with_reducible exact Below.refl _ _) | (with_reducible assumption) | (with_reducible refine belowNext ?_ (by with_reducible assumption)) | (with_reducible refine belowAlloc ?_ _) | (with_reducible refine Below.drew ?_) | (with_reducible refine below_drewN ?_ _) | (with_reducible refine Below.setCell ?_ ?_ _) | go_size | (with_reducible refine sizeOf' ?_) | (with_reducible refine sizeAdd ?_) | (dsimp only; first | (with_reducible refine sizeOf' ?_) | (with_reducible refine sizeAdd ?_))))
  · obtain ⟨r1, r2, -⟩ := isLf_yes h
    have H2 := Lib.hid (fun w => implShort a b c d w (okOf r1) (okOf r2))
    rw [h] at H1
    cases h2 : shortB a b c d
    · obtain ⟨E1, E2⟩ := mj_long h h2
      rw [E1, E2]
      rw [h2] at H2
      clear h E1 E2 h2 r1 r2
      go_enter Try.func26, Try.ntmps26
      go_wp2_with fail
      refine (H1.out _).mono ?_
      rintro e w1 ⟨rfl, hb1⟩
      obtain ⟨hc1, hf1⟩ := bcell hb1
      have hz1_0 : w.heap.size < w1.heap.size := by have := hb1.size; first | omega | (simp at this; omega)
      go_wp2_with fail
      refine (H2.out _).mono ?_
      rintro e w2 ⟨rfl, hb2⟩
      obtain ⟨hc2, hf2⟩ := bcell hb2
      have hz2_0 : w.heap.size < w2.heap.size := by have := hb2.size; first | omega | (simp at this; omega)
      go_wp2
      go_ret2
      refine ⟨none, 0, rfl, lfOwn_nil, ?_⟩
      (repeat' (first | (with_reducible exact Below.refl _ _) | (with_reducible assumption) | (with_reducible refine belowNext ?_ (by with_reducible assumption)) | (with_reducible refine belowAlloc ?_ _) | (with_reducible refine Below.drew ?_) | (with_reducible refine below_drewN ?_ _) | (with_reducible refine Below.setCell ?_ ?_ _) | go_size | (with_reducible refine sizeOf' ?_) | (with_reducible refine sizeAdd ?_) | (dsimp only; first | (with_reducible refine sizeOf' ?_) | (with_reducible refine sizeAdd ?_))))
    · rw [h2] at H2
      cases h3 : pbHal a b c d
      · obtain ⟨E1, E2⟩ := mj_far h h2 h3
        rw [E1, E2]
        have H3 := Lib.hid (fun w => implWJno a b c d w r1 r2 h3)
        clear h E1 E2 h2 r1 r2 h3
        go_enter Try.func26, Try.ntmps26
        go_wp2_with fail
        refine (H1.out _).mono ?_
        rintro e w1 ⟨rfl, hb1⟩
        obtain ⟨hc1, hf1⟩ := bcell hb1
        have hz1_0 : w.heap.size < w1.heap.size := by have := hb1.size; first | omega | (simp at this; omega)
        go_wp2_with fail
        refine (H2.out _).mono ?_
        rintro e w2 ⟨rfl, hb2⟩
        obtain ⟨hc2, hf2⟩ := bcell hb2
        have hz2_0 : w.heap.size < w2.heap.size := by have := hb2.size; first | omega | (simp at this; omega)
        go_wp2_with fail
        refine (H3.out _).mono ?_
        rintro e w3 ⟨rfl, hb3⟩
        obtain ⟨hc3, hf3⟩ := bcell hb3
        have hz3_0 : w.heap.size < w3.heap.size := by have := hb3.size; first | omega | (simp at this; omega)
        go_wp2
        go_ret2
        refine ⟨none, 0, rfl, lfOwn_nil, ?_⟩
        (repeat' (first | (with_reducible exact Below.refl _ _) | (with_reducible assumption) | (with_reducible refine belowNext ?_ (by with_reducible assumption)) | (with_reducible refine belowAlloc ?_ _) | (with_reducible refine Below.drew ?_) | (with_reducible refine below_drewN ?_ _) | (with_reducible refine Below.setCell ?_ ?_ _) | go_size | (with_reducible refine sizeOf' ?_) | (with_reducible refine sizeAdd ?_) | (dsimp only; first | (with_reducible refine sizeOf' ?_) | (with_reducible refine sizeAdd ?_))))
      · obtain ⟨E1, E2⟩ := mj_yes h h2 h3
        rw [E1, E2]
        have H3 := Lib.hid (fun w => implWJ a b c d w r1 r2 h3)
        have HL : Hid ((wayX a b c d).length = 2) := Lib.hid rfl
        clear h E1 E2 h2 r1 r2 h3
        generalize wayX a b c d = L at *
        generalize wayA a b c d = M at *
        go_enter Try.func26, Try.ntmps26
        go_wp2_with fail
        refine (H1.out _).mono ?_
        rintro e w1 ⟨rfl, hb1⟩
        obtain ⟨hc1, hf1⟩ := bcell hb1
        have hz1_0 : w.heap.size < w1.heap.size := by have := hb1.size; first | omega | (simp at this; omega)
        go_wp2_with fail
        refine (H2.out _).mono ?_
        rintro e w2 ⟨rfl, hb2⟩
        obtain ⟨hc2, hf2⟩ := bcell hb2
        have hz2_0 : w.heap.size < w2.heap.size := by have := hb2.size; first | omega | (simp at this; omega)
        go_wp2_with fail
        refine (H3.out _).mono ?_
        rintro e w3 ⟨A, B, rfl, hO1, hO2, hb3⟩
        obtain ⟨hc3, hf3⟩ := bcell hb3
        have hz3_0 : w.heap.size < w3.heap.size := by have := hb3.size; first | omega | (simp at this; omega)
        have HO := Lib.hid hO2
        clear hO1 hO2
        go_wp2
        go_ret2
        refine ⟨B, 2, by rw [HL.out]; rfl, HO.out.loM (by have := hz2_0; omega), ?_⟩
        (repeat' (first | (with_reducible exact Below.refl _ _) | (with_reducible assumption) | (with_reducible refine belowNext ?_ (by with_reducible assumption)) | (with_reducible refine belowAlloc ?_ _) | (with_reducible refine Below.drew ?_) | (with_reducible refine below_drewN ?_ _) | (with_reducible refine Below.setCell ?_ ?_ _) | go_size | (with_reducible refine sizeOf' ?_) | (with_reducible refine sizeAdd ?_) | (dsimp only; first | (with_reducible refine sizeOf' ?_) | (with_reducible refine sizeAdd ?_))))
end Go.Proofs.Ytlmgpecfbpcgaaa

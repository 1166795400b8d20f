/-
  ParseSequence, as the model makes it; the walk of the law; written by genG3.py.
-/
import Derived.Test.YtcgdlimhhcmjhaaDoorG2
namespace Go.Proofs.YtcgdlimhhcmjhaaDoor
open Go.RowKit

theorem psG_one {l a p a' p' : Wd} (h : PsG l a p) (h' : PsG l a' p') : a = a' ∧ p = p' := by
  have e := psG_cut h
  rw [psG_cut h'] at e
  injection e with h1 h2
  injection h2 with h3
  exact ⟨h1.symm, (List.append_cancel_right h3).symm⟩

set_option maxRecDepth 8000 in
set_option maxHeartbeats 4000000 in
theorem specPS (l : Wd) (w : World) (hl : l.length ≤ 1048576) (X Y : Wd) (C : Int) (hd : PsIs l X Y C) :
    Calls Tryd.prog 4 #[.string (bs l)] w fun e w' => e = .returned (.tuple #[sqV X Y, .int .i64 C]) ∧ Below w.heap.size w w' := by
  have HR := Lib.hid (fun w => specRead l w hl)
  have HD := Lib.hid hd
  have R0 := rcs0 w 23
  clear hd hl
  go_enter Tryd.func4, Tryd.ntmps4
  go_wp2_with fail
  refine (HR.out _).mono ?_
  rintro e w2 ⟨⟨X', Y', ok, rfl, Hq⟩, hb2⟩
  have R2 := R0.on hb2
  have R3 := R2.on (belowAlloc (Below.refl _ _) (.cells #[.string (bs X'), .string (bs Y')] 23))
  cases ok
  · have hbad : X = [] ∧ Y = [] ∧ C = 6 := by
      rcases HD.out with ⟨h, -⟩ | ⟨-, h⟩
      · exact absurd h (Hq.out.2 rfl X Y)
      · exact h
    obtain ⟨rfl, rfl, rfl⟩ := hbad
    clear HR HD Hq R0 R2 hb2
    obtain ⟨r1, r2, r5, r6, r7, r8⟩ := id R3
    go_wp2
    generalize w2.alloc (.cells #[.string (bs X'), .string (bs Y')] 23) = w3 at *
    refine bodyPost_ret (v := .tuple #[sqV [] [], .int .i64 6]) (by simp [results, Tryd.results4, go_sem, sqV, bs, r5, r6]) rfl ⟨rfl, ?_⟩
    (repeat' (first | (with_reducible exact Below.refl _ _) | (with_reducible assumption) | (with_reducible refine belowNext ?_ (by with_reducible assumption)) | (with_reducible refine belowAlloc ?_ _) | (with_reducible refine Below.drew ?_) | (with_reducible refine below_drewN ?_ _) | (with_reducible refine Below.setCell ?_ ?_ _) | go_size | (with_reducible refine sizeOf' ?_) | (with_reducible refine sizeAdd ?_) | (dsimp only; first | (with_reducible refine sizeOf' ?_) | (with_reducible refine sizeAdd ?_))))
  · have hgood : X = X' ∧ Y = Y' ∧ C = 0 := by
      rcases HD.out with ⟨h, h0⟩ | ⟨h, -⟩
      · obtain ⟨h1, h2⟩ := psG_one h (Hq.out.1 rfl)
        exact ⟨h1, h2, h0⟩
      · exact absurd (Hq.out.1 rfl) (h X' Y')
    obtain ⟨rfl, rfl, rfl⟩ := hgood
    clear HR HD Hq R0 R2 hb2
    obtain ⟨r1, r2, r5, r6, r7, r8⟩ := id R3
    go_wp2
    generalize w2.alloc (.cells #[.string (bs X), .string (bs Y)] 23) = w3 at *
    refine bodyPost_ret (v := .tuple #[sqV X Y, .int .i64 0]) (by simp [results, Tryd.results4, go_sem, sqV, r5, r6]) rfl ⟨rfl, ?_⟩
    (repeat' (first | (with_reducible exact Below.refl _ _) | (with_reducible assumption) | (with_reducible refine belowNext ?_ (by with_reducible assumption)) | (with_reducible refine belowAlloc ?_ _) | (with_reducible refine Below.drew ?_) | (with_reducible refine below_drewN ?_ _) | (with_reducible refine Below.setCell ?_ ?_ _) | go_size | (with_reducible refine sizeOf' ?_) | (with_reducible refine sizeAdd ?_) | (dsimp only; first | (with_reducible refine sizeOf' ?_) | (with_reducible refine sizeAdd ?_))))

theorem eqSqP (x y : Wd) (w : World) :
    Calls Tryd.prog 6 #[sqV x y, sqV x y] w fun e w' => e = .returned (.bool true) ∧ Below w.heap.size w w' := by
  go_enter Tryd.func6, Tryd.ntmps6
  go_wp2
  go_ret
  refine ⟨rfl, ?_⟩
  (repeat' (first | (with_reducible exact Below.refl _ _) | (with_reducible assumption) | (with_reducible refine belowNext ?_ (by with_reducible assumption)) | (with_reducible refine belowAlloc ?_ _) | (with_reducible refine Below.drew ?_) | (with_reducible refine below_drewN ?_ _) | (with_reducible refine Below.setCell ?_ ?_ _) | go_size | (with_reducible refine sizeOf' ?_) | (with_reducible refine sizeAdd ?_) | (dsimp only; first | (with_reducible refine sizeOf' ?_) | (with_reducible refine sizeAdd ?_))))

set_option maxHeartbeats 2000000 in
theorem lawParseSequence (l : Wd) (_ : l.length ≤ maxLen) (w : World) (hg : LibP w) :
    Calls Tryd.prog 3 #[.string (bs l)] w fun e w' => e = .returned (.bool true) ∧ Below w.heap.size w w' := by
  have hln := fun W => lenS 9 3 l Tryd.underlying9 W
  by_cases h1 : l.length ≤ 1048576
  · have d1 : decide ((1048576 : Int) < (l.length : Int)) = false := decide_eq_false (by omega)
    have d1n : decide (1048576 < l.length) = false := decide_eq_false (by omega)
    have d1p : (1048576 < l.length) = False := eq_false (by omega)
    obtain ⟨X, Y, C, hd⟩ := ps_ex l
    have HA := Lib.hid (fun w => specPS l w h1 X Y C hd)
    have HB := Lib.hid (fun w hg => implPS l w h1 hg X Y C hd)
    have HG := Lib.hid hg
    clear h1 hd hg
    generalize (l.length : Int) = a at *
    go_enter Tryd.func3, Tryd.ntmps3
    go_wp2_with fail
    refine (HA.out _).mono ?_
    rintro e w2 ⟨rfl, hb2⟩
    go_wp2_with fail
    refine (HB.out _ ((HG.out.on hb2).on (belowAlloc (Below.refl _ _) _))).mono ?_
    rintro e w3 ⟨rfl, hb3⟩
    obtain ⟨hc3, hf3⟩ := bcell hb3
    have hz3 : w2.heap.size < w3.heap.size := by have := hb3.size; simp at this; omega
    go_wp2_with fail
    refine (eqSqP _ _ _).mono ?_
    rintro e w4 ⟨rfl, hb4⟩
    go_wp2
    go_ret
    refine ⟨rfl, ?_⟩
    (repeat' (first | (with_reducible exact Below.refl _ _) | (with_reducible assumption) | (with_reducible refine belowNext ?_ (by with_reducible assumption)) | (with_reducible refine belowAlloc ?_ _) | (with_reducible refine Below.drew ?_) | (with_reducible refine below_drewN ?_ _) | (with_reducible refine Below.setCell ?_ ?_ _) | go_size | (with_reducible refine sizeOf' ?_) | (with_reducible refine sizeAdd ?_) | (dsimp only; first | (with_reducible refine sizeOf' ?_) | (with_reducible refine sizeAdd ?_))))
  · have d1 : decide ((1048576 : Int) < (l.length : Int)) = true := decide_eq_true (by omega)
    have d1n : decide (1048576 < l.length) = true := decide_eq_true (by omega)
    have d1p : (1048576 < l.length) = True := eq_true (by omega)
    clear h1 hg
    generalize (l.length : Int) = a at *
    go_enter Tryd.func3, Tryd.ntmps3
    go_wp2
    go_ret
    exact ⟨rfl, Below.refl _ _⟩
end Go.Proofs.YtcgdlimhhcmjhaaDoor

/-
  The walk of the law of ReplaceStar; written by genE20.py.
-/
import Derived.Test.YtomcmjnhfloeeaaDoorE19
namespace Go.Proofs.YtomcmjnhfloeeaaDoor
open Go.RowKit

set_option maxHeartbeats 2000000 in
theorem lawReplaceStar (x y : Wd) (hx : x.length ≤ maxLen) (hy : y.length ≤ maxLen) (l : Wd) (_ : l.length ≤ maxLen) (w : World) (hg : LibC w) :
    Calls Tryd.prog 3 #[sqV x y, .string (bs l)] w fun e w' => e = .returned (.bool true) ∧ Below w.heap.size w w' := by
  have HZ := Lib.hid (fun w => szSeq x y w (by unfold maxLen at hx; omega) (by unfold maxLen at hy; omega))
  have HT := Lib.hid (fun w => toSeq x y w)
  have HG := Lib.hid hg
  have hln := fun W => lenS 9 3 l Tryd.underlying9 W
  by_cases hlong : 1048576 < l.length
  · have d1 : decide ((l.length : Int) > 1048576) = true := decide_eq_true (by omega)
    have d1' : decide ((1048576 : Int) < (l.length : Int)) = true := d1
    have d1n : decide (1048576 < l.length) = true := decide_eq_true hlong
    have d1p : (1048576 < l.length) = True := eq_true hlong
    clear hg hlong hx hy HZ HT
    generalize bs l = L at *
    go_enter Tryd.func3, Tryd.ntmps3
    go_wp2
    go_ret
    refine ⟨rfl, ?_⟩
    (repeat' (first | (with_reducible exact Below.refl _ _) | (with_reducible assumption) | (with_reducible refine belowNext ?_ (by with_reducible assumption)) | (with_reducible refine belowAlloc ?_ _) | (with_reducible refine Below.drew ?_) | (with_reducible refine below_drewN ?_ _) | (with_reducible refine Below.setCell ?_ ?_ _) | go_size | (with_reducible refine sizeOf' ?_) | (with_reducible refine sizeAdd ?_) | (dsimp only; first | (with_reducible refine sizeOf' ?_) | (with_reducible refine sizeAdd ?_))))
  have d1 : decide ((l.length : Int) > 1048576) = false := decide_eq_false (by omega)
  have d1' : decide ((1048576 : Int) < (l.length : Int)) = false := d1
  have d1n : decide (1048576 < l.length) = false := decide_eq_false hlong
  have d1p : (1048576 < l.length) = False := eq_false hlong
  have HRS := Lib.hid (rs_ex x y l)
  have HAs := Lib.hid (fun hxy X Y C hd w => specRS x y l w hxy X Y C hd)
  have HBs := Lib.hid (fun hxy X Y C hd w hg => implRS x y l w hg hxy X Y C hd)
  clear hg hlong
  generalize (l.length : Int) = ll at *
  generalize l.length = lln at *
  generalize bs l = L at *
  rcases szQ_cases x y with h | ⟨h, hxy⟩
  · rw [h] at HZ
    clear h hx hy HRS HAs HBs
    go_enter Tryd.func3, Tryd.ntmps3
    go_wp2_with fail
    refine (HZ.out _).mono ?_
    rintro e w2 ⟨rfl, hb2⟩
    have hS := keepQ hb2 keepQ0
    clear hb2
    obtain ⟨u1, u2, u3, u4⟩ := hS
    go_wp2
    go_ret
    exact ⟨rfl, u2⟩
  · obtain ⟨X, Y, C, hd⟩ := HRS.out
    have HA := Lib.hid (HAs.out hxy X Y C hd)
    have HB := Lib.hid (HBs.out hxy X Y C hd)
    clear hd HRS HAs HBs
    have hlt : decide (szQ x y < 0) = false := by simp; omega
    generalize szQ x y = z at *
    clear h hx hy hxy
    go_enter Tryd.func3, Tryd.ntmps3
    go_wp2_with fail
    refine (HZ.out _).mono ?_
    rintro e w2 ⟨rfl, hb2⟩
    have hS := keepQ hb2 keepQ0
    clear hb2
    obtain ⟨u1, u2, u3, u4⟩ := id hS
    go_wp2_with fail
    refine (HT.out _).mono ?_
    rintro e w3 ⟨rfl, hb3⟩
    have hS3 := keepQ hb3 hS
    clear hb3 u1 u2 u3 u4 hS
    obtain ⟨u1, u2, u3, u4⟩ := id hS3
    go_wp2_with fail
    refine (HA.out _).mono ?_
    rintro e w4 ⟨rfl, hb4⟩
    have hS4 := keepQ hb4 hS3
    clear hb4 u1 u2 u3 u4 hS3
    obtain ⟨u1, u2, u3, u4⟩ := id hS4
    go_wp2_with fail
    refine (HT.out _).mono ?_
    rintro e w5 ⟨rfl, hb5⟩
    obtain ⟨hc5, hf5⟩ := bcell hb5
    have hz5 : w4.heap.size < w5.heap.size := by have := hb5.size; simp at this; omega
    have hy5 : w.heap.size < w5.heap.size := by omega
    go_wp2_with fail
    refine (HB.out _ (HG.out.on (belowNext (belowAlloc u2 _) hb5))).mono ?_
    rintro e w6 ⟨rfl, hb6⟩
    obtain ⟨hc6, hf6⟩ := bcell hb6
    have hz6 : w4.heap.size < w6.heap.size := by have := hb6.size; omega
    go_wp2_with fail
    refine (eqSq _ _ _).mono ?_
    rintro e w7 ⟨rfl, hb7⟩
    go_wp2
    go_ret
    refine ⟨rfl, ?_⟩
    (repeat' (first | (with_reducible exact Below.refl _ _) | (with_reducible assumption) | (with_reducible refine belowNext ?_ (by with_reducible assumption)) | (with_reducible refine belowAlloc ?_ _) | (with_reducible refine Below.drew ?_) | (with_reducible refine below_drewN ?_ _) | (with_reducible refine Below.setCell ?_ ?_ _) | go_size | (with_reducible refine sizeOf' ?_) | (with_reducible refine sizeAdd ?_) | (dsimp only; first | (with_reducible refine sizeOf' ?_) | (with_reducible refine sizeAdd ?_))))
end Go.Proofs.YtomcmjnhfloeeaaDoor

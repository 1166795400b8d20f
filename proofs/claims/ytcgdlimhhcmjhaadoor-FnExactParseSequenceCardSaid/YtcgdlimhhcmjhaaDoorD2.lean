/-
  Contracts: IsSequence, on both sides; what the laws on sequences call.
-/
import Derived.Test.YtcgdlimhhcmjhaaDoorD1
import Derived.Deep.RegionWith
import Derived.Deep.RegionHeld3
namespace Go.Proofs.YtcgdlimhhcmjhaaDoor
open Go.RowKit

theorem emp_facts (y : Wd) : (bs y).toList = y ∧ y.isEmpty = !decide (0 < y.length) ∧ (y == []) = !decide (0 < y.length) ∧ (y = []) = (decide (0 < y.length) = false) := by
  refine ⟨bs_toList y, ?_, ?_, ?_⟩
  · cases y <;> simp
  · cases y <;> simp
  · cases y <;> simp

set_option maxHeartbeats 4000000 in
theorem implIsSeq (x y : Wd) (w : World) (hxy : x.length + y.length ≤ 1048576) :
    Calls Tryd.prog 10 #[sqV x y] w fun e w' => e = .returned (.bool (isSeq x y)) ∧ Below w.heap.size w w' := by
  have hP := isSeq_parts x y
  have hlx := fun W => lenS 9 3 x Tryd.underlying9 W
  have hly := fun W => lenS 9 3 y Tryd.underlying9 W
  obtain ⟨y1, y2, y3, y4⟩ := emp_facts y
  have HX := Lib.hid (fun w => implOnly x w (by omega))
  have HY := Lib.hid (fun w => implOnly y w (by omega))
  have wab : IntKind.i64.wrap ((x.length : Int) + (y.length : Int)) = (x.length : Int) + (y.length : Int) := IntWalk.i64_in _ (by omega)
  cases hy : decide (0 < y.length)
  · have e : isSeq x y = false := by rw [hP, hy]; simp
    rw [e]
    rw [hy] at y2 y3 y4
    clear hP e HX HY hy
    generalize (x.length : Int) = a at *
    generalize (y.length : Int) = b at *
    go_enter Tryd.func10, Tryd.ntmps10
    go_wp2
    go_ret
    refine ⟨rfl, ?_⟩
    (repeat' (first | (with_reducible exact Below.refl _ _) | (with_reducible assumption) | (with_reducible refine belowNext ?_ (by with_reducible assumption)) | (with_reducible refine belowAlloc ?_ _) | (with_reducible refine Below.drew ?_) | (with_reducible refine below_drewN ?_ _) | (with_reducible refine Below.setCell ?_ ?_ _) | go_size | (with_reducible refine sizeOf' ?_) | (with_reducible refine sizeAdd ?_) | (dsimp only; first | (with_reducible refine sizeOf' ?_) | (with_reducible refine sizeAdd ?_))))
  rw [hy] at y2 y3 y4
  have hy0 : 0 < y.length := by simpa using hy
  by_cases h64 : x.length + y.length ≤ 64
  · have hgt : decide ((64 : Int) < (x.length : Int) + (y.length : Int)) = false := by simp; omega
    have HC := Lib.hid (fun w => implCanon x y w hy0 h64)
    have hd : decide (x.length + y.length ≤ 64) = true := by simp [h64]
    rw [hy, hd] at hP
    have HE := eqlSq (canon x y).1 (canon x y).2 x y
    have he : ((((canon x y).1, (canon x y).2)) == (x, y)) = (canon x y == (x, y)) := rfl
    rw [he] at HE
    simp only [Bool.true_and] at hP
    rw [hP]
    generalize (canon x y).1 = C1 at *
    generalize (canon x y).2 = C2 at *
    generalize (canon x y == (x, y)) = q at *
    clear hP hd hy h64 hy0 hxy he
    generalize (x.length : Int) = a at *
    generalize (y.length : Int) = b at *
    cases hx : lets x
    · rw [hx] at HX
      clear hx
      go_enter Tryd.func10, Tryd.ntmps10
      go_wp2_with fail
      first | go_region_with (first
        | (go_at_call 16; (with_reducible refine (HX.out _).mono ?_); rintro e w2 ⟨rfl, hb2⟩; have hS2 := keepQ hb2 (keepQ (Below.refl _ _).drew keepQ0); obtain ⟨u1, u2, u3, u4⟩ := hS2)
        | (go_at_call 16; (with_reducible refine (HY.out _).mono ?_); rintro e w3 ⟨rfl, hb3⟩; have hS3 := keepQ hb3 ⟨u1, u2, u3, u4⟩; clear u3 u4; obtain ⟨v1, v2, v3, v4⟩ := hS3)
        | (go_at_call 11; (with_reducible refine (HC.out _).mono ?_); rintro e w4 ⟨rfl, hb4⟩; have hS4 := keepQ hb4 ⟨v1, v2, v3, v4⟩; clear v3 v4; obtain ⟨x1, x2, x3, x4⟩ := hS4)) | fail
      all_goals
        go_wp2
        go_ret
        exact ⟨rfl, u2⟩
    · rw [hx] at HX
      clear hx
      cases hyl : lets y
      · rw [hyl] at HY
        clear hyl
        go_enter Tryd.func10, Tryd.ntmps10
        go_wp2_with fail
        first | go_region_with (first
        | (go_at_call 16; (with_reducible refine (HX.out _).mono ?_); rintro e w2 ⟨rfl, hb2⟩; have hS2 := keepQ hb2 (keepQ (Below.refl _ _).drew keepQ0); obtain ⟨u1, u2, u3, u4⟩ := hS2)
        | (go_at_call 16; (with_reducible refine (HY.out _).mono ?_); rintro e w3 ⟨rfl, hb3⟩; have hS3 := keepQ hb3 ⟨u1, u2, u3, u4⟩; clear u3 u4; obtain ⟨v1, v2, v3, v4⟩ := hS3)
        | (go_at_call 11; (with_reducible refine (HC.out _).mono ?_); rintro e w4 ⟨rfl, hb4⟩; have hS4 := keepQ hb4 ⟨v1, v2, v3, v4⟩; clear v3 v4; obtain ⟨x1, x2, x3, x4⟩ := hS4)) | fail
        all_goals
          go_wp2
          go_ret
          exact ⟨rfl, v2⟩
      · rw [hyl] at HY
        clear hyl
        go_enter Tryd.func10, Tryd.ntmps10
        go_wp2_with fail
        first
          | go_region_held3 (fun w' => w.heap.size < w'.heap.size ∧ Below w.heap.size w w' ∧ w'.cell? ⟨w.heap.size, 0, none⟩ = some (.string (bs x)) ∧ w'.cell? ⟨w.heap.size, 1, none⟩ = some (.string (bs y)))
              (first | exact keepQ (by assumption) (by assumption) | exact keepQ (Below.refl _ _).drew keepQ0)
              (first
                | (go_at_call 16; (with_reducible refine (HX.out _).mono ?_); rintro e w2 ⟨rfl, hb2⟩)
                | (go_at_call 16; (with_reducible refine (HY.out _).mono ?_); rintro e w3 ⟨rfl, hb3⟩)
                | (go_at_call 11; (with_reducible refine (HC.out _).mono ?_); rintro e w4 ⟨rfl, hb4⟩))
          | fail
        all_goals
          rename_i hHeld
          have hBB := hHeld.2.1
          clear hHeld
          go_wp2
          go_ret
          exact ⟨rfl, hBB⟩
  · have hgt : decide ((64 : Int) < (x.length : Int) + (y.length : Int)) = true := by simp; omega
    have e : isSeq x y = false := by
      have : decide (x.length + y.length ≤ 64) = false := by simp [h64]
      rw [hP, this]; simp
    rw [e]
    clear hP e HX HY hy hy0 h64 hxy
    generalize (x.length : Int) = a at *
    generalize (y.length : Int) = b at *
    go_enter Tryd.func10, Tryd.ntmps10
    go_wp2
    go_ret
    refine ⟨rfl, ?_⟩
    (repeat' (first | (with_reducible exact Below.refl _ _) | (with_reducible assumption) | (with_reducible refine belowNext ?_ (by with_reducible assumption)) | (with_reducible refine belowAlloc ?_ _) | (with_reducible refine Below.drew ?_) | (with_reducible refine below_drewN ?_ _) | (with_reducible refine Below.setCell ?_ ?_ _) | go_size | (with_reducible refine sizeOf' ?_) | (with_reducible refine sizeAdd ?_) | (dsimp only; first | (with_reducible refine sizeOf' ?_) | (with_reducible refine sizeAdd ?_))))
end Go.Proofs.YtcgdlimhhcmjhaaDoor

/-
  Contracts: the specification's IsSequence; what the laws on sequences call.
-/
import Derived.Test.YtcgdlimhhcmjhaaDoorD1
import Derived.Deep.RegionHeld3
namespace Go.Proofs.YtcgdlimhhcmjhaaDoor
open Go.RowKit

theorem emp_facts' (y : Wd) : (bs y).toList = y ∧ y.isEmpty = !decide (0 < y.length) ∧ (y == []) = !decide (0 < y.length) ∧ (y = []) = (decide (0 < y.length) = false) := by
  refine ⟨bs_toList y, ?_, ?_, ?_⟩
  · cases y <;> simp
  · cases y <;> simp
  · cases y <;> simp

set_option maxHeartbeats 4000000 in
theorem specL01Seq (x y : Wd) (w : World) (hxy : x.length + y.length ≤ 1048576) :
    Calls Tryd.prog 13 #[sqV x y] w fun e w' => e = .returned (.bool (isSeq x y)) ∧ Below w.heap.size w w' := by
  have hP := isSeq_parts x y
  have hlx := fun W => lenS 9 3 x Tryd.underlying9 W
  have hly := fun W => lenS 9 3 y Tryd.underlying9 W
  obtain ⟨y1, y2, y3, y4⟩ := emp_facts' y
  have HX := Lib.hid (fun w => specLetters x w (by omega))
  have HY := Lib.hid (fun w => specLetters y w (by omega))
  have wab : IntKind.i64.wrap ((x.length : Int) + (y.length : Int)) = (x.length : Int) + (y.length : Int) := IntWalk.i64_in _ (by omega)
  cases hx : lets x
  · have e : isSeq x y = false := by rw [hP, hx]; simp
    rw [e]
    rw [hx] at HX
    clear hP e hx
    go_enter Tryd.func13, Tryd.ntmps13
    go_wp2_with fail
    refine (HX.out _).mono ?_
    rintro e w2 ⟨rfl, hb2⟩
    go_wp2
    go_ret
    refine ⟨rfl, ?_⟩
    (repeat' (first | (with_reducible exact Below.refl _ _) | (with_reducible assumption) | (with_reducible refine belowNext ?_ (by with_reducible assumption)) | (with_reducible refine belowAlloc ?_ _) | (with_reducible refine Below.drew ?_) | (with_reducible refine below_drewN ?_ _) | (with_reducible refine Below.setCell ?_ ?_ _) | go_size | (with_reducible refine sizeOf' ?_) | (with_reducible refine sizeAdd ?_) | (dsimp only; first | (with_reducible refine sizeOf' ?_) | (with_reducible refine sizeAdd ?_))))
  rw [hx] at HX
  cases hyl : lets y
  · have e : isSeq x y = false := by rw [hP, hyl]; simp
    rw [e]
    rw [hyl] at HY
    clear hP e hx hyl
    go_enter Tryd.func13, Tryd.ntmps13
    go_wp2_with fail
    refine (HX.out _).mono ?_
    rintro e w2 ⟨rfl, hb2⟩
    have hS2 := keepQ hb2 keepQ0
    clear hb2
    obtain ⟨u1, u2, u3, u4⟩ := hS2
    go_wp2_with fail
    refine (HY.out _).mono ?_
    rintro e w3 ⟨rfl, hb3⟩
    have hB := belowNext u2 hb3
    clear hb3
    go_wp2
    go_ret
    exact ⟨rfl, hB⟩
  rw [hyl] at HY
  rw [hx, hyl, Bool.true_and, Bool.true_and] at hP
  by_cases hok : 0 < y.length ∧ x.length + y.length ≤ 64
  · obtain ⟨hy0, h64⟩ := hok
    have hgt : decide ((64 : Int) < (x.length : Int) + (y.length : Int)) = false := by simp; omega
    have hd1 : decide (0 < y.length) = true := by simp [hy0]
    have hd2 : decide (x.length + y.length ≤ 64) = true := by simp [h64]
    rw [hd1] at y2 y3 y4
    rw [hd1, hd2, Bool.true_and, Bool.true_and] at hP
    have HC := Lib.hid (fun w => specCanon x y w hy0 h64)
    have HE := eqlSq (canon x y).1 (canon x y).2 x y
    have he : ((((canon x y).1, (canon x y).2)) == (x, y)) = (canon x y == (x, y)) := rfl
    rw [he] at HE
    rw [hP]
    generalize (canon x y).1 = C1 at *
    generalize (canon x y).2 = C2 at *
    generalize (canon x y == (x, y)) = q at *
    clear hP hd1 hd2 h64 hy0 hxy he hx hyl
    generalize (x.length : Int) = a at *
    generalize (y.length : Int) = b at *
    go_enter Tryd.func13, Tryd.ntmps13
    go_wp2_with fail
    refine (HX.out _).mono ?_
    rintro e w2 ⟨rfl, hb2⟩
    have hS2 := keepQ hb2 keepQ0
    clear hb2
    obtain ⟨u1, u2, u3, u4⟩ := hS2
    go_wp2_with fail
    refine (HY.out _).mono ?_
    rintro e w3 ⟨rfl, hb3⟩
    have hS3 := keepQ hb3 ⟨u1, u2, u3, u4⟩
    clear hb3 u1 u2 u3 u4
    obtain ⟨v1, v2, v3, v4⟩ := id hS3
    go_wp2_with fail
    first
      | go_region_held3 (fun w' => w.heap.size < w'.heap.size ∧ Below w.heap.size w w' ∧ w'.cell? ⟨w.heap.size, 0, none⟩ = some (.string (bs x)) ∧ w'.cell? ⟨w.heap.size, 1, none⟩ = some (.string (bs y)))
          (first | exact keepQ (by assumption) (by assumption) | exact keepQ (Below.refl _ _).drew hS3)
          (first | (go_at_call 20; (with_reducible refine (HC.out _).mono ?_); rintro e w4 ⟨rfl, hb4⟩))
      | fail
    all_goals
      rename_i hHeld
      have hBB := hHeld.2.1
      clear hHeld
      go_wp2
      go_ret
      exact ⟨rfl, hBB⟩
  · have e : isSeq x y = false := by
      rw [hP]
      by_cases hy0 : 0 < y.length
      · have h64 : ¬ (x.length + y.length ≤ 64) := fun h => hok ⟨hy0, h⟩
        have : decide (x.length + y.length ≤ 64) = false := by simp [h64]
        rw [this]; simp
      · have : decide (0 < y.length) = false := decide_eq_false hy0
        rw [this]; simp
    rw [e]
    have hcase : decide (0 < y.length) = false ∨ (decide (0 < y.length) = true ∧ decide ((64 : Int) < (x.length : Int) + (y.length : Int)) = true) := by
      by_cases hy0 : 0 < y.length
      · have h64 : ¬ (x.length + y.length ≤ 64) := fun h => hok ⟨hy0, h⟩
        have h65 : (64 : Int) < (x.length : Int) + (y.length : Int) := by omega
        exact .inr ⟨by simp [hy0], by simp [h65]⟩
      · exact .inl (decide_eq_false hy0)
    clear hP e hok hx hyl hxy
    rcases hcase with hy | ⟨hy, hgt⟩
    all_goals
      rw [hy] at y2 y3 y4
      clear hy
      generalize (x.length : Int) = a at *
      generalize (y.length : Int) = b at *
      go_enter Tryd.func13, Tryd.ntmps13
      go_wp2_with fail
      refine (HX.out _).mono ?_
      rintro e w2 ⟨rfl, hb2⟩
      have hS2 := keepQ hb2 keepQ0
      clear hb2
      obtain ⟨u1, u2, u3, u4⟩ := hS2
      go_wp2_with fail
      refine (HY.out _).mono ?_
      rintro e w3 ⟨rfl, hb3⟩
      have hS3 := keepQ hb3 ⟨u1, u2, u3, u4⟩
      clear hb3 u1 u2 u3 u4
      obtain ⟨v1, v2, v3, v4⟩ := id hS3
      go_wp2
      go_ret
      exact ⟨rfl, v2⟩

/-- What the laws leave for: sizes up to 2^20. -/
def szQ (x y : Wd) : Int := if x.length + y.length ≤ 1048576 then 1048576 - (x.length : Int) - (y.length : Int) else -1
theorem szQ_cases (x y : Wd) : (szQ x y = -1) ∨ (0 ≤ szQ x y ∧ x.length + y.length ≤ 1048576) := by
  unfold szQ
  split
  · exact .inr ⟨by omega, by assumption⟩
  · exact .inl rfl
end Go.Proofs.YtcgdlimhhcmjhaaDoor

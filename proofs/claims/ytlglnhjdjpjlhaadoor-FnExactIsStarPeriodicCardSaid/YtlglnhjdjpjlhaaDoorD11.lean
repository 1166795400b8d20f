/-
  Contracts: IsStarPeriodic on both sides; the walk of its law.
-/
import Derived.Test.YtlglnhjdjpjlhaaDoorD10
namespace Go.Proofs.YtlglnhjdjpjlhaaDoor
open Go.RowKit

def isB (x y : Wd) : Bool := isSeq x y && starQ x y
def isC (x y : Wd) : Int := if isSeq x y then 0 else 1

theorem implIsStar (x y : Wd) (w : World) (hxy : x.length + y.length ≤ 1048576) :
    Calls Tryd.prog 23 #[sqV x y] w fun e w' => e = .returned (.tuple #[.bool (isB x y), .int .i64 (isC x y)]) ∧ Below w.heap.size w w' := by
  have HA := Lib.hid (fun w => implIsSeq x y w hxy)
  cases h : isSeq x y
  · have e1 : isB x y = false ∧ isC x y = 1 := by unfold isB isC; rw [h]; exact ⟨rfl, rfl⟩
    rw [e1.1, e1.2]
    rw [h] at HA
    clear h e1
    go_enter Tryd.func23, Tryd.ntmps23
    go_wp2_with fail
    refine (HA.out _).mono ?_
    rintro e w2 ⟨rfl, hb2⟩
    have hS2 := keepQ hb2 keepQ0
    clear hb2
    obtain ⟨u1, u2, u3, u4⟩ := id hS2
    go_wp2
    go_ret2
    exact ⟨rfl, u2⟩
  · rw [h] at HA
    have e1 : isB x y = starQ x y ∧ isC x y = 0 := by unfold isB isC; rw [h]; exact ⟨rfl, rfl⟩
    obtain ⟨_, hl, hy0, h64, _⟩ := isSeq_yes h
    have HS := Lib.hid (fun w => implStar x y w hl hy0 h64)
    rw [e1.1, e1.2]
    clear h e1 hl hy0 h64 hxy
    generalize starQ x y = b at *
    go_enter Tryd.func23, Tryd.ntmps23
    go_wp2_with fail
    refine (HA.out _).mono ?_
    rintro e w2 ⟨rfl, hb2⟩
    have hS2 := keepQ hb2 keepQ0
    clear hb2
    obtain ⟨u1, u2, u3, u4⟩ := id hS2
    go_wp2_with fail
    refine (HS.out _).mono ?_
    rintro e w3 ⟨rfl, hb3⟩
    have hB := belowNext u2 hb3
    clear hb3
    go_wp2
    go_ret2
    exact ⟨rfl, hB⟩

theorem specIsStar (x y : Wd) (w : World) (hxy : x.length + y.length ≤ 1048576) :
    Calls Tryd.prog 22 #[sqV x y] w fun e w' => e = .returned (.tuple #[.bool (isB x y), .int .i64 (isC x y)]) ∧ Below w.heap.size w w' := by
  have HA := Lib.hid (fun w => specL01Seq x y w hxy)
  cases h : isSeq x y
  · have e1 : isB x y = false ∧ isC x y = 1 := by unfold isB isC; rw [h]; exact ⟨rfl, rfl⟩
    rw [e1.1, e1.2]
    rw [h] at HA
    clear h e1
    go_enter Tryd.func22, Tryd.ntmps22
    go_wp2_with fail
    refine (HA.out _).mono ?_
    rintro e w2 ⟨rfl, hb2⟩
    have hS2 := keepQ hb2 keepQ0
    clear hb2
    obtain ⟨u1, u2, u3, u4⟩ := id hS2
    go_wp2
    go_ret2
    exact ⟨rfl, u2⟩
  · rw [h] at HA
    have e1 : isB x y = starQ x y ∧ isC x y = 0 := by unfold isB isC; rw [h]; exact ⟨rfl, rfl⟩
    obtain ⟨_, hl, hy0, h64, _⟩ := isSeq_yes h
    have HS := Lib.hid (fun w => specStar x y w hy0 h64)
    rw [e1.1, e1.2]
    clear h e1 hl hy0 h64 hxy
    generalize starQ x y = b at *
    go_enter Tryd.func22, Tryd.ntmps22
    go_wp2_with fail
    refine (HA.out _).mono ?_
    rintro e w2 ⟨rfl, hb2⟩
    have hS2 := keepQ hb2 keepQ0
    clear hb2
    obtain ⟨u1, u2, u3, u4⟩ := id hS2
    go_wp2_with fail
    refine (HS.out _).mono ?_
    rintro e w3 ⟨rfl, hb3⟩
    have hB := belowNext u2 hb3
    clear hb3
    go_wp2
    go_ret2
    exact ⟨rfl, hB⟩

set_option maxHeartbeats 2000000 in
theorem lawIsStarPeriodic (x y : Wd) (hx : x.length ≤ maxLen) (hy : y.length ≤ maxLen) (w : World) :
    Calls Tryd.prog 8 #[sqV x y] w fun e w' => e = .returned (.bool true) ∧ Below w.heap.size w w' := by
  have HZ := Lib.hid (fun w => szSeq x y w (by unfold maxLen at hx; omega) (by unfold maxLen at hy; omega))
  have HT := Lib.hid (fun w => toSeq x y w)
  rcases szQ_cases x y with h | ⟨h, hxy⟩
  · rw [h] at HZ
    clear h hx hy
    go_enter Tryd.func8, Tryd.ntmps8
    go_wp2_with fail
    refine (HZ.out _).mono ?_
    rintro e w2 ⟨rfl, hb2⟩
    have hS := keepQ hb2 keepQ0
    clear hb2
    obtain ⟨u1, u2, u3, u4⟩ := hS
    go_wp2
    go_ret
    exact ⟨rfl, u2⟩
  · have HA := Lib.hid (fun w => specIsStar x y w hxy)
    have HB := Lib.hid (fun w => implIsStar x y w hxy)
    generalize isB x y = B at *
    generalize isC x y = C at *
    have hlt : decide (szQ x y < 0) = false := by simp; omega
    generalize szQ x y = z at *
    clear h hx hy hxy
    go_enter Tryd.func8, Tryd.ntmps8
    go_wp2_with fail
    refine (HZ.out _).mono ?_
    rintro e w2 ⟨rfl, hb2⟩
    have hS := keepQ hb2 keepQ0
    clear hb2
    obtain ⟨u1, u2, u3, u4⟩ := id hS
    go_wp2_with fail
    refine (HT.out _).mono ?_
    rintro e w3 ⟨rfl, hb3⟩
    have hS3 := keepQ hb3 hS
    clear hb3 u1 u2 u3 u4 hS
    obtain ⟨u1, u2, u3, u4⟩ := id hS3
    go_wp2_with fail
    refine (HA.out _).mono ?_
    rintro e w4 ⟨rfl, hb4⟩
    have hS4 := keepQ hb4 hS3
    clear hb4 u1 u2 u3 u4 hS3
    obtain ⟨u1, u2, u3, u4⟩ := id hS4
    go_wp2_with fail
    refine (HT.out _).mono ?_
    rintro e w5 ⟨rfl, hb5⟩
    have hS5 := keepQ hb5 hS4
    clear hb5 u1 u2 u3 u4 hS4
    obtain ⟨u1, u2, u3, u4⟩ := id hS5
    go_wp2_with fail
    refine (HB.out _).mono ?_
    rintro e w6 ⟨rfl, hb6⟩
    have hS6 := keepQ hb6 hS5
    clear hb6 u1 u2 u3 u4 hS5
    obtain ⟨u1, u2, u3, u4⟩ := id hS6
    go_wp2
    go_ret
    exact ⟨rfl, u2⟩
end Go.Proofs.YtlglnhjdjpjlhaaDoor

/-
  Contracts: SequenceText, on both sides; the walk of its law.
-/
import Derived.Test.YtlglnhjdjpjlhaaDoorLD
namespace Go.Proofs.YtlglnhjdjpjlhaaDoor
open Go.RowKit

def txS (x y : Wd) : Wd := if isSeq x y then x ++ [40] ++ y ++ [41] else []
def txC (x y : Wd) : Int := if isSeq x y then 0 else 1
theorem txt_cases (x y : Wd) : (isSeq x y = false ∧ txS x y = [] ∧ txC x y = 1) ∨ (isSeq x y = true ∧ txS x y = x ++ [40] ++ y ++ [41] ∧ txC x y = 0) := by
  unfold txS txC
  cases isSeq x y
  · exact .inl ⟨rfl, rfl, rfl⟩
  · exact .inr ⟨rfl, rfl, rfl⟩
theorem txtCat (x y : Wd) (hx : x.length + y.length ≤ 64) : (∀ W, (Op.stringOp .add (bs x) ⟨#[40]⟩).run Tryd.prog W = .ok (.string (bs (x ++ [40]))) W) ∧ (∀ W, (Op.stringOp .add (bs (x ++ [40])) (bs y)).run Tryd.prog W = .ok (.string (bs (x ++ [40] ++ y))) W) ∧ (∀ W, (Op.stringOp .add (bs (x ++ [40] ++ y)) ⟨#[41]⟩).run Tryd.prog W = .ok (.string (bs (x ++ [40] ++ y ++ [41]))) W) := by
  refine ⟨fun W => catO x [40] (by simp; omega) W, fun W => catO (x ++ [40]) y (by simp; omega) W, fun W => catO (x ++ [40] ++ y) [41] (by simp; omega) W⟩

theorem implText (x y : Wd) (w : World) (hxy : x.length + y.length ≤ 1048576) :
    Calls Tryd.prog 21 #[sqV x y] w fun e w' => e = .returned (.tuple #[.string (bs (txS x y)), .int .i64 (txC x y)]) ∧ Below w.heap.size w w' := by
  have HA := Lib.hid (fun w => implIsSeq x y w hxy)
  rcases txt_cases x y with ⟨h, e1, e2⟩ | ⟨h, e1, e2⟩
  · rw [e1, e2]
    rw [h] at HA
    clear h e1 e2
    go_enter Tryd.func21, Tryd.ntmps21
    go_wp2_with fail
    refine (HA.out _).mono ?_
    rintro e w2 ⟨rfl, hb2⟩
    have hS2 := keepQ hb2 keepQ0
    clear hb2
    obtain ⟨u1, u2, u3, u4⟩ := id hS2
    go_wp2
    go_ret2
    exact ⟨rfl, u2⟩
  · rw [e1, e2]
    rw [h] at HA
    obtain ⟨_, _, _, h64, _⟩ := isSeq_yes h
    obtain ⟨c1, c2, c3⟩ := txtCat x y h64
    clear h e1 e2
    generalize x ++ [40] ++ y ++ [41] = T at *
    generalize x ++ [40] ++ y = T2 at *
    generalize x ++ [40] = T1 at *
    go_enter Tryd.func21, Tryd.ntmps21
    go_wp2_with fail
    refine (HA.out _).mono ?_
    rintro e w2 ⟨rfl, hb2⟩
    have hS2 := keepQ hb2 keepQ0
    clear hb2
    obtain ⟨u1, u2, u3, u4⟩ := id hS2
    go_wp2
    go_ret2
    exact ⟨rfl, u2⟩
theorem specTx (x y : Wd) (w : World) (h64 : x.length + y.length ≤ 64) :
    Calls Tryd.prog 33 #[sqV x y] w fun e w' => e = .returned (.string (bs (x ++ [40] ++ y ++ [41]))) ∧ Below w.heap.size w w' := by
  obtain ⟨c1, c2, c3⟩ := txtCat x y h64
  generalize x ++ [40] ++ y ++ [41] = T at *
  generalize x ++ [40] ++ y = T2 at *
  generalize x ++ [40] = T1 at *
  clear h64
  go_enter Tryd.func33, Tryd.ntmps33
  go_wp2
  go_ret
  refine ⟨rfl, ?_⟩
  (repeat' (first | (with_reducible exact Below.refl _ _) | (with_reducible assumption) | (with_reducible refine belowNext ?_ (by with_reducible assumption)) | (with_reducible refine belowAlloc ?_ _) | (with_reducible refine Below.drew ?_) | (with_reducible refine below_drewN ?_ _) | (with_reducible refine Below.setCell ?_ ?_ _) | go_size | (with_reducible refine sizeOf' ?_) | (with_reducible refine sizeAdd ?_) | (dsimp only; first | (with_reducible refine sizeOf' ?_) | (with_reducible refine sizeAdd ?_))))
theorem specText (x y : Wd) (w : World) (hxy : x.length + y.length ≤ 1048576) :
    Calls Tryd.prog 20 #[sqV x y] w fun e w' => e = .returned (.tuple #[.string (bs (txS x y)), .int .i64 (txC x y)]) ∧ Below w.heap.size w w' := by
  have HA := Lib.hid (fun w => specL01Seq x y w hxy)
  rcases txt_cases x y with ⟨h, e1, e2⟩ | ⟨h, e1, e2⟩
  · rw [e1, e2]
    rw [h] at HA
    clear h e1 e2
    go_enter Tryd.func20, Tryd.ntmps20
    go_wp2_with fail
    refine (HA.out _).mono ?_
    rintro e w2 ⟨rfl, hb2⟩
    have hS2 := keepQ hb2 keepQ0
    clear hb2
    obtain ⟨u1, u2, u3, u4⟩ := id hS2
    go_wp2
    go_ret2
    exact ⟨rfl, u2⟩
  · rw [e1, e2]
    rw [h] at HA
    obtain ⟨_, _, _, h64, _⟩ := isSeq_yes h
    have HT := Lib.hid (fun w => specTx x y w h64)
    clear h e1 e2
    generalize x ++ [40] ++ y ++ [41] = T at *
    go_enter Tryd.func20, Tryd.ntmps20
    go_wp2_with fail
    refine (HA.out _).mono ?_
    rintro e w2 ⟨rfl, hb2⟩
    have hS2 := keepQ hb2 keepQ0
    clear hb2
    obtain ⟨u1, u2, u3, u4⟩ := id hS2
    go_wp2_with fail
    refine (HT.out _).mono ?_
    rintro e w3 ⟨rfl, hb3⟩
    have hB := belowNext u2 hb3
    clear hb3
    go_wp2
    go_ret2
    exact ⟨rfl, hB⟩

set_option maxHeartbeats 2000000 in
theorem lawSequenceText (x y : Wd) (hx : x.length ≤ maxLen) (hy : y.length ≤ maxLen) (w : World) :
    Calls Tryd.prog 7 #[sqV x y] w fun e w' => e = .returned (.bool true) ∧ Below w.heap.size w w' := by
  have HZ := Lib.hid (fun w => szSeq x y w (by unfold maxLen at hx; omega) (by unfold maxLen at hy; omega))
  have HT := Lib.hid (fun w => toSeq x y w)
  rcases szQ_cases x y with h | ⟨h, hxy⟩
  · rw [h] at HZ
    clear h hx hy
    go_enter Tryd.func7, Tryd.ntmps7
    go_wp2_with fail
    refine (HZ.out _).mono ?_
    rintro e w2 ⟨rfl, hb2⟩
    have hS := keepQ hb2 keepQ0
    clear hb2
    obtain ⟨u1, u2, u3, u4⟩ := hS
    go_wp2
    go_ret
    exact ⟨rfl, u2⟩
  · have HA := Lib.hid (fun w => specText x y w hxy)
    have HB := Lib.hid (fun w => implText x y w hxy)
    generalize txS x y = X at *
    generalize txC x y = C at *
    have hlt : decide (szQ x y < 0) = false := by simp; omega
    generalize szQ x y = z at *
    clear h hx hy hxy
    go_enter Tryd.func7, Tryd.ntmps7
    go_wp2_with fail
    refine (HZ.out _).mono ?_
    rintro e w2 ⟨rfl, hb2⟩
    have hS := keepQ hb2 keepQ0
    clear hb2
    obtain ⟨u1, u2, u3, u4⟩ := id hS
    go_wp2_with fail
    refine (HT.out _).mono ?_
    rintro e w3 ⟨rfl, hb3⟩
    have hS3 := keepQ hb3 hS
    clear hb3 u1 u2 u3 u4 hS
    obtain ⟨u1, u2, u3, u4⟩ := id hS3
    go_wp2_with fail
    refine (HA.out _).mono ?_
    rintro e w4 ⟨rfl, hb4⟩
    have hS4 := keepQ hb4 hS3
    clear hb4 u1 u2 u3 u4 hS3
    obtain ⟨u1, u2, u3, u4⟩ := id hS4
    go_wp2_with fail
    refine (HT.out _).mono ?_
    rintro e w5 ⟨rfl, hb5⟩
    have hS5 := keepQ hb5 hS4
    clear hb5 u1 u2 u3 u4 hS4
    obtain ⟨u1, u2, u3, u4⟩ := id hS5
    go_wp2_with fail
    refine (HB.out _).mono ?_
    rintro e w6 ⟨rfl, hb6⟩
    have hS6 := keepQ hb6 hS5
    clear hb6 u1 u2 u3 u4 hS5
    obtain ⟨u1, u2, u3, u4⟩ := id hS6
    go_wp2
    go_ret
    exact ⟨rfl, u2⟩
end Go.Proofs.YtlglnhjdjpjlhaaDoor

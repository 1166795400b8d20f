/-
  The walks of the laws of PairOf and PartnerOf.
-/
import Derived.Test.YtillliangojdkaaR17
namespace Go.Proofs.Ytillliangojdkaa
open Go.RowKit

set_option maxHeartbeats 1000000 in
theorem lawPairOf (n d : Int) (_ : (Lit.int .i64 n).wf = true) (_ : (Lit.int .i64 d).wf = true) (w : World) :
    Calls Try.prog 7 #[ang n d] w fun e w' => e = .returned (.bool true) ∧ Below w.heap.size w w' := by
  have HS := Lib.hid (fun w => specPairOf n d w)
  have HI := Lib.hid (fun w => implPairOf n d w)
  generalize poP n d = V at *
  obtain ⟨a, b, x, y⟩ := V
  try dsimp only at HS HI
  generalize poC n d = c at *
  go_enter Try.func7, Try.ntmps7
  go_wp2_with fail
  refine (toAngX _ _ _).mono ?_
  rintro e w1 ⟨rfl, rfl⟩
  go_wp2_with fail
  refine (HS.out _).mono ?_
  rintro e w2 ⟨rfl, hb2⟩
  have s2 := hb2.size
  simp at s2
  have k0 : w2.cell? ⟨w.heap.size, 0, none⟩ = some (.int .i64 n) := cellThru hb2 (by simp <;> omega) (by simp [go_sem])
  have k1 : w2.cell? ⟨w.heap.size, 1, none⟩ = some (.int .i64 d) := cellThru hb2 (by simp <;> omega) (by simp [go_sem])
  have z2 : w.heap.size < w2.heap.size := by omega
  have B2 : Below w.heap.size w w2 := by
    (repeat' (first | (with_reducible exact Below.refl _ _) | (with_reducible assumption) | (with_reducible refine belowNext ?_ (by with_reducible assumption)) | (with_reducible refine belowAlloc ?_ _) | (with_reducible refine Below.drew ?_) | (with_reducible refine below_drewN ?_ _) | (with_reducible refine Below.setCell ?_ ?_ _) | go_size | (with_reducible refine sizeOf' ?_) | (with_reducible refine sizeAdd ?_) | (dsimp only; first | (with_reducible refine sizeOf' ?_) | (with_reducible refine sizeAdd ?_))))
  clear hb2 s2
  go_wp2_with fail
  refine (toAngX _ _ _).mono ?_
  rintro e w3 ⟨rfl, rfl⟩
  go_wp2_with fail
  refine (HI.out _).mono ?_
  rintro e w4 ⟨rfl, hb4⟩
  have s4 := hb4.size
  simp at s4
  have m0 : w4.cell? ⟨w2.heap.size, 0, none⟩ = some (.int .i64 a) := cellThru hb4 (by simp <;> omega) (by simp [go_sem])
  have m1 : w4.cell? ⟨w2.heap.size, 1, none⟩ = some (.int .i64 b) := cellThru hb4 (by simp <;> omega) (by simp [go_sem])
  have m2 : w4.cell? ⟨w2.heap.size, 2, none⟩ = some (.int .i64 x) := cellThru hb4 (by simp <;> omega) (by simp [go_sem])
  have m3 : w4.cell? ⟨w2.heap.size, 3, none⟩ = some (.int .i64 y) := cellThru hb4 (by simp <;> omega) (by simp [go_sem])
  have z4 : w2.heap.size < w4.heap.size := by omega
  go_wp2_with fail
  refine (eqRpSame _ _ _ _ _).mono ?_
  rintro e w5 ⟨rfl, hb5⟩
  go_wp2
  go_ret
  refine ⟨rfl, ?_⟩
  (repeat' (first | (with_reducible exact Below.refl _ _) | (with_reducible assumption) | (with_reducible refine belowNext ?_ (by with_reducible assumption)) | (with_reducible refine belowAlloc ?_ _) | (with_reducible refine Below.drew ?_) | (with_reducible refine below_drewN ?_ _) | (with_reducible refine Below.setCell ?_ ?_ _) | go_size | (with_reducible refine sizeOf' ?_) | (with_reducible refine sizeAdd ?_) | (dsimp only; first | (with_reducible refine sizeOf' ?_) | (with_reducible refine sizeAdd ?_))))

set_option maxHeartbeats 1000000 in
theorem lawPartnerOf (n d : Int) (_ : (Lit.int .i64 n).wf = true) (_ : (Lit.int .i64 d).wf = true) (w : World) :
    Calls Try.prog 6 #[ang n d] w fun e w' => e = .returned (.bool true) ∧ Below w.heap.size w w' := by
  have HS := Lib.hid (fun w => specPartner n d w)
  have HI := Lib.hid (fun w => implPartner n d w)
  generalize paA n d = V at *
  obtain ⟨a, b⟩ := V
  try dsimp only at HS HI
  generalize poC n d = c at *
  go_enter Try.func6, Try.ntmps6
  go_wp2_with fail
  refine (toAngX _ _ _).mono ?_
  rintro e w1 ⟨rfl, rfl⟩
  go_wp2_with fail
  refine (HS.out _).mono ?_
  rintro e w2 ⟨rfl, hb2⟩
  have s2 := hb2.size
  simp at s2
  have k0 : w2.cell? ⟨w.heap.size, 0, none⟩ = some (.int .i64 n) := cellThru hb2 (by simp <;> omega) (by simp [go_sem])
  have k1 : w2.cell? ⟨w.heap.size, 1, none⟩ = some (.int .i64 d) := cellThru hb2 (by simp <;> omega) (by simp [go_sem])
  have z2 : w.heap.size < w2.heap.size := by omega
  have B2 : Below w.heap.size w w2 := by
    (repeat' (first | (with_reducible exact Below.refl _ _) | (with_reducible assumption) | (with_reducible refine belowNext ?_ (by with_reducible assumption)) | (with_reducible refine belowAlloc ?_ _) | (with_reducible refine Below.drew ?_) | (with_reducible refine below_drewN ?_ _) | (with_reducible refine Below.setCell ?_ ?_ _) | go_size | (with_reducible refine sizeOf' ?_) | (with_reducible refine sizeAdd ?_) | (dsimp only; first | (with_reducible refine sizeOf' ?_) | (with_reducible refine sizeAdd ?_))))
  clear hb2 s2
  go_wp2_with fail
  refine (toAngX _ _ _).mono ?_
  rintro e w3 ⟨rfl, rfl⟩
  go_wp2_with fail
  refine (HI.out _).mono ?_
  rintro e w4 ⟨rfl, hb4⟩
  have s4 := hb4.size
  simp at s4
  have m0 : w4.cell? ⟨w2.heap.size, 0, none⟩ = some (.int .i64 a) := cellThru hb4 (by simp <;> omega) (by simp [go_sem])
  have m1 : w4.cell? ⟨w2.heap.size, 1, none⟩ = some (.int .i64 b) := cellThru hb4 (by simp <;> omega) (by simp [go_sem])
  have z4 : w2.heap.size < w4.heap.size := by omega
  go_wp2_with fail
  refine (eqAngSame _ _ _).mono ?_
  rintro e w5 ⟨rfl, hb5⟩
  go_wp2
  go_ret
  refine ⟨rfl, ?_⟩
  (repeat' (first | (with_reducible exact Below.refl _ _) | (with_reducible assumption) | (with_reducible refine belowNext ?_ (by with_reducible assumption)) | (with_reducible refine belowAlloc ?_ _) | (with_reducible refine Below.drew ?_) | (with_reducible refine below_drewN ?_ _) | (with_reducible refine Below.setCell ?_ ?_ _) | go_size | (with_reducible refine sizeOf' ?_) | (with_reducible refine sizeAdd ?_) | (dsimp only; first | (with_reducible refine sizeOf' ?_) | (with_reducible refine sizeAdd ?_))))

end Go.Proofs.Ytillliangojdkaa

/-
  The walk of the exact law of distances.
-/
import Derived.Test.YtlmgpecfbpcgaaaL2
import Derived.Test.YtlmgpecfbpcgaaaW14
namespace Go.Proofs.Ytlmgpecfbpcgaaa
open Go.RowKit

set_option maxHeartbeats 2000000 in
theorem lawDistanceOf (n d : Int) (_ : (Lit.int .i64 n).wf = true) (_ : (Lit.int .i64 d).wf = true) (m c : Int) (_ : (Lit.int .i64 m).wf = true) (_ : (Lit.int .i64 c).wf = true) (w : World) :
    Calls Try.prog 3 #[ang n d, ang m c] w fun e w' => e = .returned (.bool true) ∧ Below w.heap.size w w' := by
  have HA := Lib.hid (fun w => specDist n d m c w)
  have HB := Lib.hid (fun w => implDist n d m c w)
  generalize disN n d m c = X at *
  generalize disD n d m c = Y at *
  generalize disC n d m c = C at *
  go_enter Try.func3, Try.ntmps3
  go_upto_region 1 with fail
  go_cut [5, 6] (fun s5 s6 wx => (∃ g : Nat, s5 = .pointer (some ⟨g, 0, none⟩) ∧ w.heap.size + 1 < g ∧ g < wx.heap.size ∧ wx.cell? ⟨g, 0, none⟩ = some (.int .i64 X) ∧ wx.cell? ⟨g, 1, none⟩ = some (.int .i64 Y)) ∧ s6 = .int .i64 C ∧ w.heap.size + 1 < wx.heap.size ∧ Below w.heap.size w wx ∧ wx.cell? ⟨w.heap.size, 0, none⟩ = some (.int .i64 n) ∧ wx.cell? ⟨w.heap.size, 1, none⟩ = some (.int .i64 d) ∧ wx.cell? ⟨w.heap.size + 1, 0, none⟩ = some (.int .i64 m) ∧ wx.cell? ⟨w.heap.size + 1, 1, none⟩ = some (.int .i64 c))
  case first =>
    go_region_held3 (fun w' => w.heap.size + 1 < w'.heap.size ∧ Below w.heap.size w w' ∧ w'.cell? ⟨w.heap.size, 0, none⟩ = some (.int .i64 n) ∧ w'.cell? ⟨w.heap.size, 1, none⟩ = some (.int .i64 d) ∧ w'.cell? ⟨w.heap.size + 1, 0, none⟩ = some (.int .i64 m) ∧ w'.cell? ⟨w.heap.size + 1, 1, none⟩ = some (.int .i64 c))
      (first | exact keep2 (by assumption) (by assumption) | ((with_reducible refine keep2a ?_); (repeat' (with_reducible refine keep2a ?_)); assumption) | ((with_reducible refine keep2d ?_); (repeat' (with_reducible refine keep2a ?_)); first | assumption | (refine ⟨?_, ?_, ?_, ?_, ?_, ?_⟩ <;> first | assumption | exact Below.refl _ _)) | ((with_reducible refine keep2s ?_ (keep2s ?_ ?_)) <;> first | assumption | (dsimp only; omega)) | (refine ⟨?_, ?_, ?_, ?_, ?_, ?_⟩ <;> first | assumption | (simp [go_sem]; done) | (simp [go_sem, *]; done) | (repeat' (first | (with_reducible exact Below.refl _ _) | (with_reducible assumption) | (with_reducible refine belowNext ?_ (by with_reducible assumption)) | (with_reducible refine belowAlloc ?_ _) | (with_reducible refine Below.drew ?_) | (with_reducible refine below_drewN ?_ _) | (with_reducible refine Below.setCell ?_ ?_ _) | go_size | (with_reducible refine sizeOf' ?_) | (with_reducible refine sizeAdd ?_) | (dsimp only; first | (with_reducible refine sizeOf' ?_) | (with_reducible refine sizeAdd ?_))))))
      (first
      | (go_at_call 13; (with_reducible refine (toAngX _ _ _).mono ?_); rintro e w1 ⟨rfl, rfl⟩)
      | (go_at_call 12; (with_reducible refine (HA.out _).mono ?_); rintro e w2 ⟨rfl, hb2⟩; have hS2 := keep2 hb2 (by assumption); obtain ⟨hc2, hf2⟩ := bcell hb2; have hz2 := zThru hb2))
    all_goals
      go_wp2_with fail
      go_meet
      refine ⟨⟨_, rfl, ?_, ?_, ?_, ?_⟩, rfl, by assumption⟩ <;> first | (go_simp; done) | (simp; omega)
  case rest =>
    obtain ⟨⟨g, rfl, hg1, hg2, k0, k1⟩, rfl, hz, hB, c0, c1, c2, c3⟩ := hcut
    generalize wc = wb at *
    go_upto_region 2 with fail
    go_cut [7, 8] (fun s7 s8 wx => (∃ g : Nat, s7 = .pointer (some ⟨g, 0, none⟩) ∧ wx.cell? ⟨g, 0, none⟩ = some (.int .i64 X) ∧ wx.cell? ⟨g, 1, none⟩ = some (.int .i64 Y)) ∧ s8 = .int .i64 C ∧ Below wb.heap.size wb wx)
    case first =>
      go_region_held3 (fun w' => w.heap.size + 1 < wb.heap.size ∧ Below wb.heap.size wb w' ∧ w'.cell? ⟨w.heap.size, 0, none⟩ = some (.int .i64 n) ∧ w'.cell? ⟨w.heap.size, 1, none⟩ = some (.int .i64 d) ∧ w'.cell? ⟨w.heap.size + 1, 0, none⟩ = some (.int .i64 m) ∧ w'.cell? ⟨w.heap.size + 1, 1, none⟩ = some (.int .i64 c))
        (first | exact kept2 (by assumption) (by assumption) | ((with_reducible refine kept2a ?_); (repeat' (with_reducible refine kept2a ?_)); assumption) | ((with_reducible refine kept2d ?_); (repeat' (with_reducible refine kept2a ?_)); first | assumption | (refine ⟨?_, ?_, ?_, ?_, ?_, ?_⟩ <;> first | assumption | exact Below.refl _ _)) | ((with_reducible refine kept2s ?_ (kept2s ?_ ?_)) <;> first | assumption | (dsimp only; omega) | (simp only [World.size_alloc, World.size_setCell, World.size_drew]; omega)) | (refine ⟨?_, ?_, ?_, ?_, ?_, ?_⟩ <;> first | assumption | (simp [go_sem]; done) | (simp [go_sem, *]; done) | (repeat' (first | (with_reducible exact Below.refl _ _) | (with_reducible assumption) | (with_reducible refine belowNext ?_ (by with_reducible assumption)) | (with_reducible refine belowAlloc ?_ _) | (with_reducible refine Below.drew ?_) | (with_reducible refine below_drewN ?_ _) | (with_reducible refine Below.setCell ?_ ?_ _) | go_size | (with_reducible refine sizeOf' ?_) | (with_reducible refine sizeAdd ?_) | (dsimp only; first | (with_reducible refine sizeOf' ?_) | (with_reducible refine sizeAdd ?_))))))
        (first
      | (go_at_call 13; (with_reducible refine (toAngX _ _ _).mono ?_); rintro e w1 ⟨rfl, rfl⟩)
      | (go_at_call 14; (with_reducible refine (HB.out _).mono ?_); rintro e w3 ⟨rfl, hb3⟩; have hS3 := kept2 hb3 (by assumption); obtain ⟨hc3, hf3⟩ := bcell hb3; have hz3 := zThru hb3))
      all_goals
        rename_i hHeld
        have hBc := hHeld.2.1
        clear hHeld
        go_wp2_with fail
        go_meet
        refine ⟨⟨_, rfl, ?_, ?_⟩, rfl, hBc⟩
        · first | (go_simp; done) | exact (storeA (x := .int .i64 0) (y := .int .i64 0) (cellThru hb3 (by simp <;> omega) (by simp [go_sem])) (cellThru hb3 (by simp <;> omega) (by simp [go_sem]))).1
        · first | (go_simp; done) | exact (storeA (x := .int .i64 0) (y := .int .i64 0) (cellThru hb3 (by simp <;> omega) (by simp [go_sem])) (cellThru hb3 (by simp <;> omega) (by simp [go_sem]))).2
    case rest =>
      obtain ⟨⟨g', rfl, k2, k3⟩, rfl, hBc⟩ := hcut
      have g0 := cellThru hBc hg2 k0
      have g1 := cellThru hBc hg2 k1
      go_wp2_with fail
      refine (eqAngSame _ _ _).mono ?_
      rintro e w4 ⟨rfl, hb4⟩
      go_wp2
      go_ret
      refine ⟨rfl, ?_⟩
      (repeat' (first | (with_reducible exact Below.refl _ _) | (with_reducible assumption) | (with_reducible refine belowNext ?_ (by with_reducible assumption)) | (with_reducible refine belowAlloc ?_ _) | (with_reducible refine Below.drew ?_) | (with_reducible refine below_drewN ?_ _) | (with_reducible refine Below.setCell ?_ ?_ _) | go_size | (with_reducible refine sizeOf' ?_) | (with_reducible refine sizeAdd ?_) | (dsimp only; first | (with_reducible refine sizeOf' ?_) | (with_reducible refine sizeAdd ?_))))
end Go.Proofs.Ytlmgpecfbpcgaaa

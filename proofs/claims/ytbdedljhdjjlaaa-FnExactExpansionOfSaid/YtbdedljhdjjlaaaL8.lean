/-
  The walks of the exact laws of itineraries and kneading sequences.
-/
import Derived.Test.YtbdedljhdjjlaaaL2
import Derived.Test.YtbdedljhdjjlaaaS7
namespace Go.Proofs.Ytbdedljhdjjlaaa
open Go.RowKit

theorem eqSeqSame (x y : Wd) (w : World) :
    Calls Try.prog 50 #[sqV x y, sqV x y] w fun e w' => e = .returned (.bool true) ∧ Below w.heap.size w w' := by
  go_enter Try.func50, Try.ntmps50
  go_wp2
  go_ret
  refine ⟨rfl, ?_⟩
  (repeat' (first | (with_reducible exact Below.refl _ _) | (with_reducible assumption) | (with_reducible refine belowNext ?_ (by with_reducible assumption)) | (with_reducible refine belowAlloc ?_ _) | (with_reducible refine Below.drew ?_) | (with_reducible refine below_drewN ?_ _) | (with_reducible refine Below.setCell ?_ ?_ _) | go_size | (with_reducible refine sizeOf' ?_) | (with_reducible refine sizeAdd ?_) | (dsimp only; first | (with_reducible refine sizeOf' ?_) | (with_reducible refine sizeAdd ?_))))

set_option maxHeartbeats 2000000 in
theorem lawItineraryOf (n d : Int) (_ : (Lit.int .i64 n).wf = true) (_ : (Lit.int .i64 d).wf = true) (m c : Int) (_ : (Lit.int .i64 m).wf = true) (_ : (Lit.int .i64 c).wf = true) (w : World) :
    Calls Try.prog 10 #[ang n d, ang m c] w fun e w' => e = .returned (.bool true) ∧ Below w.heap.size w w' := by
  have HA := Lib.hid (fun w => specItineraryOf n d m c w)
  have HB := Lib.hid (fun w => implItineraryOf n d m c w)
  generalize (itS n d m c).1 = X at *
  generalize (itS n d m c).2 = Y at *
  generalize itC n d m c = C at *
  go_enter Try.func10, Try.ntmps10
  go_upto_region 1 with fail
  go_cut [5, 6] (fun s5 s6 wx => (∃ g : Nat, s5 = .pointer (some ⟨g, 0, none⟩) ∧ w.heap.size + 1 < g ∧ g < wx.heap.size ∧ wx.cell? ⟨g, 0, none⟩ = some (.string (bs X)) ∧ wx.cell? ⟨g, 1, none⟩ = some (.string (bs Y))) ∧ s6 = .int .i64 C ∧ w.heap.size + 1 < wx.heap.size ∧ Below w.heap.size w wx ∧ wx.cell? ⟨w.heap.size, 0, none⟩ = some (.int .i64 n) ∧ wx.cell? ⟨w.heap.size, 1, none⟩ = some (.int .i64 d) ∧ wx.cell? ⟨w.heap.size + 1, 0, none⟩ = some (.int .i64 m) ∧ wx.cell? ⟨w.heap.size + 1, 1, none⟩ = some (.int .i64 c))
  case first =>
    go_region_held3 (fun w' => w.heap.size + 1 < w'.heap.size ∧ Below w.heap.size w w' ∧ w'.cell? ⟨w.heap.size, 0, none⟩ = some (.int .i64 n) ∧ w'.cell? ⟨w.heap.size, 1, none⟩ = some (.int .i64 d) ∧ w'.cell? ⟨w.heap.size + 1, 0, none⟩ = some (.int .i64 m) ∧ w'.cell? ⟨w.heap.size + 1, 1, none⟩ = some (.int .i64 c))
      (first | exact keep2 (by assumption) (by assumption) | ((with_reducible refine keep2a ?_); (repeat' (with_reducible refine keep2a ?_)); assumption) | ((with_reducible refine keep2d ?_); (repeat' (with_reducible refine keep2a ?_)); first | assumption | (refine ⟨?_, ?_, ?_, ?_, ?_, ?_⟩ <;> first | assumption | exact Below.refl _ _)) | ((with_reducible refine keep2s ?_ (keep2s ?_ ?_)) <;> first | assumption | (dsimp only; omega)) | (refine ⟨?_, ?_, ?_, ?_, ?_, ?_⟩ <;> first | assumption | (simp [go_sem]; done) | (simp [go_sem, *]; done) | (repeat' (first | (with_reducible exact Below.refl _ _) | (with_reducible assumption) | (with_reducible refine belowNext ?_ (by with_reducible assumption)) | (with_reducible refine belowAlloc ?_ _) | (with_reducible refine Below.drew ?_) | (with_reducible refine below_drewN ?_ _) | (with_reducible refine Below.setCell ?_ ?_ _) | go_size | (with_reducible refine sizeOf' ?_) | (with_reducible refine sizeAdd ?_) | (dsimp only; first | (with_reducible refine sizeOf' ?_) | (with_reducible refine sizeAdd ?_))))))
      (first
      | (go_at_call 37; (with_reducible refine (toAngX _ _ _).mono ?_); rintro e w1 ⟨rfl, rfl⟩)
      | (go_at_call 53; (with_reducible refine (HA.out _).mono ?_); rintro e w2 ⟨rfl, hb2⟩; have hS2 := keep2 hb2 (by assumption); obtain ⟨hc2, hf2⟩ := bcell hb2; have hz2 := zThru hb2))
    all_goals
      go_wp2_with fail
      go_meet
      refine ⟨⟨_, rfl, ?_, ?_, ?_, ?_⟩, rfl, by assumption⟩ <;> first | (go_simp; done) | (simp; omega)
  case rest =>
    obtain ⟨⟨g, rfl, hg1, hg2, k0, k1⟩, rfl, hz, hB, c0, c1, c2, c3⟩ := hcut
    generalize wc = wb at *
    go_upto_region 2 with fail
    go_cut [7, 8] (fun s7 s8 wx => (∃ g : Nat, s7 = .pointer (some ⟨g, 0, none⟩) ∧ wx.cell? ⟨g, 0, none⟩ = some (.string (bs X)) ∧ wx.cell? ⟨g, 1, none⟩ = some (.string (bs Y))) ∧ s8 = .int .i64 C ∧ Below wb.heap.size wb wx)
    case first =>
      go_region_held3 (fun w' => w.heap.size + 1 < wb.heap.size ∧ Below wb.heap.size wb w' ∧ w'.cell? ⟨w.heap.size, 0, none⟩ = some (.int .i64 n) ∧ w'.cell? ⟨w.heap.size, 1, none⟩ = some (.int .i64 d) ∧ w'.cell? ⟨w.heap.size + 1, 0, none⟩ = some (.int .i64 m) ∧ w'.cell? ⟨w.heap.size + 1, 1, none⟩ = some (.int .i64 c))
        (first | exact kept2 (by assumption) (by assumption) | ((with_reducible refine kept2a ?_); (repeat' (with_reducible refine kept2a ?_)); assumption) | ((with_reducible refine kept2d ?_); (repeat' (with_reducible refine kept2a ?_)); first | assumption | (refine ⟨?_, ?_, ?_, ?_, ?_, ?_⟩ <;> first | assumption | exact Below.refl _ _)) | ((with_reducible refine kept2s ?_ (kept2s ?_ ?_)) <;> first | assumption | (dsimp only; omega) | (simp only [World.size_alloc, World.size_setCell, World.size_drew]; omega)) | (refine ⟨?_, ?_, ?_, ?_, ?_, ?_⟩ <;> first | assumption | (simp [go_sem]; done) | (simp [go_sem, *]; done) | (repeat' (first | (with_reducible exact Below.refl _ _) | (with_reducible assumption) | (with_reducible refine belowNext ?_ (by with_reducible assumption)) | (with_reducible refine belowAlloc ?_ _) | (with_reducible refine Below.drew ?_) | (with_reducible refine below_drewN ?_ _) | (with_reducible refine Below.setCell ?_ ?_ _) | go_size | (with_reducible refine sizeOf' ?_) | (with_reducible refine sizeAdd ?_) | (dsimp only; first | (with_reducible refine sizeOf' ?_) | (with_reducible refine sizeAdd ?_))))))
        (first
      | (go_at_call 37; (with_reducible refine (toAngX _ _ _).mono ?_); rintro e w1 ⟨rfl, rfl⟩)
      | (go_at_call 54; (with_reducible refine (HB.out _).mono ?_); rintro e w3 ⟨rfl, hb3⟩; have hS3 := kept2 hb3 (by assumption); obtain ⟨hc3, hf3⟩ := bcell hb3; have hz3 := zThru hb3))
      all_goals
        rename_i hHeld
        have hBc := hHeld.2.1
        clear hHeld
        go_wp2_with fail
        go_meet
        refine ⟨⟨_, rfl, ?_, ?_⟩, rfl, hBc⟩
        · first | (go_simp; done) | exact (storeA (x := .string ⟨#[]⟩) (y := .string ⟨#[]⟩) (cellThru hb3 (by simp <;> omega) (by simp [go_sem])) (cellThru hb3 (by simp <;> omega) (by simp [go_sem]))).1
        · first | (go_simp; done) | exact (storeA (x := .string ⟨#[]⟩) (y := .string ⟨#[]⟩) (cellThru hb3 (by simp <;> omega) (by simp [go_sem])) (cellThru hb3 (by simp <;> omega) (by simp [go_sem]))).2
    case rest =>
      obtain ⟨⟨g', rfl, k2, k3⟩, rfl, hBc⟩ := hcut
      have g0 := cellThru hBc hg2 k0
      have g1 := cellThru hBc hg2 k1
      go_wp2_with fail
      refine (eqSeqSame _ _ _).mono ?_
      rintro e w4 ⟨rfl, hb4⟩
      go_wp2
      go_ret
      refine ⟨rfl, ?_⟩
      (repeat' (first | (with_reducible exact Below.refl _ _) | (with_reducible assumption) | (with_reducible refine belowNext ?_ (by with_reducible assumption)) | (with_reducible refine belowAlloc ?_ _) | (with_reducible refine Below.drew ?_) | (with_reducible refine below_drewN ?_ _) | (with_reducible refine Below.setCell ?_ ?_ _) | go_size | (with_reducible refine sizeOf' ?_) | (with_reducible refine sizeAdd ?_) | (dsimp only; first | (with_reducible refine sizeOf' ?_) | (with_reducible refine sizeAdd ?_))))

set_option maxHeartbeats 2000000 in
theorem lawKneadingOf (n d : Int) (_ : (Lit.int .i64 n).wf = true) (_ : (Lit.int .i64 d).wf = true) (w : World) :
    Calls Try.prog 11 #[ang n d] w fun e w' => e = .returned (.bool true) ∧ Below w.heap.size w w' := by
  have HA := Lib.hid (fun w => specKneadingOf n d w)
  have HB := Lib.hid (fun w => implKneadingOf n d w)
  generalize (itS n d n d).1 = X at *
  generalize (itS n d n d).2 = Y at *
  generalize itC n d n d = C at *
  go_enter Try.func11, Try.ntmps11
  go_wp2_with fail
  refine (toAng _ _ _).mono ?_
  rintro e w1 ⟨rfl, hb1⟩
  obtain ⟨hc1, hf1⟩ := bcell hb1
  have hz1 : w.heap.size < w1.heap.size := by have := hb1.size; simp at this; omega
  go_wp2_with fail
  refine (HA.out _).mono ?_
  rintro e w2 ⟨rfl, hb2⟩
  obtain ⟨hc2, hf2⟩ := bcell hb2
  have hz2 : w.heap.size < w2.heap.size := by have := hb2.size; omega
  go_wp2_with fail
  refine (toAng _ _ _).mono ?_
  rintro e w3 ⟨rfl, hb3⟩
  have hz3 : w2.heap.size < w3.heap.size := by have := hb3.size; simp at this; omega
  obtain ⟨hc3, hf3⟩ := bcell hb3
  go_wp2_with fail
  refine (HB.out _).mono ?_
  rintro e w4 ⟨rfl, hb4⟩
  have hz4 : w2.heap.size < w4.heap.size := by have := hb4.size; omega
  obtain ⟨hc4, hf4⟩ := bcell hb4
  go_wp2_with fail
  refine (eqSeqSame _ _ _).mono ?_
  rintro e w5 ⟨rfl, hb5⟩
  go_wp2
  go_ret
  refine ⟨rfl, ?_⟩
  (repeat' (first | (with_reducible exact Below.refl _ _) | (with_reducible assumption) | (with_reducible refine belowNext ?_ (by with_reducible assumption)) | (with_reducible refine belowAlloc ?_ _) | (with_reducible refine Below.drew ?_) | (with_reducible refine below_drewN ?_ _) | (with_reducible refine Below.setCell ?_ ?_ _) | go_size | (with_reducible refine sizeOf' ?_) | (with_reducible refine sizeAdd ?_) | (dsimp only; first | (with_reducible refine sizeOf' ?_) | (with_reducible refine sizeAdd ?_))))
end Go.Proofs.Ytbdedljhdjjlaaa

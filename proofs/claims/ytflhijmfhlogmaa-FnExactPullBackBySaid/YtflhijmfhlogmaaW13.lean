/-
  Contracts: distances as the program reckons them.
-/
import Derived.Test.YtflhijmfhlogmaaW12
namespace Go.Proofs.Ytflhijmfhlogmaa
open Go.RowKit

set_option maxHeartbeats 2000000 in
theorem min2 (x y x' y' : Int) (g : Nat) (w : World) (h1 : angW x y) (h2 : angW x' y') (hg : g < w.heap.size)
    (q0 : w.cell? ⟨g, 0, none⟩ = some (.int .i64 x)) (q1 : w.cell? ⟨g, 1, none⟩ = some (.int .i64 y)) (q2 : w.cell? ⟨g, 2, none⟩ = some (.int .i64 x')) (q3 : w.cell? ⟨g, 3, none⟩ = some (.int .i64 y')) :
    Calls Try.prog 104 #[.slice (some ⟨g, 0, none⟩) 2 2, .func (Fn.func 66) #[] #[]] w fun e w' => e = .returned (ang (minN x y x' y') (minD x y x' y')) ∧ Below w.heap.size w w' := by
  have HC := Lib.hid (fun w => cmpAngV x' y' x y w h2 h1)
  clear h1 h2
  have hg1 : g < w.heap.size + 1 := by omega
  have hg2 : g < w.heap.size + 1 + 1 := by omega
  have HM : Hid (minN x y x' y' = if ltA x' y' x y then x' else x) := Lib.hid rfl
  have HN : Hid (minD x y x' y' = if ltA x' y' x y then y' else y) := Lib.hid rfl
  have g1 : ltA x' y' x y = decide (cmpI (x' * y) (x * y') < 0) := by
    unfold ltA; by_cases h : x' * y < x * y'
    · have := cmpI_neg h; simp [h, this]
    · have := cmpI_nonneg h; simp [h]; omega
  rw [g1] at HM HN
  clear g1
  generalize minN x y x' y' = X at *
  generalize minD x y x' y' = Y at *
  generalize cmpI (x' * y) (x * y') = L at *
  by_cases l : L < 0
  all_goals
    go_enter Try.func104, Try.ntmps104
    go_wp2_with fail
    refine wp_loop_rounds 2 ?_
    rw [rounds_succ]
    go_wp2_with fail
    go_region_held3 (fun w' => Below w.heap.size w w' ∧ w.heap.size + 1 < w'.heap.size ∧ w'.cell? ⟨g, 2, none⟩ = some (.int .i64 x') ∧ w'.cell? ⟨g, 3, none⟩ = some (.int .i64 y') ∧ w'.cell? ⟨w.heap.size + 1, 0, none⟩ = some (.int .i64 x) ∧ w'.cell? ⟨w.heap.size + 1, 1, none⟩ = some (.int .i64 y))
      (first | (refine ⟨?_, ?_, ?_, ?_, ?_, ?_⟩ <;> first | assumption | (simp [go_sem, *]; done) | (repeat' (first | (with_reducible exact Below.refl _ _) | (with_reducible assumption) | (with_reducible refine belowNext ?_ (by with_reducible assumption)) | (with_reducible refine belowAlloc ?_ _) | (with_reducible refine Below.drew ?_) | (with_reducible refine below_drewN ?_ _) | (with_reducible refine Below.setCell ?_ ?_ _) | go_size | (with_reducible refine sizeOf' ?_) | (with_reducible refine sizeAdd ?_) | (dsimp only; first | (with_reducible refine sizeOf' ?_) | (with_reducible refine sizeAdd ?_))))))
      (first | (go_at_call 66; (with_reducible refine (HC.out _).mono ?_); rintro e w1 ⟨rfl, hb1⟩; have hB1 : Below w.heap.size w w1 := (by refine belowNext ?_ hb1; (repeat' (first | (with_reducible exact Below.refl _ _) | (with_reducible assumption) | (with_reducible refine belowNext ?_ (by with_reducible assumption)) | (with_reducible refine belowAlloc ?_ _) | (with_reducible refine Below.drew ?_) | (with_reducible refine below_drewN ?_ _) | (with_reducible refine Below.setCell ?_ ?_ _) | go_size | (with_reducible refine sizeOf' ?_) | (with_reducible refine sizeAdd ?_) | (dsimp only; first | (with_reducible refine sizeOf' ?_) | (with_reducible refine sizeAdd ?_))))); obtain ⟨hc1, hf1⟩ := bcell hb1; have hz1 : w.heap.size + 1 < w1.heap.size := (by have := hb1.size; simp at this; omega)))
    rename_i hHeld
    obtain ⟨hB, hz, d0, d1, d2, d3⟩ := hHeld
    have k0 : w1.cell? ⟨w.heap.size, 0, none⟩ = some (.int .i64 0) := cellThru hb1 (by simp <;> omega) (by simp [go_sem])
    have k1 : w1.cell? ⟨w.heap.size, 1, none⟩ = some (.int .i64 0) := cellThru hb1 (by simp <;> omega) (by simp [go_sem])
    have j0 : w1.frozen? ⟨w.heap.size, 0, none⟩ = false := frozThru hb1 (by simp <;> omega) (by simp [go_sem])
    have j1 : w1.frozen? ⟨w.heap.size, 1, none⟩ = false := frozThru hb1 (by simp <;> omega) (by simp [go_sem])
    have i0 : w1.frozen? ⟨w.heap.size + 1, 0, none⟩ = false := frozThru hb1 (by simp <;> omega) (by simp [go_sem])
    have i1 : w1.frozen? ⟨w.heap.size + 1, 1, none⟩ = false := frozThru hb1 (by simp <;> omega) (by simp [go_sem])
    clear hc1 hf1 hb1 hB1 q0 q1 q2 q3
    go_wp2_with fail
    rw [rounds_succ]
    go_wp2
  · refine bodyPost_ret (v := ang x' y') (by simp [results, Try.results104, go_sem, k0, k1]) rfl ⟨retA (by rw [HM.out]; simp [l]) (by rw [HN.out]; simp [l]), ?_⟩
    (repeat' (first | (with_reducible exact Below.refl _ _) | (with_reducible assumption) | (with_reducible refine belowNext ?_ (by with_reducible assumption)) | (with_reducible refine belowAlloc ?_ _) | (with_reducible refine Below.drew ?_) | (with_reducible refine below_drewN ?_ _) | (with_reducible refine Below.setCell ?_ ?_ _) | go_size | (with_reducible refine sizeOf' ?_) | (with_reducible refine sizeAdd ?_) | (dsimp only; first | (with_reducible refine sizeOf' ?_) | (with_reducible refine sizeAdd ?_))))
  · refine bodyPost_ret (v := ang x y) (by simp [results, Try.results104, go_sem, k0, k1]) rfl ⟨retA (by rw [HM.out]; simp [Int.not_lt.2, *]) (by rw [HN.out]; simp [Int.not_lt.2, *]), ?_⟩
    (repeat' (first | (with_reducible exact Below.refl _ _) | (with_reducible assumption) | (with_reducible refine belowNext ?_ (by with_reducible assumption)) | (with_reducible refine belowAlloc ?_ _) | (with_reducible refine Below.drew ?_) | (with_reducible refine below_drewN ?_ _) | (with_reducible refine Below.setCell ?_ ?_ _) | go_size | (with_reducible refine sizeOf' ?_) | (with_reducible refine sizeAdd ?_) | (dsimp only; first | (with_reducible refine sizeOf' ?_) | (with_reducible refine sizeAdd ?_))))

/-- The distance, reduced, of two angles: it may pass the limit. -/
def dsN (n d m c : Int) : Int := minN (redN (m * d - n * c) (d * c)) (redD (m * d - n * c) (d * c)) (redN (-(m * d - n * c)) (d * c)) (redD (-(m * d - n * c)) (d * c))
def dsD (n d m c : Int) : Int := minD (redN (m * d - n * c) (d * c)) (redD (m * d - n * c) (d * c)) (redN (-(m * d - n * c)) (d * c)) (redD (-(m * d - n * c)) (d * c))
theorem ds_W {n d m c : Int} (h1 : angOk n d) (h2 : angOk m c) : angW (dsN n d m c) (dsD n d m c) := by
  obtain ⟨a1, a2, a3, a4⟩ := h1
  obtain ⟨b1, b2, b3, b4⟩ := h2
  obtain ⟨r1, r2⟩ := mul_bound (a := d) (b := c) (by omega) (by omega) (by omega) (by omega)
  have r3 : 1 ≤ d * c := Int.mul_pos (by omega) (by omega)
  obtain ⟨t1, t2, t3, t4⟩ := red_bounds (m * d - n * c) (d * c) (by omega)
  obtain ⟨s1, s2, s3, s4⟩ := red_bounds (-(m * d - n * c)) (d * c) (by omega)
  unfold dsN dsD minN minD
  split
  · exact ⟨by omega, by omega, by omega, by omega⟩
  · exact ⟨by omega, by omega, by omega, by omega⟩

set_option maxHeartbeats 2000000 in
theorem implDB (n d m c : Int) (w : World) (h1 : angOk n d) (h2 : angOk m c) :
    Calls Try.prog 90 #[ang n d, ang m c] w fun e w' => e = .returned (ang (dsN n d m c) (dsD n d m c)) ∧ Below w.heap.size w w' := by
  obtain ⟨a1, a2, a3, a4⟩ := h1
  obtain ⟨b1, b2, b3, b4⟩ := h2
  obtain ⟨p1, p2⟩ := mul_bound (a := n) (b := c) (by omega) (by omega) (by omega) (by omega)
  obtain ⟨q1, q2⟩ := mul_bound (a := m) (b := d) (by omega) (by omega) (by omega) (by omega)
  obtain ⟨r1, r2⟩ := mul_bound (a := d) (b := c) (by omega) (by omega) (by omega) (by omega)
  have r3 : 1 ≤ d * c := Int.mul_pos (by omega) (by omega)
  obtain ⟨t1, t2, t3, t4⟩ := red_bounds (m * d - n * c) (d * c) (by omega)
  obtain ⟨s1, s2, s3, s4⟩ := red_bounds (-(m * d - n * c)) (d * c) (by omega)
  have HR := Lib.hid (fun w => implRed (m * d - n * c) (d * c) w (by omega) (by omega) (by omega) (by omega))
  have HR' := Lib.hid (fun w => implRed (-(m * d - n * c)) (d * c) w (by omega) (by omega) (by omega) (by omega))
  have E : Hid (dsN n d m c = minN (redN (m * d - n * c) (d * c)) (redD (m * d - n * c) (d * c)) (redN (-(m * d - n * c)) (d * c)) (redD (-(m * d - n * c)) (d * c)) ∧
    dsD n d m c = minD (redN (m * d - n * c) (d * c)) (redD (m * d - n * c) (d * c)) (redN (-(m * d - n * c)) (d * c)) (redD (-(m * d - n * c)) (d * c))) := Lib.hid ⟨rfl, rfl⟩
  generalize dsN n d m c = X at *
  generalize dsD n d m c = Y at *
  generalize redN (m * d - n * c) (d * c) = x at *
  generalize redD (m * d - n * c) (d * c) = y at *
  generalize redN (-(m * d - n * c)) (d * c) = x' at *
  generalize redD (-(m * d - n * c)) (d * c) = y' at *
  have HMin := Lib.hid (fun g w => min2 x y x' y' g w ⟨by omega, by omega, by omega, by omega⟩ ⟨by omega, by omega, by omega, by omega⟩)
  generalize minN x y x' y' = p at *
  generalize minD x y x' y' = q at *
  have wr1 : IntKind.i64.wrap (m * d) = m * d := IntWalk.i64_in _ (by omega)
  have wr2 : IntKind.i64.wrap (n * c) = n * c := IntWalk.i64_in _ (by omega)
  have wr3 : IntKind.i64.wrap (m * d - n * c) = m * d - n * c := IntWalk.i64_in _ (by omega)
  have wr4 : IntKind.i64.wrap (d * c) = d * c := IntWalk.i64_in _ (by omega)
  go_enter Try.func90, Try.ntmps90
  go_wp2_with fail
  go_quiet (fail)
  clear wr1 wr2 wr3 wr4
  go_wp2_with fail
  refine (HR.out _).mono ?_
  rintro e w2 ⟨rfl, hb2⟩
  have hz2 : w.heap.size + 1 + 1 < w2.heap.size := by have := hb2.size; simp at this; omega
  have k0 : w2.cell? ⟨w.heap.size + 1 + 1, 0, none⟩ = some (.int .i64 0) := cellThru hb2 (by simp <;> omega) (by simp [go_sem])
  have k1 : w2.cell? ⟨w.heap.size + 1 + 1, 1, none⟩ = some (.int .i64 0) := cellThru hb2 (by simp <;> omega) (by simp [go_sem])
  have j0 : w2.frozen? ⟨w.heap.size + 1 + 1, 0, none⟩ = false := frozThru hb2 (by simp <;> omega) (by simp [go_sem])
  have j1 : w2.frozen? ⟨w.heap.size + 1 + 1, 1, none⟩ = false := frozThru hb2 (by simp <;> omega) (by simp [go_sem])
  have B2 : Below w.heap.size w w2 := by
    (repeat' (first | (with_reducible exact Below.refl _ _) | (with_reducible assumption) | (with_reducible refine belowNext ?_ (by with_reducible assumption)) | (with_reducible refine belowAlloc ?_ _) | (with_reducible refine Below.drew ?_) | (with_reducible refine below_drewN ?_ _) | (with_reducible refine Below.setCell ?_ ?_ _) | go_size | (with_reducible refine sizeOf' ?_) | (with_reducible refine sizeAdd ?_) | (dsimp only; first | (with_reducible refine sizeOf' ?_) | (with_reducible refine sizeAdd ?_))))
  clear hb2
  go_wp2_with fail
  refine (HR'.out _).mono ?_
  rintro e w3 ⟨rfl, hb3⟩
  have B23 : Below w2.heap.size w2 w3 := by
    (repeat' (first | (with_reducible exact Below.refl _ _) | (with_reducible assumption) | (with_reducible refine belowNext ?_ (by with_reducible assumption)) | (with_reducible refine belowAlloc ?_ _) | (with_reducible refine Below.drew ?_) | (with_reducible refine below_drewN ?_ _) | (with_reducible refine Below.setCell ?_ ?_ _) | go_size | (with_reducible refine sizeOf' ?_) | (with_reducible refine sizeAdd ?_) | (dsimp only; first | (with_reducible refine sizeOf' ?_) | (with_reducible refine sizeAdd ?_))))
  go_wp2_with fail
  refine (HMin.out _ _ (by simp <;> omega) (by simp [go_sem]) (by simp [go_sem]) (by simp [go_sem]) (by simp [go_sem])).mono ?_
  rintro e w4 ⟨rfl, hb4⟩
  have B24 : Below w2.heap.size w2 w4 := by
    (repeat' (first | (with_reducible exact Below.refl _ _) | (with_reducible assumption) | (with_reducible refine belowNext ?_ (by with_reducible assumption)) | (with_reducible refine belowAlloc ?_ _) | (with_reducible refine Below.drew ?_) | (with_reducible refine below_drewN ?_ _) | (with_reducible refine Below.setCell ?_ ?_ _) | go_size | (with_reducible refine sizeOf' ?_) | (with_reducible refine sizeAdd ?_) | (dsimp only; first | (with_reducible refine sizeOf' ?_) | (with_reducible refine sizeAdd ?_))))
  clear hb4 hb3 B23
  have k0' := cellThru B24 hz2 k0
  have k1' := cellThru B24 hz2 k1
  have j0' := frozThru B24 hz2 j0
  have j1' := frozThru B24 hz2 j1
  have B4 : Below w.heap.size w w4 := belowNext B2 B24
  clear k0 k1 j0 j1 B2 B24
  go_wp2
  refine bodyPost_ret (v := ang p q) (by simp [results, Try.results90, go_sem, k0', k1']) rfl ⟨retA (by rw [E.out.1]) (by rw [E.out.2]), ?_⟩
  (repeat' (first | (with_reducible exact Below.refl _ _) | (with_reducible assumption) | (with_reducible refine belowNext ?_ (by with_reducible assumption)) | (with_reducible refine belowAlloc ?_ _) | (with_reducible refine Below.drew ?_) | (with_reducible refine below_drewN ?_ _) | (with_reducible refine Below.setCell ?_ ?_ _) | go_size | (with_reducible refine sizeOf' ?_) | (with_reducible refine sizeAdd ?_) | (dsimp only; first | (with_reducible refine sizeOf' ?_) | (with_reducible refine sizeAdd ?_))))

def disN (n d m c : Int) : Int := if sumOk n d m c then toldN (minN (redN (m * d - n * c) (d * c)) (redD (m * d - n * c) (d * c)) (redN (-(m * d - n * c)) (d * c)) (redD (-(m * d - n * c)) (d * c))) (minD (redN (m * d - n * c) (d * c)) (redD (m * d - n * c) (d * c)) (redN (-(m * d - n * c)) (d * c)) (redD (-(m * d - n * c)) (d * c))) else 0
def disD (n d m c : Int) : Int := if sumOk n d m c then toldD (minD (redN (m * d - n * c) (d * c)) (redD (m * d - n * c) (d * c)) (redN (-(m * d - n * c)) (d * c)) (redD (-(m * d - n * c)) (d * c))) else 0
def disC (n d m c : Int) : Int := if sumOk n d m c then toldC (minD (redN (m * d - n * c) (d * c)) (redD (m * d - n * c) (d * c)) (redN (-(m * d - n * c)) (d * c)) (redD (-(m * d - n * c)) (d * c))) else 1
theorem dis_no {n d m c : Int} (h : sumOk n d m c = false) : disN n d m c = 0 ∧ disD n d m c = 0 ∧ disC n d m c = 1 := by
  unfold disN disD disC; simp [h]
theorem dis_yes {n d m c : Int} (h : sumOk n d m c = true) : disN n d m c = toldN (minN (redN (m * d - n * c) (d * c)) (redD (m * d - n * c) (d * c)) (redN (-(m * d - n * c)) (d * c)) (redD (-(m * d - n * c)) (d * c))) (minD (redN (m * d - n * c) (d * c)) (redD (m * d - n * c) (d * c)) (redN (-(m * d - n * c)) (d * c)) (redD (-(m * d - n * c)) (d * c))) ∧
    disD n d m c = toldD (minD (redN (m * d - n * c) (d * c)) (redD (m * d - n * c) (d * c)) (redN (-(m * d - n * c)) (d * c)) (redD (-(m * d - n * c)) (d * c))) ∧ disC n d m c = toldC (minD (redN (m * d - n * c) (d * c)) (redD (m * d - n * c) (d * c)) (redN (-(m * d - n * c)) (d * c)) (redD (-(m * d - n * c)) (d * c))) := by
  unfold disN disD disC; simp [h]

end Go.Proofs.Ytflhijmfhlogmaa

/-
  Contracts: distances as the program reckons them.
-/
import Derived.Test.YtnciiodgkanpjaaW12
import Derived.Test.YtnciiodgkanpjaaWF
namespace Go.Proofs.Ytnciiodgkanpjaa
open Go.RowKit

set_option maxHeartbeats 2000000 in
theorem min2 (x y x' y' : Int) (g : Nat) (w : World) (h1 : angW x y) (h2 : angW x' y') (hg : g < w.heap.size)
    (q0 : w.cell? ⟨g, 0, none⟩ = some (.int .i64 x)) (q1 : w.cell? ⟨g, 1, none⟩ = some (.int .i64 y)) (q2 : w.cell? ⟨g, 2, none⟩ = some (.int .i64 x')) (q3 : w.cell? ⟨g, 3, none⟩ = some (.int .i64 y')) :
    Calls Try.prog 86 #[.slice (some ⟨g, 0, none⟩) 2 2, .func (Fn.func 87) #[] #[]] w fun e w' => e = .returned (ang (minN x y x' y') (minD x y x' y')) ∧ Below w.heap.size w w' := by
  have HC := Lib.hid (fun w => cmpAngV x' y' x y w h2 h1)
  clear h1 h2
  have hg1 : g < w.heap.size + 1 := by omega
  have hg2 : g < w.heap.size + 1 + 1 := by omega
  have HM : Hid (minN x y x' y' = if ltA x' y' x y then x' else x) := Lib.hid rfl
  have HN : Hid (minD x y x' y' = if ltA x' y' x y then y' else y) := Lib.hid rfl
  have g1 : ltA x' y' x y = decide (cmpI (x' * y) (x * y') < 0) := by
    unfold ltA; by_cases h : x' * y < x * y'
    · have := cmpI_neg h; simp [h, this]
    · have := cmpI_nonneg h; simp [h]; omega
  rw [g1] at HM HN
  clear g1
  generalize minN x y x' y' = X at *
  generalize minD x y x' y' = Y at *
  generalize cmpI (x' * y) (x * y') = L at *
  by_cases l : L < 0
  all_goals
    go_enter Try.func86, Try.ntmps86
    go_wp2_with fail
    refine wp_loop_rounds 2 ?_
    rw [rounds_succ]
    go_wp2_with fail
    go_region_held3 (fun w' => Below w.heap.size w w' ∧ w.heap.size + 1 < w'.heap.size ∧ w'.cell? ⟨g, 2, none⟩ = some (.int .i64 x') ∧ w'.cell? ⟨g, 3, none⟩ = some (.int .i64 y') ∧ w'.cell? ⟨w.heap.size + 1, 0, none⟩ = some (.int .i64 x) ∧ w'.cell? ⟨w.heap.size + 1, 1, none⟩ = some (.int .i64 y))
      (first | (refine ⟨?_, ?_, ?_, ?_, ?_, ?_⟩ <;> first | assumption | (simp [go_sem, *]; done) | (repeat' (first | (with_reducible exact Below.refl _ _) | (with_reducible assumption) | (with_reducible refine belowNext ?_ (by with_reducible assumption)) | (with_reducible refine belowAlloc ?_ _) | (with_reducible refine Below.drew ?_) | (with_reducible refine below_drewN ?_ _) | (with_reducible refine Below.setCell ?_ ?_ _) | go_size | (with_reducible refine sizeOf' ?_) | (with_reducible refine sizeAdd ?_) | (dsimp only; first | (with_reducible refine sizeOf' ?_) | (with_reducible refine sizeAdd ?_))))))
      (first | (go_at_call 87; (with_reducible refine (HC.out _).mono ?_); rintro e w1 ⟨rfl, hb1⟩; have hB1 : Below w.heap.size w w1 := (by refine belowNext ?_ hb1; (repeat' (first | (with_reducible exact Below.refl _ _) | (with_reducible assumption) | (with_reducible refine belowNext ?_ (by with_reducible assumption)) | (with_reducible refine belowAlloc ?_ _) | (with_reducible refine Below.drew ?_) | (with_reducible refine below_drewN ?_ _) | (with_reducible refine Below.setCell ?_ ?_ _) | go_size | (with_reducible refine sizeOf' ?_) | (with_reducible refine sizeAdd ?_) | (dsimp only; first | (with_reducible refine sizeOf' ?_) | (with_reducible refine sizeAdd ?_))))); obtain ⟨hc1, hf1⟩ := bcell hb1; have hz1 : w.heap.size + 1 < w1.heap.size := (by have := hb1.size; simp at this; omega)))
    rename_i hHeld
    obtain ⟨hB, hz, d0, d1, d2, d3⟩ := hHeld
    have k0 : w1.cell? ⟨w.heap.size, 0, none⟩ = some (.int .i64 0) := cellThru hb1 (by simp <;> omega) (by simp [go_sem])
    have k1 : w1.cell? ⟨w.heap.size, 1, none⟩ = some (.int .i64 0) := cellThru hb1 (by simp <;> omega) (by simp [go_sem])
    have j0 : w1.frozen? ⟨w.heap.size, 0, none⟩ = false := frozThru hb1 (by simp <;> omega) (by simp [go_sem])
    have j1 : w1.frozen? ⟨w.heap.size, 1, none⟩ = false := frozThru hb1 (by simp <;> omega) (by simp [go_sem])
    have i0 : w1.frozen? ⟨w.heap.size + 1, 0, none⟩ = false := frozThru hb1 (by simp <;> omega) (by simp [go_sem])
    have i1 : w1.frozen? ⟨w.heap.size + 1, 1, none⟩ = false := frozThru hb1 (by simp <;> omega) (by simp [go_sem])
    clear hc1 hf1 hb1 hB1 q0 q1 q2 q3
    go_wp2_with fail
    rw [rounds_succ]
    go_wp2
  · refine bodyPost_ret (v := ang x' y') (by simp [results, Try.results86, go_sem, k0, k1]) rfl ⟨retA (by rw [HM.out]; simp [l]) (by rw [HN.out]; simp [l]), ?_⟩
    (repeat' (first | (with_reducible exact Below.refl _ _) | (with_reducible assumption) | (with_reducible refine belowNext ?_ (by with_reducible assumption)) | (with_reducible refine belowAlloc ?_ _) | (with_reducible refine Below.drew ?_) | (with_reducible refine below_drewN ?_ _) | (with_reducible refine Below.setCell ?_ ?_ _) | go_size | (with_reducible refine sizeOf' ?_) | (with_reducible refine sizeAdd ?_) | (dsimp only; first | (with_reducible refine sizeOf' ?_) | (with_reducible refine sizeAdd ?_))))
  · refine bodyPost_ret (v := ang x y) (by simp [results, Try.results86, go_sem, k0, k1]) rfl ⟨retA (by rw [HM.out]; simp [Int.not_lt.2, *]) (by rw [HN.out]; simp [Int.not_lt.2, *]), ?_⟩
    (repeat' (first | (with_reducible exact Below.refl _ _) | (with_reducible assumption) | (with_reducible refine belowNext ?_ (by with_reducible assumption)) | (with_reducible refine belowAlloc ?_ _) | (with_reducible refine Below.drew ?_) | (with_reducible refine below_drewN ?_ _) | (with_reducible refine Below.setCell ?_ ?_ _) | go_size | (with_reducible refine sizeOf' ?_) | (with_reducible refine sizeAdd ?_) | (dsimp only; first | (with_reducible refine sizeOf' ?_) | (with_reducible refine sizeAdd ?_))))

/-- The distance, reduced, of two angles: it may pass the limit. -/
def dsN (n d m c : Int) : Int := minN (redN (m * d - n * c) (d * c)) (redD (m * d - n * c) (d * c)) (redN (-(m * d - n * c)) (d * c)) (redD (-(m * d - n * c)) (d * c))
def dsD (n d m c : Int) : Int := minD (redN (m * d - n * c) (d * c)) (redD (m * d - n * c) (d * c)) (redN (-(m * d - n * c)) (d * c)) (redD (-(m * d - n * c)) (d * c))
theorem ds_W {n d m c : Int} (h1 : angOk n d) (h2 : angOk m c) : angW (dsN n d m c) (dsD n d m c) := by
  obtain ⟨a1, a2, a3, a4⟩ := h1
  obtain ⟨b1, b2, b3, b4⟩ := h2
  obtain ⟨r1, r2⟩ := mul_bound (a := d) (b := c) (by omega) (by omega) (by omega) (by omega)
  have r3 : 1 ≤ d * c := Int.mul_pos (by omega) (by omega)
  obtain ⟨t1, t2, t3, t4⟩ := red_bounds (m * d - n * c) (d * c) (by omega)
  obtain ⟨s1, s2, s3, s4⟩ := red_bounds (-(m * d - n * c)) (d * c) (by omega)
  unfold dsN dsD minN minD
  split
  · exact ⟨by omega, by omega, by omega, by omega⟩
  · exact ⟨by omega, by omega, by omega, by omega⟩

/-- What holds in the region of distanceBetween: its boxes. -/
structure DbS (w : World) (n d m c : Int) (W : World) : Prop where
  B : Below w.heap.size w W
  z : w.heap.size + 1 + 1 < W.heap.size
  a0 : W.cell? ⟨w.heap.size, 0, none⟩ = some (.int .i64 n)
  a1 : W.cell? ⟨w.heap.size, 1, none⟩ = some (.int .i64 d)
  b0 : W.cell? ⟨w.heap.size + 1, 0, none⟩ = some (.int .i64 m)
  b1 : W.cell? ⟨w.heap.size + 1, 1, none⟩ = some (.int .i64 c)
  r0 : ∃ u, W.cell? ⟨w.heap.size + 1 + 1, 0, none⟩ = some u
  r1 : ∃ u, W.cell? ⟨w.heap.size + 1 + 1, 1, none⟩ = some u
  j0 : W.frozen? ⟨w.heap.size + 1 + 1, 0, none⟩ = false
  j1 : W.frozen? ⟨w.heap.size + 1 + 1, 1, none⟩ = false
theorem DbS.on {w W w1 : World} {n d m c : Int} (H : DbS w n d m c W) (hb : Below W.heap.size W w1) : DbS w n d m c w1 := by
  have hz := H.z
  have hs := hb.size
  exact ⟨belowNext H.B hb, by omega, cellThru hb (by omega) H.a0, cellThru hb (by omega) H.a1, cellThru hb (by omega) H.b0, cellThru hb (by omega) H.b1, H.r0.imp fun _ h => cellThru hb hz h, H.r1.imp fun _ h => cellThru hb hz h, frozThru hb hz H.j0, frozThru hb hz H.j1⟩
theorem DbS.put {w W : World} {n d m c : Int} (H : DbS w n d m c W) (x y : Value) :
    DbS w n d m c ((W.setCell ⟨w.heap.size + 1 + 1, 0, none⟩ x).setCell ⟨w.heap.size + 1 + 1, 1, none⟩ y) ∧ ((W.setCell ⟨w.heap.size + 1 + 1, 0, none⟩ x).setCell ⟨w.heap.size + 1 + 1, 1, none⟩ y).cell? ⟨w.heap.size + 1 + 1, 0, none⟩ = some x ∧ ((W.setCell ⟨w.heap.size + 1 + 1, 0, none⟩ x).setCell ⟨w.heap.size + 1 + 1, 1, none⟩ y).cell? ⟨w.heap.size + 1 + 1, 1, none⟩ = some y := by
  obtain ⟨u0, h0⟩ := H.r0
  obtain ⟨u1, h1⟩ := H.r1
  have q1 : (W.setCell ⟨w.heap.size + 1 + 1, 0, none⟩ x).cell? ⟨w.heap.size + 1 + 1, 1, none⟩ = some u1 := by rw [World.cell?_setCell_other _ _ _ _ (by simp)]; exact h1
  have e0 : ((W.setCell ⟨w.heap.size + 1 + 1, 0, none⟩ x).setCell ⟨w.heap.size + 1 + 1, 1, none⟩ y).cell? ⟨w.heap.size + 1 + 1, 0, none⟩ = some x := by
    rw [World.cell?_setCell_other _ _ _ _ (by simp)]
    exact World.cell?_setCell_same _ _ _ h0
  have e1 : ((W.setCell ⟨w.heap.size + 1 + 1, 0, none⟩ x).setCell ⟨w.heap.size + 1 + 1, 1, none⟩ y).cell? ⟨w.heap.size + 1 + 1, 1, none⟩ = some y := World.cell?_setCell_same _ _ _ q1
  refine ⟨⟨(H.B.setCell (by show w.heap.size ≤ w.heap.size + 1 + 1; omega) _).setCell (by show w.heap.size ≤ w.heap.size + 1 + 1; omega) _, by simpa using H.z, ?_, ?_, ?_, ?_, ⟨_, e0⟩, ⟨_, e1⟩, by simpa using H.j0, by simpa using H.j1⟩, e0, e1⟩
  all_goals rw [World.cell?_setCell_other _ _ _ _ (by intro e; injection e; omega), World.cell?_setCell_other _ _ _ _ (by intro e; injection e; omega)]
  · exact H.a0
  · exact H.a1
  · exact H.b0
  · exact H.b1

set_option maxRecDepth 8000 in
set_option maxHeartbeats 2000000 in
theorem implDB (n d m c : Int) (w : World) (h1 : angOk n d) (h2 : angOk m c) :
    Calls Try.prog 60 #[ang n d, ang m c] w fun e w' => e = .returned (ang (dsN n d m c) (dsD n d m c)) ∧ Below w.heap.size w w' := by
  have HR := Lib.hid (fun w => implWF n d m c w h1 h2)
  have HR' := Lib.hid (fun w => implWB n d m c w h1 h2)
  obtain ⟨a1, a2, a3, a4⟩ := h1
  obtain ⟨b1, b2, b3, b4⟩ := h2
  obtain ⟨r1, r2⟩ := mul_bound (a := d) (b := c) (by omega) (by omega) (by omega) (by omega)
  have r3 : 1 ≤ d * c := Int.mul_pos (by omega) (by omega)
  obtain ⟨t1, t2, t3, t4⟩ := red_bounds (m * d - n * c) (d * c) (by omega)
  obtain ⟨s1, s2, s3, s4⟩ := red_bounds (-(m * d - n * c)) (d * c) (by omega)
  have E : Hid (dsN n d m c = minN (redN (m * d - n * c) (d * c)) (redD (m * d - n * c) (d * c)) (redN (-(m * d - n * c)) (d * c)) (redD (-(m * d - n * c)) (d * c)) ∧
    dsD n d m c = minD (redN (m * d - n * c) (d * c)) (redD (m * d - n * c) (d * c)) (redN (-(m * d - n * c)) (d * c)) (redD (-(m * d - n * c)) (d * c))) := Lib.hid ⟨rfl, rfl⟩
  generalize dsN n d m c = X at *
  generalize dsD n d m c = Y at *
  generalize redN (m * d - n * c) (d * c) = x at *
  generalize redD (m * d - n * c) (d * c) = y at *
  generalize redN (-(m * d - n * c)) (d * c) = x' at *
  generalize redD (-(m * d - n * c)) (d * c) = y' at *
  have HMin := Lib.hid (fun g w => min2 x y x' y' g w ⟨by omega, by omega, by omega, by omega⟩ ⟨by omega, by omega, by omega, by omega⟩)
  generalize minN x y x' y' = p at *
  generalize minD x y x' y' = q at *
  clear a1 a2 a3 a4 b1 b2 b3 b4 r1 r2 r3 t1 t2 t3 t4 s1 s2 s3 s4
  go_enter Try.func60, Try.ntmps60
  go_wp2_with fail
  have S0 : DbS w n d m c (((w.alloc (.cells #[.int .i64 n, .int .i64 d] 25)).alloc (.cells #[.int .i64 m, .int .i64 c] 25)).alloc (.cells #[.int .i64 0, .int .i64 0] 25)) := ⟨by (repeat' (first | (with_reducible exact Below.refl _ _) | (with_reducible assumption) | (with_reducible refine belowNext ?_ (by with_reducible assumption)) | (with_reducible refine belowAlloc ?_ _) | (with_reducible refine Below.drew ?_) | (with_reducible refine below_drewN ?_ _) | (with_reducible refine Below.setCell ?_ ?_ _) | go_size | (with_reducible refine sizeOf' ?_) | (with_reducible refine sizeAdd ?_) | (dsimp only; first | (with_reducible refine sizeOf' ?_) | (with_reducible refine sizeAdd ?_)))), by simp, by simp [go_sem], by simp [go_sem], by simp [go_sem], by simp [go_sem], ⟨.int .i64 0, by simp [go_sem]⟩, ⟨.int .i64 0, by simp [go_sem]⟩, by simp [go_sem], by simp [go_sem]⟩
  generalize ((w.alloc (.cells #[.int .i64 n, .int .i64 d] 25)).alloc (.cells #[.int .i64 m, .int .i64 c] 25)).alloc (.cells #[.int .i64 0, .int .i64 0] 25) = W0 at *
  refine wp_region_held_drew (S := (DbS w n d m c)) (by kernel_rfl) ?_ (fun hHeld => ?_)
  · exact S0.on (Below.refl _ _).drew
  refine wpAnyH_take (i := 0) (v := ?_) rfl (by kernel_rfl) (by kernel_rfl) (by kernel_rfl) (fun _ _ _ h => h) (Or.inl ⟨by kernel_rfl, ?_⟩) hHeld ?_
  rotate_left
  · intro w hSw; obtain ⟨_, _, a0, a1, b0, b1, _, _, _, _⟩ := hSw; first | (go_simp; done) | (go_simp; with_reducible rfl)
  refine wpAnyH_take (i := 1) (v := ?_) rfl (by kernel_rfl) (by kernel_rfl) (by kernel_rfl) (fun _ _ _ h => h) (Or.inl ⟨by kernel_rfl, ?_⟩) hHeld ?_
  rotate_left
  · intro w hSw; obtain ⟨_, _, a0, a1, b0, b1, _, _, _, _⟩ := hSw; first | (go_simp; done) | (go_simp; with_reducible rfl)
  refine wpAnyH_take (i := 3) (v := ?_) rfl (by kernel_rfl) (by kernel_rfl) (by kernel_rfl) (fun _ _ _ h => h) (Or.inl ⟨by kernel_rfl, ?_⟩) hHeld ?_
  rotate_left
  · intro w hSw; obtain ⟨_, _, a0, a1, b0, b1, _, _, _, _⟩ := hSw; first | (go_simp; done) | (go_simp; with_reducible rfl)
  refine wpAnyH_take (i := 4) (v := ?_) rfl (by kernel_rfl) (by kernel_rfl) (by kernel_rfl) (fun _ _ _ h => h) (Or.inl ⟨by kernel_rfl, ?_⟩) hHeld ?_
  rotate_left
  · intro w hSw; obtain ⟨_, _, a0, a1, b0, b1, _, _, _, _⟩ := hSw; first | (go_simp; done) | (go_simp; with_reducible rfl)
  refine wpAnyH_ready (rs := [2]) (by kernel_rfl) (by simp) ?_
  refine AllReadyH.cons rfl (fun K hK => ?_) AllReadyH.nil
  go_simp
  go_wp2_with (go_at_call 67; (with_reducible refine (HR.out _).mono ?_); rintro e w1 ⟨rfl, hb1⟩)
  have S1 := hHeld.on hb1
  refine hK.out _ _ ?_ (fun hHeld => ?_)
  · exact S1
  clear hK K
  refine wpAnyH_ready (rs := [5]) (by kernel_rfl) (by simp) ?_
  refine AllReadyH.cons rfl (fun K hK => ?_) AllReadyH.nil
  go_simp
  go_wp2_with (go_at_call 67; (with_reducible refine (HR'.out _).mono ?_); rintro e w2 ⟨rfl, hb2⟩)
  have S2 := S1.on hb2
  refine hK.out _ _ ?_ (fun hHeld => ?_)
  · exact S2
  clear hK K
  have S3 := S2.on (belowAlloc (Below.refl _ _) (.cells #[.int .i64 x, .int .i64 y, .int .i64 x', .int .i64 y'] 25))
  refine wpAnyH_ready (rs := [6]) (by kernel_rfl) (by simp) ?_
  refine AllReadyH.cons rfl (fun K hK => ?_) AllReadyH.nil
  go_simp
  refine hK.out _ _ ?_ (fun hHeld => ?_)
  · exact S3
  clear hK K
  refine wpAnyH_ready (rs := [7]) (by kernel_rfl) (by simp) ?_
  refine AllReadyH.cons rfl (fun K hK => ?_) AllReadyH.nil
  go_simp
  go_wp2_with (go_at_call 86; (with_reducible refine (HMin.out w2.heap.size _ (by simp) (by simp [go_sem]) (by simp [go_sem]) (by simp [go_sem]) (by simp [go_sem])).mono ?_); rintro e w4 ⟨rfl, hb4⟩)
  have S4 := S3.on hb4
  refine hK.out _ _ ?_ (fun hHeld => ?_)
  · exact S4
  clear hK K
  obtain ⟨S5, k0, k1⟩ := S4.put (.int .i64 p) (.int .i64 q)
  obtain ⟨-, -, -, -, -, -, ⟨u0, c0⟩, ⟨u1, c1⟩, f0, f1⟩ := S4
  refine wpAnyH_ready (rs := [8]) (by kernel_rfl) (by simp) ?_
  refine AllReadyH.cons rfl (fun K hK => ?_) AllReadyH.nil
  go_simp
  refine hK.out _ _ ?_ (fun hHeld => ?_)
  · exact S5
  clear hK K
  refine wpAnyH_done (by kernel_rfl) ?_ _
  go_wp2
  refine bodyPost_ret (v := ang p q) (by simp [results, Try.results60, go_sem, k0, k1]) rfl ⟨retA (by rw [E.out.1]) (by rw [E.out.2]), S5.B⟩

def disN (n d m c : Int) : Int := if sumOk n d m c then toldN (minN (redN (m * d - n * c) (d * c)) (redD (m * d - n * c) (d * c)) (redN (-(m * d - n * c)) (d * c)) (redD (-(m * d - n * c)) (d * c))) (minD (redN (m * d - n * c) (d * c)) (redD (m * d - n * c) (d * c)) (redN (-(m * d - n * c)) (d * c)) (redD (-(m * d - n * c)) (d * c))) else 0
def disD (n d m c : Int) : Int := if sumOk n d m c then toldD (minD (redN (m * d - n * c) (d * c)) (redD (m * d - n * c) (d * c)) (redN (-(m * d - n * c)) (d * c)) (redD (-(m * d - n * c)) (d * c))) else 0
def disC (n d m c : Int) : Int := if sumOk n d m c then toldC (minD (redN (m * d - n * c) (d * c)) (redD (m * d - n * c) (d * c)) (redN (-(m * d - n * c)) (d * c)) (redD (-(m * d - n * c)) (d * c))) else 1
theorem dis_no {n d m c : Int} (h : sumOk n d m c = false) : disN n d m c = 0 ∧ disD n d m c = 0 ∧ disC n d m c = 1 := by
  unfold disN disD disC; simp [h]
theorem dis_yes {n d m c : Int} (h : sumOk n d m c = true) : disN n d m c = toldN (minN (redN (m * d - n * c) (d * c)) (redD (m * d - n * c) (d * c)) (redN (-(m * d - n * c)) (d * c)) (redD (-(m * d - n * c)) (d * c))) (minD (redN (m * d - n * c) (d * c)) (redD (m * d - n * c) (d * c)) (redN (-(m * d - n * c)) (d * c)) (redD (-(m * d - n * c)) (d * c))) ∧
    disD n d m c = toldD (minD (redN (m * d - n * c) (d * c)) (redD (m * d - n * c) (d * c)) (redN (-(m * d - n * c)) (d * c)) (redD (-(m * d - n * c)) (d * c))) ∧ disC n d m c = toldC (minD (redN (m * d - n * c) (d * c)) (redD (m * d - n * c) (d * c)) (redN (-(m * d - n * c)) (d * c)) (redD (-(m * d - n * c)) (d * c))) := by
  unfold disN disD disC; simp [h]

set_option maxHeartbeats 2000000 in
theorem implDist (n d m c : Int) (w : World) :
    Calls Try.prog 23 #[ang n d, ang m c] w fun e w' => e = .returned (res3 (disN n d m c) (disD n d m c) (disC n d m c)) ∧ Below w.heap.size w w' := by
  have HA : Hid (∀ (w : World) b cap, AngRow w w.heap.size (some ⟨b, 0, none⟩) [(n, d), (m, c)] → Calls Try.prog 55 #[.slice (some ⟨b, 0, none⟩) 2 cap] w fun e w' => e = .returned (.bool (sumOk n d m c)) ∧ Below w.heap.size w w') := Lib.hid (fun w b cap h => by
    have := areAng (some ⟨b, 0, none⟩) 2 cap [(n, d), (m, c)] w h rfl (by omega)
    rw [all2] at this
    exact this)
  cases hi : sumOk n d m c
  · have E := Lib.hid (dis_no hi)
    rw [hi] at HA
    clear hi
    generalize disN n d m c = X at *
    generalize disD n d m c = Y at *
    generalize disC n d m c = C at *
    go_enter Try.func23, Try.ntmps23
    go_wp2_with fail
    refine (HA.out _ _ _ (by exact row2 _ _ _ _ _ _ _ (by simp))).mono ?_
    rintro e w1 ⟨rfl, hb1⟩
    obtain ⟨hc1, hf1⟩ := bcell hb1
    have k0 : w1.cell? ⟨w.heap.size + 1 + 1, 0, none⟩ = some (.int .i64 0) := cellThru hb1 (by simp <;> omega) (by simp [go_sem])
    have k1 : w1.cell? ⟨w.heap.size + 1 + 1, 1, none⟩ = some (.int .i64 0) := cellThru hb1 (by simp <;> omega) (by simp [go_sem])
    go_wp2
    refine bodyPost_ret (v := res3 0 0 1) (by simp [results, Try.results23, go_sem, k0, k1]) rfl ⟨ret3 E.out.1.symm E.out.2.1.symm E.out.2.2.symm, ?_⟩
    (repeat' (first | (with_reducible exact Below.refl _ _) | (with_reducible assumption) | (with_reducible refine belowNext ?_ (by with_reducible assumption)) | (with_reducible refine belowAlloc ?_ _) | (with_reducible refine Below.drew ?_) | (with_reducible refine below_drewN ?_ _) | (with_reducible refine Below.setCell ?_ ?_ _) | go_size | (with_reducible refine sizeOf' ?_) | (with_reducible refine sizeAdd ?_) | (dsimp only; first | (with_reducible refine sizeOf' ?_) | (with_reducible refine sizeAdd ?_))))
  · have E : Hid (disN n d m c = toldN (dsN n d m c) (dsD n d m c) ∧ disD n d m c = toldD (dsD n d m c) ∧ disC n d m c = toldC (dsD n d m c)) := Lib.hid (dis_yes hi)
    rw [hi] at HA
    have hi' := hi
    simp only [sumOk, Bool.and_eq_true] at hi'
    have HD := Lib.hid (fun w => implDB n d m c w (isAng_ok hi'.1) (isAng_ok hi'.2))
    clear hi' hi
    generalize disN n d m c = X at *
    generalize disD n d m c = Y at *
    generalize disC n d m c = C at *
    generalize dsN n d m c = p at *
    generalize dsD n d m c = q at *
    go_enter Try.func23, Try.ntmps23
    go_wp2_with fail
    refine (HA.out _ _ _ (by exact row2 _ _ _ _ _ _ _ (by simp))).mono ?_
    rintro e w1 ⟨rfl, hb1⟩
    have hz0 : w.heap.size < w1.heap.size := by have := hb1.size; simp at this; omega
    have hz1 : w.heap.size + 1 < w1.heap.size := by have := hb1.size; simp at this; omega
    have hz2 : w.heap.size + 1 + 1 < w1.heap.size := by have := hb1.size; simp at this; omega
    have c0 : w1.cell? ⟨w.heap.size, 0, none⟩ = some (.int .i64 n) := cellThru hb1 (by simp <;> omega) (by simp [go_sem])
    have c1 : w1.cell? ⟨w.heap.size, 1, none⟩ = some (.int .i64 d) := cellThru hb1 (by simp <;> omega) (by simp [go_sem])
    have c2 : w1.cell? ⟨w.heap.size + 1, 0, none⟩ = some (.int .i64 m) := cellThru hb1 (by simp <;> omega) (by simp [go_sem])
    have c3 : w1.cell? ⟨w.heap.size + 1, 1, none⟩ = some (.int .i64 c) := cellThru hb1 (by simp <;> omega) (by simp [go_sem])
    have k0 : w1.cell? ⟨w.heap.size + 1 + 1, 0, none⟩ = some (.int .i64 0) := cellThru hb1 (by simp <;> omega) (by simp [go_sem])
    have k1 : w1.cell? ⟨w.heap.size + 1 + 1, 1, none⟩ = some (.int .i64 0) := cellThru hb1 (by simp <;> omega) (by simp [go_sem])
    have j0 : w1.frozen? ⟨w.heap.size + 1 + 1, 0, none⟩ = false := frozThru hb1 (by simp <;> omega) (by simp [go_sem])
    have j1 : w1.frozen? ⟨w.heap.size + 1 + 1, 1, none⟩ = false := frozThru hb1 (by simp <;> omega) (by simp [go_sem])
    have B1 : Below w.heap.size w w1 := by
      (repeat' (first | (with_reducible exact Below.refl _ _) | (with_reducible assumption) | (with_reducible refine belowNext ?_ (by with_reducible assumption)) | (with_reducible refine belowAlloc ?_ _) | (with_reducible refine Below.drew ?_) | (with_reducible refine below_drewN ?_ _) | (with_reducible refine Below.setCell ?_ ?_ _) | go_size | (with_reducible refine sizeOf' ?_) | (with_reducible refine sizeAdd ?_) | (dsimp only; first | (with_reducible refine sizeOf' ?_) | (with_reducible refine sizeAdd ?_))))
    clear hb1
    go_wp2_with fail
    refine (HD.out _).mono ?_
    rintro e w4 ⟨rfl, hb4⟩
    have B14 : Below w1.heap.size w1 w4 := by
      (repeat' (first | (with_reducible exact Below.refl _ _) | (with_reducible assumption) | (with_reducible refine belowNext ?_ (by with_reducible assumption)) | (with_reducible refine belowAlloc ?_ _) | (with_reducible refine Below.drew ?_) | (with_reducible refine below_drewN ?_ _) | (with_reducible refine Below.setCell ?_ ?_ _) | go_size | (with_reducible refine sizeOf' ?_) | (with_reducible refine sizeAdd ?_) | (dsimp only; first | (with_reducible refine sizeOf' ?_) | (with_reducible refine sizeAdd ?_))))
    clear hb4
    go_wp2_with fail
    refine (implLim _ _ _).mono ?_
    rintro e w5 ⟨rfl, hb5⟩
    have B15 : Below w1.heap.size w1 w5 := belowNext B14 hb5
    have k0' := cellThru B15 hz2 k0
    have k1' := cellThru B15 hz2 k1
    have j0' := frozThru B15 hz2 j0
    have j1' := frozThru B15 hz2 j1
    have B5 : Below w.heap.size w w5 := belowNext B1 B15
    clear B15 B14 hb5 B1
    go_wp2
    refine bodyPost_ret (v := res3 (toldN p q) (toldD q) (toldC q)) (by simp [results, Try.results23, go_sem, k0', k1']) rfl ⟨ret3 E.out.1.symm E.out.2.1.symm E.out.2.2.symm, ?_⟩
    (repeat' (first | (with_reducible exact Below.refl _ _) | (with_reducible assumption) | (with_reducible refine belowNext ?_ (by with_reducible assumption)) | (with_reducible refine belowAlloc ?_ _) | (with_reducible refine Below.drew ?_) | (with_reducible refine below_drewN ?_ _) | (with_reducible refine Below.setCell ?_ ?_ _) | go_size | (with_reducible refine sizeOf' ?_) | (with_reducible refine sizeAdd ?_) | (dsimp only; first | (with_reducible refine sizeOf' ?_) | (with_reducible refine sizeAdd ?_))))
end Go.Proofs.Ytnciiodgkanpjaa

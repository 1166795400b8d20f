/-
  Contracts: leaves that are pulled back past a diameter: the model's way with an answer.
-/
import Derived.Test.YtkpgfafmaoaefaaL2
import Derived.Test.YtkpgfafmaoaefaaV16
namespace Go.Proofs.Ytkpgfafmaoaefaa
open Go.RowKit

theorem redRed {n m : Int} (hm : 0 < m) (h : redD n m ≤ 8191) : Red (redN n m, redD n m) := by
  obtain ⟨t1, t2, t3, t4⟩ := redBd n m hm
  refine ⟨t3, h, t1, t2, ?_⟩
  dsimp only
  unfold redN redD
  exact gcdI_div _ _ hm
theorem lf_ok {x y u v : Int} (h1 : angOk x y) (h2 : angOk u v) : angOk (lfA x y u v) (lfB x y u v) ∧ angOk (lfC x y u v) (lfD x y u v) := by
  cases h : ltA x y u v
  · obtain ⟨d1, d2, d3, d4⟩ := lf_no h
    rw [d1, d2, d3, d4]; exact ⟨h2, h1⟩
  · obtain ⟨d1, d2, d3, d4⟩ := lf_yes h
    rw [d1, d2, d3, d4]; exact ⟨h1, h2⟩
theorem keepPB0 {wb W w1 : World} {q b1 b2 : Nat} {e f g h x y u v : Int} (hb : Below W.heap.size W w1)
    (H : q < W.heap.size ∧ b1 < W.heap.size ∧ b2 < W.heap.size ∧ Below wb.heap.size wb W ∧ W.cell? ⟨q, 0, none⟩ = some (.int .i64 e) ∧ W.cell? ⟨q, 1, none⟩ = some (.int .i64 f) ∧ W.cell? ⟨q, 2, none⟩ = some (.int .i64 g) ∧ W.cell? ⟨q, 3, none⟩ = some (.int .i64 h) ∧
      W.cell? ⟨b1, 0, none⟩ = some (.int .i64 x) ∧ W.cell? ⟨b1, 1, none⟩ = some (.int .i64 y) ∧ W.cell? ⟨b2, 0, none⟩ = some (.int .i64 u) ∧ W.cell? ⟨b2, 1, none⟩ = some (.int .i64 v)) :
    q < w1.heap.size ∧ b1 < w1.heap.size ∧ b2 < w1.heap.size ∧ Below wb.heap.size wb w1 ∧ w1.cell? ⟨q, 0, none⟩ = some (.int .i64 e) ∧ w1.cell? ⟨q, 1, none⟩ = some (.int .i64 f) ∧ w1.cell? ⟨q, 2, none⟩ = some (.int .i64 g) ∧ w1.cell? ⟨q, 3, none⟩ = some (.int .i64 h) ∧
      w1.cell? ⟨b1, 0, none⟩ = some (.int .i64 x) ∧ w1.cell? ⟨b1, 1, none⟩ = some (.int .i64 y) ∧ w1.cell? ⟨b2, 0, none⟩ = some (.int .i64 u) ∧ w1.cell? ⟨b2, 1, none⟩ = some (.int .i64 v) :=
  keepPB (o1 := 0) (o2 := 0) hb H

/-- What the region of the two leaves reads, kept. -/
theorem keep14 {wc W w1 : World} {p r : Nat} {x0 y0 x1 y1 u0 v0 u1 v1 : Int} (hb : Below W.heap.size W w1) (H : p + 1 < wc.heap.size ∧ r + 1 < wc.heap.size ∧ Below wc.heap.size wc W ∧ W.cell? ⟨p, 0, none⟩ = some (.int .i64 x0) ∧ W.cell? ⟨p, 1, none⟩ = some (.int .i64 y0) ∧ W.cell? ⟨p + 1, 0, none⟩ = some (.int .i64 x1) ∧ W.cell? ⟨p + 1, 1, none⟩ = some (.int .i64 y1) ∧ W.cell? ⟨r, 0, none⟩ = some (.int .i64 u0) ∧ W.cell? ⟨r, 1, none⟩ = some (.int .i64 v0) ∧ W.cell? ⟨r + 1, 0, none⟩ = some (.int .i64 u1) ∧ W.cell? ⟨r + 1, 1, none⟩ = some (.int .i64 v1)) : p + 1 < wc.heap.size ∧ r + 1 < wc.heap.size ∧ Below wc.heap.size wc w1 ∧ w1.cell? ⟨p, 0, none⟩ = some (.int .i64 x0) ∧ w1.cell? ⟨p, 1, none⟩ = some (.int .i64 y0) ∧ w1.cell? ⟨p + 1, 0, none⟩ = some (.int .i64 x1) ∧ w1.cell? ⟨p + 1, 1, none⟩ = some (.int .i64 y1) ∧ w1.cell? ⟨r, 0, none⟩ = some (.int .i64 u0) ∧ w1.cell? ⟨r, 1, none⟩ = some (.int .i64 v0) ∧ w1.cell? ⟨r + 1, 0, none⟩ = some (.int .i64 u1) ∧ w1.cell? ⟨r + 1, 1, none⟩ = some (.int .i64 v1) := by
  obtain ⟨z1, z2, hB, h0, h1, h2, h3, h4, h5, h6, h7⟩ := H
  have hs := hB.size
  exact ⟨z1, z2, belowNext hB hb, cellThru hb (by omega) h0, cellThru hb (by omega) h1, cellThru hb (by omega) h2, cellThru hb (by omega) h3, cellThru hb (by omega) h4, cellThru hb (by omega) h5, cellThru hb (by omega) h6, cellThru hb (by omega) h7⟩
theorem keep14a {wc W : World} {p r : Nat} {x0 y0 x1 y1 u0 v0 u1 v1 : Int} {o : Obj} (H : p + 1 < wc.heap.size ∧ r + 1 < wc.heap.size ∧ Below wc.heap.size wc W ∧ W.cell? ⟨p, 0, none⟩ = some (.int .i64 x0) ∧ W.cell? ⟨p, 1, none⟩ = some (.int .i64 y0) ∧ W.cell? ⟨p + 1, 0, none⟩ = some (.int .i64 x1) ∧ W.cell? ⟨p + 1, 1, none⟩ = some (.int .i64 y1) ∧ W.cell? ⟨r, 0, none⟩ = some (.int .i64 u0) ∧ W.cell? ⟨r, 1, none⟩ = some (.int .i64 v0) ∧ W.cell? ⟨r + 1, 0, none⟩ = some (.int .i64 u1) ∧ W.cell? ⟨r + 1, 1, none⟩ = some (.int .i64 v1)) : p + 1 < wc.heap.size ∧ r + 1 < wc.heap.size ∧ Below wc.heap.size wc (W.alloc o) ∧ (W.alloc o).cell? ⟨p, 0, none⟩ = some (.int .i64 x0) ∧ (W.alloc o).cell? ⟨p, 1, none⟩ = some (.int .i64 y0) ∧ (W.alloc o).cell? ⟨p + 1, 0, none⟩ = some (.int .i64 x1) ∧ (W.alloc o).cell? ⟨p + 1, 1, none⟩ = some (.int .i64 y1) ∧ (W.alloc o).cell? ⟨r, 0, none⟩ = some (.int .i64 u0) ∧ (W.alloc o).cell? ⟨r, 1, none⟩ = some (.int .i64 v0) ∧ (W.alloc o).cell? ⟨r + 1, 0, none⟩ = some (.int .i64 u1) ∧ (W.alloc o).cell? ⟨r + 1, 1, none⟩ = some (.int .i64 v1) := keep14 (belowAlloc (Below.refl _ _) o) H
theorem keep14d {wc W : World} {p r : Nat} {x0 y0 x1 y1 u0 v0 u1 v1 : Int} (H : p + 1 < wc.heap.size ∧ r + 1 < wc.heap.size ∧ Below wc.heap.size wc W ∧ W.cell? ⟨p, 0, none⟩ = some (.int .i64 x0) ∧ W.cell? ⟨p, 1, none⟩ = some (.int .i64 y0) ∧ W.cell? ⟨p + 1, 0, none⟩ = some (.int .i64 x1) ∧ W.cell? ⟨p + 1, 1, none⟩ = some (.int .i64 y1) ∧ W.cell? ⟨r, 0, none⟩ = some (.int .i64 u0) ∧ W.cell? ⟨r, 1, none⟩ = some (.int .i64 v0) ∧ W.cell? ⟨r + 1, 0, none⟩ = some (.int .i64 u1) ∧ W.cell? ⟨r + 1, 1, none⟩ = some (.int .i64 v1)) : p + 1 < wc.heap.size ∧ r + 1 < wc.heap.size ∧ Below wc.heap.size wc W.drew ∧ W.drew.cell? ⟨p, 0, none⟩ = some (.int .i64 x0) ∧ W.drew.cell? ⟨p, 1, none⟩ = some (.int .i64 y0) ∧ W.drew.cell? ⟨p + 1, 0, none⟩ = some (.int .i64 x1) ∧ W.drew.cell? ⟨p + 1, 1, none⟩ = some (.int .i64 y1) ∧ W.drew.cell? ⟨r, 0, none⟩ = some (.int .i64 u0) ∧ W.drew.cell? ⟨r, 1, none⟩ = some (.int .i64 v0) ∧ W.drew.cell? ⟨r + 1, 0, none⟩ = some (.int .i64 u1) ∧ W.drew.cell? ⟨r + 1, 1, none⟩ = some (.int .i64 v1) := keep14 (Below.refl _ _).drew H
theorem keep14s {wc W : World} {p r : Nat} {x0 y0 x1 y1 u0 v0 u1 v1 : Int} {a : Addr} {t : Value} (ha : wc.heap.size ≤ a.block) (H : p + 1 < wc.heap.size ∧ r + 1 < wc.heap.size ∧ Below wc.heap.size wc W ∧ W.cell? ⟨p, 0, none⟩ = some (.int .i64 x0) ∧ W.cell? ⟨p, 1, none⟩ = some (.int .i64 y0) ∧ W.cell? ⟨p + 1, 0, none⟩ = some (.int .i64 x1) ∧ W.cell? ⟨p + 1, 1, none⟩ = some (.int .i64 y1) ∧ W.cell? ⟨r, 0, none⟩ = some (.int .i64 u0) ∧ W.cell? ⟨r, 1, none⟩ = some (.int .i64 v0) ∧ W.cell? ⟨r + 1, 0, none⟩ = some (.int .i64 u1) ∧ W.cell? ⟨r + 1, 1, none⟩ = some (.int .i64 v1)) : p + 1 < wc.heap.size ∧ r + 1 < wc.heap.size ∧ Below wc.heap.size wc (W.setCell a t) ∧ (W.setCell a t).cell? ⟨p, 0, none⟩ = some (.int .i64 x0) ∧ (W.setCell a t).cell? ⟨p, 1, none⟩ = some (.int .i64 y0) ∧ (W.setCell a t).cell? ⟨p + 1, 0, none⟩ = some (.int .i64 x1) ∧ (W.setCell a t).cell? ⟨p + 1, 1, none⟩ = some (.int .i64 y1) ∧ (W.setCell a t).cell? ⟨r, 0, none⟩ = some (.int .i64 u0) ∧ (W.setCell a t).cell? ⟨r, 1, none⟩ = some (.int .i64 v0) ∧ (W.setCell a t).cell? ⟨r + 1, 0, none⟩ = some (.int .i64 u1) ∧ (W.setCell a t).cell? ⟨r + 1, 1, none⟩ = some (.int .i64 v1) := by
  obtain ⟨z1, z2, hB, h0, h1, h2, h3, h4, h5, h6, h7⟩ := H
  refine ⟨z1, z2, hB.setCell ha t, ?_, ?_, ?_, ?_, ?_, ?_, ?_, ?_⟩
  · rw [World.cell?_setCell_other _ _ _ _ (fun e => by subst e; simp at ha <;> omega)]; exact h0
  · rw [World.cell?_setCell_other _ _ _ _ (fun e => by subst e; simp at ha <;> omega)]; exact h1
  · rw [World.cell?_setCell_other _ _ _ _ (fun e => by subst e; simp at ha <;> omega)]; exact h2
  · rw [World.cell?_setCell_other _ _ _ _ (fun e => by subst e; simp at ha <;> omega)]; exact h3
  · rw [World.cell?_setCell_other _ _ _ _ (fun e => by subst e; simp at ha <;> omega)]; exact h4
  · rw [World.cell?_setCell_other _ _ _ _ (fun e => by subst e; simp at ha <;> omega)]; exact h5
  · rw [World.cell?_setCell_other _ _ _ _ (fun e => by subst e; simp at ha <;> omega)]; exact h6
  · rw [World.cell?_setCell_other _ _ _ _ (fun e => by subst e; simp at ha <;> omega)]; exact h7

theorem swap_cells {W : World} {p r B : Nat} {x0 y0 x1 y1 u0 v0 u1 v1 : Int} {d0 d1 d2 d3 : Value} {o : Obj} (hp : p + 1 < r) (hr : r + 1 < W.heap.size) (hB : B ≤ r)
    (a0 : W.cell? ⟨p, 0, none⟩ = some (.int .i64 x0)) (a1 : W.cell? ⟨p, 1, none⟩ = some (.int .i64 y0)) (a2 : W.cell? ⟨p + 1, 0, none⟩ = some (.int .i64 x1)) (a3 : W.cell? ⟨p + 1, 1, none⟩ = some (.int .i64 y1))
    (c0 : W.cell? ⟨r, 0, none⟩ = some d0) (c1 : W.cell? ⟨r, 1, none⟩ = some d1) (c2 : W.cell? ⟨r + 1, 0, none⟩ = some d2) (c3 : W.cell? ⟨r + 1, 1, none⟩ = some d3)
    (wc : World) (hw : (((((W.setCell ⟨r, 0, none⟩ (.int .i64 u0)).setCell ⟨r, 1, none⟩ (.int .i64 v0)).setCell ⟨r + 1, 0, none⟩ (.int .i64 u1)).setCell ⟨r + 1, 1, none⟩ (.int .i64 v1)).alloc o) = wc) :
    Below B W wc ∧ W.heap.size < wc.heap.size ∧ wc.cell? ⟨p, 0, none⟩ = some (.int .i64 x0) ∧ wc.cell? ⟨p, 1, none⟩ = some (.int .i64 y0) ∧ wc.cell? ⟨p + 1, 0, none⟩ = some (.int .i64 x1) ∧ wc.cell? ⟨p + 1, 1, none⟩ = some (.int .i64 y1) ∧ wc.cell? ⟨r, 0, none⟩ = some (.int .i64 u0) ∧ wc.cell? ⟨r, 1, none⟩ = some (.int .i64 v0) ∧ wc.cell? ⟨r + 1, 0, none⟩ = some (.int .i64 u1) ∧ wc.cell? ⟨r + 1, 1, none⟩ = some (.int .i64 v1) := by
  subst hw
  refine ⟨?_, by simp, ?_, ?_, ?_, ?_, ?_, ?_, ?_, ?_⟩
  · exact ((((((Below.refl B W).setCell (by exact hB) _).setCell (by exact hB) _).setCell (by dsimp only; omega) _).setCell (by dsimp only; omega) _).alloc (by simp; omega) _)
  all_goals
    rw [World.cell?_alloc_lt _ _ _ (by simp; omega)]
  · rw [World.cell?_setCell_other _ _ _ _ (by intro e; injection e; omega), World.cell?_setCell_other _ _ _ _ (by intro e; injection e; omega), World.cell?_setCell_other _ _ _ _ (by intro e; injection e; omega), World.cell?_setCell_other _ _ _ _ (by intro e; injection e; omega)]; exact a0
  · rw [World.cell?_setCell_other _ _ _ _ (by intro e; injection e; omega), World.cell?_setCell_other _ _ _ _ (by intro e; injection e; omega), World.cell?_setCell_other _ _ _ _ (by intro e; injection e; omega), World.cell?_setCell_other _ _ _ _ (by intro e; injection e; omega)]; exact a1
  · rw [World.cell?_setCell_other _ _ _ _ (by intro e; injection e; omega), World.cell?_setCell_other _ _ _ _ (by intro e; injection e; omega), World.cell?_setCell_other _ _ _ _ (by intro e; injection e; omega), World.cell?_setCell_other _ _ _ _ (by intro e; injection e; omega)]; exact a2
  · rw [World.cell?_setCell_other _ _ _ _ (by intro e; injection e; omega), World.cell?_setCell_other _ _ _ _ (by intro e; injection e; omega), World.cell?_setCell_other _ _ _ _ (by intro e; injection e; omega), World.cell?_setCell_other _ _ _ _ (by intro e; injection e; omega)]; exact a3
  · rw [World.cell?_setCell_other _ _ _ _ (by intro e; injection e; omega), World.cell?_setCell_other _ _ _ _ (by intro e; injection e; omega), World.cell?_setCell_other _ _ _ _ (by intro e; injection e; omega)]; exact World.cell?_setCell_same _ _ _ c0
  · rw [World.cell?_setCell_other _ _ _ _ (by intro e; injection e; omega), World.cell?_setCell_other _ _ _ _ (by intro e; injection e; omega)]; exact World.cell?_setCell_same _ _ _ ((World.cell?_setCell_other _ _ _ _ (by intro e; injection e; omega)).trans c1)
  · rw [World.cell?_setCell_other _ _ _ _ (by intro e; injection e; omega)]; exact World.cell?_setCell_same _ _ _ ((World.cell?_setCell_other _ _ _ _ (by intro e; injection e; omega)).trans ((World.cell?_setCell_other _ _ _ _ (by intro e; injection e; omega)).trans c2))
  · exact World.cell?_setCell_same _ _ _ ((World.cell?_setCell_other _ _ _ _ (by intro e; injection e; omega)).trans ((World.cell?_setCell_other _ _ _ _ (by intro e; injection e; omega)).trans ((World.cell?_setCell_other _ _ _ _ (by intro e; injection e; omega)).trans c3)))

set_option maxRecDepth 30000 in
set_option maxHeartbeats 40000000 in
theorem specPb3 (a b c d e f g h : Int) (w : World) (h1 : pbOk a b c d e f g h = true) (h2 : pbSt a b c d e f g h = false) (h3 : pbHal a b c d = true) (h4 : pbSw a b c d e f g h = false) :
    Calls Try.prog 36 #[leafV a b c d, leafV e f g h] w (ResLf w (pbL a b c d e f g h) (pbC a b c d e f g h)) := by
  have H1 := Lib.hid (fun w => specLf1 a b c d w)
  have H2 := Lib.hid (fun w => specLf1 e f g h w)
  have hl : isLf a b c d = true := by unfold pbOk at h1; rw [Bool.and_eq_true] at h1; exact h1.1
  have hd : isLf e f g h = true := by unfold pbOk at h1; rw [Bool.and_eq_true] at h1; exact h1.2
  obtain ⟨r1, r2, hlt⟩ := isLf_yes hl
  obtain ⟨r3, r4, -⟩ := isLf_yes hd
  rw [hl] at H1
  rw [hd] at H2
  have HD := Lib.hid (fun w => specDbl e f w r3.1 r3.2.1 r3.2.2.1 (by obtain ⟨_, _, _, _⟩ := r3; omega))
  have HI := Lib.hid (fun w => specDia e f g h w (okOf r3) (okOf r4))
  have Q1 := fun W => eqlAng a b (redN (2 * e) f) (redD (2 * e) f) W
  have Q2 := fun W => eqlAng c d (redN (2 * e) f) (redD (2 * e) f) W
  rw [eqA_comm a b (redN (2 * e) f)] at Q1
  rw [eqA_comm c d (redN (2 * e) f)] at Q2
  have h2' := h2
  unfold pbSt at h2'
  rcases st_cases (diaB e f g h) (eqA (redN (2 * e) f) (redD (2 * e) f) a b) (eqA (redN (2 * e) f) (redD (2 * e) f) c d) with ⟨s1, s4⟩ | ⟨s1, s2, s4⟩ | ⟨s1, s2, s3, s4⟩ | ⟨s1, s2, s3, s4⟩
  · rw [s4] at h2'; cases h2'
  · rw [s4] at h2'; cases h2'
  · rw [s4] at h2'; cases h2'
  rw [s1] at HI
  rw [s2] at Q1
  rw [s3] at Q2
  clear s1 s2 s3 s4 h2'
  have HX := Lib.hid (fun w => specHal3 a b w (okOf r1))
  have HY := Lib.hid (fun w => specHal3 c d w (okOf r2))
  obtain ⟨E1, E2⟩ := pb_ns h1 h2 h3 h4
  rw [E1, E2]
  have j1 : halOk a b = true := by unfold pbHal at h3; rw [Bool.and_eq_true] at h3; exact h3.1
  have j2 : halOk c d = true := by unfold pbHal at h3; rw [Bool.and_eq_true] at h3; exact h3.2
  rw [j1] at HX
  rw [j2] at HY
  have g1 : redD a (2 * b) ≤ 8191 ∧ redD (a + b) (2 * b) ≤ 8191 := by unfold halOk at j1; exact of_decide_eq_true j1
  have g2 : redD c (2 * d) ≤ 8191 ∧ redD (c + d) (2 * d) ≤ 8191 := by unfold halOk at j2; exact of_decide_eq_true j2
  have o1 := redRed (n := a) (m := 2 * b) (by have := r1.1; dsimp only at this; omega) g1.1
  have o2 := redRed (n := a + b) (m := 2 * b) (by have := r1.1; dsimp only at this; omega) g1.2
  have o3 := redRed (n := c) (m := 2 * d) (by have := r2.1; dsimp only at this; omega) g2.1
  have o4 := redRed (n := c + d) (m := 2 * d) (by have := r2.1; dsimp only at this; omega) g2.2
  obtain ⟨w1', w2', w3'⟩ := half_order r1 r2 hlt
  have HR1 := Lib.hid (fun w => specArc (redN a (2 * b)) (redD a (2 * b)) e f g h w (okOf o1) (okOf r3) (okOf r4))
  have HR2 := Lib.hid (fun w => specArc (redN c (2 * d)) (redD c (2 * d)) e f g h w (okOf o3) (okOf r3) (okOf r4))
  unfold pbSw at h4
  clear j1 j2 h3 E1 E2 hl hd r1 r2 r3 r4 h1 h2 g1 g2 hlt
  generalize redN a (2 * b) = x0 at *
  generalize redD a (2 * b) = y0 at *
  generalize redN (a + b) (2 * b) = x1 at *
  generalize redD (a + b) (2 * b) = y1 at *
  generalize redN c (2 * d) = u0 at *
  generalize redD c (2 * d) = v0 at *
  generalize redN (c + d) (2 * d) = u1 at *
  generalize redD (c + d) (2 * d) = v1 at *
  have HL1 := Lib.hid (fun w => specLBX x0 y0 u0 v0 w (okOf o1) (okOf o3) (apart_of o1 o3))
  have HL2 := Lib.hid (fun w => specLBX x1 y1 u1 v1 w (okOf o2) (okOf o4) (apart_of o2 o4))
  have HL3 := Lib.hid (fun w => specLessL _ _ _ _ _ _ _ _ w (lf_ok (okOf o2) (okOf o4)).1 (lf_ok (okOf o2) (okOf o4)).2 (lf_ok (okOf o1) (okOf o3)).1 (lf_ok (okOf o1) (okOf o3)).2)
  rw [less_no w1' w3' w2'] at HL3
  clear o1 o2 o3 o4 w1' w2' w3'
  generalize z1 : lf4 x0 y0 u0 v0 = F1 at *
  generalize z2 : lf4 x1 y1 u1 v1 = F2 at *
  obtain ⟨p1, p2, p3, p4⟩ := F1
  obtain ⟨q1, q2, q3, q4⟩ := F2
  obtain ⟨t1, t2, t3, t4⟩ := lf4_eq z1
  rw [t1, t2, t3, t4] at HL1 HL3
  clear t1 t2 t3 t4 z1
  obtain ⟨t1, t2, t3, t4⟩ := lf4_eq z2
  rw [t1, t2, t3, t4] at HL2 HL3
  clear t1 t2 t3 t4 z2
  generalize arcB x0 y0 e f g h = U1 at *
  generalize arcB u0 v0 e f g h = U2 at *
  obtain rfl : U2 = U1 := by cases U1 <;> cases U2 <;> first | rfl | cases h4
  clear h4
  generalize redN (2 * e) f = X at *
  generalize redD (2 * e) f = Y at *
  go_enter Try.func36, Try.ntmps36
  go_wp2_with fail
  refine (H1.out _).mono ?_
  rintro e w1 ⟨rfl, hb1⟩
  obtain ⟨hc1, hf1⟩ := bcell hb1
  have hz1_0 : w.heap.size < w1.heap.size := by have := hb1.size; first | omega | (simp at this; omega)
  have hz1_1 : w.heap.size + 1 < w1.heap.size := by have := hb1.size; first | omega | (simp at this; omega)
  have q1_1_0 : w1.cell? ⟨w.heap.size + 1, 0, none⟩ = some (.int .i64 e) := cellThru hb1 (by simp <;> omega) (by simp [go_sem])
  have q1_1_1 : w1.cell? ⟨w.heap.size + 1, 1, none⟩ = some (.int .i64 f) := cellThru hb1 (by simp <;> omega) (by simp [go_sem])
  have q1_1_2 : w1.cell? ⟨w.heap.size + 1, 2, none⟩ = some (.int .i64 g) := cellThru hb1 (by simp <;> omega) (by simp [go_sem])
  have q1_1_3 : w1.cell? ⟨w.heap.size + 1, 3, none⟩ = some (.int .i64 h) := cellThru hb1 (by simp <;> omega) (by simp [go_sem])
  go_wp2_with fail
  refine (H2.out _).mono ?_
  rintro e w2 ⟨rfl, hb2⟩
  obtain ⟨hc2, hf2⟩ := bcell hb2
  have hz2_0 : w.heap.size < w2.heap.size := by have := hb2.size; first | omega | (simp at this; omega)
  have hz2_1 : w.heap.size + 1 < w2.heap.size := by have := hb2.size; first | omega | (simp at this; omega)
  have q2_1_0 : w2.cell? ⟨w.heap.size + 1, 0, none⟩ = some (.int .i64 e) := by first | exact cellThru hb2 hz1_1 q1_1_0 | (refine cellThru hb2 ?_ (cellThru (belowAlloc (Below.refl _ _) _) hz1_1 q1_1_0); first | omega | (simp; omega)) | (refine cellThru hb2 ?_ (cellThru (belowAlloc (belowAlloc (Below.refl _ _) _) _) hz1_1 q1_1_0); first | omega | (simp; omega)) | (refine cellThru hb2 ?_ ?_; (first | omega | (simp; omega) | go_size); simp [go_sem, q1_1_0])
  have q2_1_1 : w2.cell? ⟨w.heap.size + 1, 1, none⟩ = some (.int .i64 f) := by first | exact cellThru hb2 hz1_1 q1_1_1 | (refine cellThru hb2 ?_ (cellThru (belowAlloc (Below.refl _ _) _) hz1_1 q1_1_1); first | omega | (simp; omega)) | (refine cellThru hb2 ?_ (cellThru (belowAlloc (belowAlloc (Below.refl _ _) _) _) hz1_1 q1_1_1); first | omega | (simp; omega)) | (refine cellThru hb2 ?_ ?_; (first | omega | (simp; omega) | go_size); simp [go_sem, q1_1_1])
  have q2_1_2 : w2.cell? ⟨w.heap.size + 1, 2, none⟩ = some (.int .i64 g) := by first | exact cellThru hb2 hz1_1 q1_1_2 | (refine cellThru hb2 ?_ (cellThru (belowAlloc (Below.refl _ _) _) hz1_1 q1_1_2); first | omega | (simp; omega)) | (refine cellThru hb2 ?_ (cellThru (belowAlloc (belowAlloc (Below.refl _ _) _) _) hz1_1 q1_1_2); first | omega | (simp; omega)) | (refine cellThru hb2 ?_ ?_; (first | omega | (simp; omega) | go_size); simp [go_sem, q1_1_2])
  have q2_1_3 : w2.cell? ⟨w.heap.size + 1, 3, none⟩ = some (.int .i64 h) := by first | exact cellThru hb2 hz1_1 q1_1_3 | (refine cellThru hb2 ?_ (cellThru (belowAlloc (Below.refl _ _) _) hz1_1 q1_1_3); first | omega | (simp; omega)) | (refine cellThru hb2 ?_ (cellThru (belowAlloc (belowAlloc (Below.refl _ _) _) _) hz1_1 q1_1_3); first | omega | (simp; omega)) | (refine cellThru hb2 ?_ ?_; (first | omega | (simp; omega) | go_size); simp [go_sem, q1_1_3])
  go_wp2_with fail
  refine (HD.out _).mono ?_
  rintro e w3 ⟨rfl, hb3⟩
  obtain ⟨hc3, hf3⟩ := bcell hb3
  have hz3_0 : w.heap.size < w3.heap.size := by have := hb3.size; first | omega | (simp at this; omega)
  have hz3_1 : w.heap.size + 1 < w3.heap.size := by have := hb3.size; first | omega | (simp at this; omega)
  have q3_1_0 : w3.cell? ⟨w.heap.size + 1, 0, none⟩ = some (.int .i64 e) := by first | exact cellThru hb3 hz2_1 q2_1_0 | (refine cellThru hb3 ?_ (cellThru (belowAlloc (Below.refl _ _) _) hz2_1 q2_1_0); first | omega | (simp; omega)) | (refine cellThru hb3 ?_ (cellThru (belowAlloc (belowAlloc (Below.refl _ _) _) _) hz2_1 q2_1_0); first | omega | (simp; omega)) | (refine cellThru hb3 ?_ ?_; (first | omega | (simp; omega) | go_size); simp [go_sem, q2_1_0])
  have q3_1_1 : w3.cell? ⟨w.heap.size + 1, 1, none⟩ = some (.int .i64 f) := by first | exact cellThru hb3 hz2_1 q2_1_1 | (refine cellThru hb3 ?_ (cellThru (belowAlloc (Below.refl _ _) _) hz2_1 q2_1_1); first | omega | (simp; omega)) | (refine cellThru hb3 ?_ (cellThru (belowAlloc (belowAlloc (Below.refl _ _) _) _) hz2_1 q2_1_1); first | omega | (simp; omega)) | (refine cellThru hb3 ?_ ?_; (first | omega | (simp; omega) | go_size); simp [go_sem, q2_1_1])
  have q3_1_2 : w3.cell? ⟨w.heap.size + 1, 2, none⟩ = some (.int .i64 g) := by first | exact cellThru hb3 hz2_1 q2_1_2 | (refine cellThru hb3 ?_ (cellThru (belowAlloc (Below.refl _ _) _) hz2_1 q2_1_2); first | omega | (simp; omega)) | (refine cellThru hb3 ?_ (cellThru (belowAlloc (belowAlloc (Below.refl _ _) _) _) hz2_1 q2_1_2); first | omega | (simp; omega)) | (refine cellThru hb3 ?_ ?_; (first | omega | (simp; omega) | go_size); simp [go_sem, q2_1_2])
  have q3_1_3 : w3.cell? ⟨w.heap.size + 1, 3, none⟩ = some (.int .i64 h) := by first | exact cellThru hb3 hz2_1 q2_1_3 | (refine cellThru hb3 ?_ (cellThru (belowAlloc (Below.refl _ _) _) hz2_1 q2_1_3); first | omega | (simp; omega)) | (refine cellThru hb3 ?_ (cellThru (belowAlloc (belowAlloc (Below.refl _ _) _) _) hz2_1 q2_1_3); first | omega | (simp; omega)) | (refine cellThru hb3 ?_ ?_; (first | omega | (simp; omega) | go_size); simp [go_sem, q2_1_3])
  go_wp2_with fail
  refine (HI.out _).mono ?_
  rintro e w4 ⟨rfl, hb4⟩
  obtain ⟨hc4, hf4⟩ := bcell hb4
  have hz4_0 : w.heap.size < w4.heap.size := by have := hb4.size; first | omega | (simp at this; omega)
  have hz4_1 : w.heap.size + 1 < w4.heap.size := by have := hb4.size; first | omega | (simp at this; omega)
  have q4_1_0 : w4.cell? ⟨w.heap.size + 1, 0, none⟩ = some (.int .i64 e) := by first | exact cellThru hb4 hz3_1 q3_1_0 | (refine cellThru hb4 ?_ (cellThru (belowAlloc (Below.refl _ _) _) hz3_1 q3_1_0); first | omega | (simp; omega)) | (refine cellThru hb4 ?_ (cellThru (belowAlloc (belowAlloc (Below.refl _ _) _) _) hz3_1 q3_1_0); first | omega | (simp; omega)) | (refine cellThru hb4 ?_ ?_; (first | omega | (simp; omega) | go_size); simp [go_sem, q3_1_0])
  have q4_1_1 : w4.cell? ⟨w.heap.size + 1, 1, none⟩ = some (.int .i64 f) := by first | exact cellThru hb4 hz3_1 q3_1_1 | (refine cellThru hb4 ?_ (cellThru (belowAlloc (Below.refl _ _) _) hz3_1 q3_1_1); first | omega | (simp; omega)) | (refine cellThru hb4 ?_ (cellThru (belowAlloc (belowAlloc (Below.refl _ _) _) _) hz3_1 q3_1_1); first | omega | (simp; omega)) | (refine cellThru hb4 ?_ ?_; (first | omega | (simp; omega) | go_size); simp [go_sem, q3_1_1])
  have q4_1_2 : w4.cell? ⟨w.heap.size + 1, 2, none⟩ = some (.int .i64 g) := by first | exact cellThru hb4 hz3_1 q3_1_2 | (refine cellThru hb4 ?_ (cellThru (belowAlloc (Below.refl _ _) _) hz3_1 q3_1_2); first | omega | (simp; omega)) | (refine cellThru hb4 ?_ (cellThru (belowAlloc (belowAlloc (Below.refl _ _) _) _) hz3_1 q3_1_2); first | omega | (simp; omega)) | (refine cellThru hb4 ?_ ?_; (first | omega | (simp; omega) | go_size); simp [go_sem, q3_1_2])
  have q4_1_3 : w4.cell? ⟨w.heap.size + 1, 3, none⟩ = some (.int .i64 h) := by first | exact cellThru hb4 hz3_1 q3_1_3 | (refine cellThru hb4 ?_ (cellThru (belowAlloc (Below.refl _ _) _) hz3_1 q3_1_3); first | omega | (simp; omega)) | (refine cellThru hb4 ?_ (cellThru (belowAlloc (belowAlloc (Below.refl _ _) _) _) hz3_1 q3_1_3); first | omega | (simp; omega)) | (refine cellThru hb4 ?_ ?_; (first | omega | (simp; omega) | go_size); simp [go_sem, q3_1_3])
  have hE4 : w3.heap.size < w4.heap.size := by have := hb4.size; simp at this; omega
  go_wp2_with fail
  refine (HX.out _).mono ?_
  rintro e w5 ⟨rfl, hb5⟩
  obtain ⟨hc5, hf5⟩ := bcell hb5
  have hz5_0 : w.heap.size < w5.heap.size := by have := hb5.size; first | omega | (simp at this; omega)
  have hz5_1 : w.heap.size + 1 < w5.heap.size := by have := hb5.size; first | omega | (simp at this; omega)
  have q5_1_0 : w5.cell? ⟨w.heap.size + 1, 0, none⟩ = some (.int .i64 e) := by first | exact cellThru hb5 hz4_1 q4_1_0 | (refine cellThru hb5 ?_ (cellThru (belowAlloc (Below.refl _ _) _) hz4_1 q4_1_0); first | omega | (simp; omega)) | (refine cellThru hb5 ?_ (cellThru (belowAlloc (belowAlloc (Below.refl _ _) _) _) hz4_1 q4_1_0); first | omega | (simp; omega)) | (refine cellThru hb5 ?_ ?_; (first | omega | (simp; omega) | go_size); simp [go_sem, q4_1_0])
  have q5_1_1 : w5.cell? ⟨w.heap.size + 1, 1, none⟩ = some (.int .i64 f) := by first | exact cellThru hb5 hz4_1 q4_1_1 | (refine cellThru hb5 ?_ (cellThru (belowAlloc (Below.refl _ _) _) hz4_1 q4_1_1); first | omega | (simp; omega)) | (refine cellThru hb5 ?_ (cellThru (belowAlloc (belowAlloc (Below.refl _ _) _) _) hz4_1 q4_1_1); first | omega | (simp; omega)) | (refine cellThru hb5 ?_ ?_; (first | omega | (simp; omega) | go_size); simp [go_sem, q4_1_1])
  have q5_1_2 : w5.cell? ⟨w.heap.size + 1, 2, none⟩ = some (.int .i64 g) := by first | exact cellThru hb5 hz4_1 q4_1_2 | (refine cellThru hb5 ?_ (cellThru (belowAlloc (Below.refl _ _) _) hz4_1 q4_1_2); first | omega | (simp; omega)) | (refine cellThru hb5 ?_ (cellThru (belowAlloc (belowAlloc (Below.refl _ _) _) _) hz4_1 q4_1_2); first | omega | (simp; omega)) | (refine cellThru hb5 ?_ ?_; (first | omega | (simp; omega) | go_size); simp [go_sem, q4_1_2])
  have q5_1_3 : w5.cell? ⟨w.heap.size + 1, 3, none⟩ = some (.int .i64 h) := by first | exact cellThru hb5 hz4_1 q4_1_3 | (refine cellThru hb5 ?_ (cellThru (belowAlloc (Below.refl _ _) _) hz4_1 q4_1_3); first | omega | (simp; omega)) | (refine cellThru hb5 ?_ (cellThru (belowAlloc (belowAlloc (Below.refl _ _) _) _) hz4_1 q4_1_3); first | omega | (simp; omega)) | (refine cellThru hb5 ?_ ?_; (first | omega | (simp; omega) | go_size); simp [go_sem, q4_1_3])
  have hA5 : w4.heap.size ≤ w5.heap.size := hb5.size
  go_wp2_with fail
  refine (HY.out _).mono ?_
  rintro e w6 ⟨rfl, hb6⟩
  obtain ⟨hc6, hf6⟩ := bcell hb6
  have hz6_0 : w.heap.size < w6.heap.size := by have := hb6.size; first | omega | (simp at this; omega)
  have hz6_1 : w.heap.size + 1 < w6.heap.size := by have := hb6.size; first | omega | (simp at this; omega)
  have q6_1_0 : w6.cell? ⟨w.heap.size + 1, 0, none⟩ = some (.int .i64 e) := by first | exact cellThru hb6 hz5_1 q5_1_0 | (refine cellThru hb6 ?_ (cellThru (belowAlloc (Below.refl _ _) _) hz5_1 q5_1_0); first | omega | (simp; omega)) | (refine cellThru hb6 ?_ (cellThru (belowAlloc (belowAlloc (Below.refl _ _) _) _) hz5_1 q5_1_0); first | omega | (simp; omega)) | (refine cellThru hb6 ?_ ?_; (first | omega | (simp; omega) | go_size); simp [go_sem, q5_1_0])
  have q6_1_1 : w6.cell? ⟨w.heap.size + 1, 1, none⟩ = some (.int .i64 f) := by first | exact cellThru hb6 hz5_1 q5_1_1 | (refine cellThru hb6 ?_ (cellThru (belowAlloc (Below.refl _ _) _) hz5_1 q5_1_1); first | omega | (simp; omega)) | (refine cellThru hb6 ?_ (cellThru (belowAlloc (belowAlloc (Below.refl _ _) _) _) hz5_1 q5_1_1); first | omega | (simp; omega)) | (refine cellThru hb6 ?_ ?_; (first | omega | (simp; omega) | go_size); simp [go_sem, q5_1_1])
  have q6_1_2 : w6.cell? ⟨w.heap.size + 1, 2, none⟩ = some (.int .i64 g) := by first | exact cellThru hb6 hz5_1 q5_1_2 | (refine cellThru hb6 ?_ (cellThru (belowAlloc (Below.refl _ _) _) hz5_1 q5_1_2); first | omega | (simp; omega)) | (refine cellThru hb6 ?_ (cellThru (belowAlloc (belowAlloc (Below.refl _ _) _) _) hz5_1 q5_1_2); first | omega | (simp; omega)) | (refine cellThru hb6 ?_ ?_; (first | omega | (simp; omega) | go_size); simp [go_sem, q5_1_2])
  have q6_1_3 : w6.cell? ⟨w.heap.size + 1, 3, none⟩ = some (.int .i64 h) := by first | exact cellThru hb6 hz5_1 q5_1_3 | (refine cellThru hb6 ?_ (cellThru (belowAlloc (Below.refl _ _) _) hz5_1 q5_1_3); first | omega | (simp; omega)) | (refine cellThru hb6 ?_ (cellThru (belowAlloc (belowAlloc (Below.refl _ _) _) _) hz5_1 q5_1_3); first | omega | (simp; omega)) | (refine cellThru hb6 ?_ ?_; (first | omega | (simp; omega) | go_size); simp [go_sem, q5_1_3])
  have hA6 : w5.heap.size + 1 < w6.heap.size := by have := hb6.size; simp at this; omega
  have a0 : w6.cell? ⟨w5.heap.size, 0, none⟩ = some (.int .i64 x0) := cellThru hb6 (by simp <;> omega) (by simp [go_sem])
  have a1 : w6.cell? ⟨w5.heap.size, 1, none⟩ = some (.int .i64 y0) := cellThru hb6 (by simp <;> omega) (by simp [go_sem])
  have a2 : w6.cell? ⟨w5.heap.size + 1, 0, none⟩ = some (.int .i64 x1) := cellThru hb6 (by simp <;> omega) (by simp [go_sem])
  have a3 : w6.cell? ⟨w5.heap.size + 1, 1, none⟩ = some (.int .i64 y1) := cellThru hb6 (by simp <;> omega) (by simp [go_sem])
  have hB6 : Below w.heap.size w w6 := by
    (repeat' (first | (with_reducible exact Below.refl _ _) | (with_reducible assumption) | (with_reducible refine belowNext ?_ (by with_reducible assumption)) | (with_reducible refine belowAlloc ?_ _) | (with_reducible refine Below.drew ?_) | (with_reducible refine below_drewN ?_ _) | (with_reducible refine Below.setCell ?_ ?_ _) | go_size | (with_reducible refine sizeOf' ?_) | (with_reducible refine sizeAdd ?_) | (dsimp only; first | (with_reducible refine sizeOf' ?_) | (with_reducible refine sizeAdd ?_))))
  have hz6 : w.heap.size ≤ w6.heap.size := hB6.size
  go_wp2_with fail
  generalize hw9 : ((w6.alloc (.cells #[.int .i64 u0, .int .i64 v0] 29)).alloc (.cells #[.int .i64 u1, .int .i64 v1] 29)) = w9
  have B69 : Below w6.heap.size w6 w9 := by rw [← hw9]; exact belowAlloc (belowAlloc (Below.refl _ _) _) _
  have hC9 : w6.heap.size + 1 < w9.heap.size := by rw [← hw9]; simp
  have c0 : w9.cell? ⟨w6.heap.size, 0, none⟩ = some (.int .i64 u0) := by rw [← hw9]; simp [go_sem]
  have c1 : w9.cell? ⟨w6.heap.size, 1, none⟩ = some (.int .i64 v0) := by rw [← hw9]; simp [go_sem]
  have c2 : w9.cell? ⟨w6.heap.size + 1, 0, none⟩ = some (.int .i64 u1) := by rw [← hw9]; simp [go_sem]
  have c3 : w9.cell? ⟨w6.heap.size + 1, 1, none⟩ = some (.int .i64 v1) := by rw [← hw9]; simp [go_sem]
  have f0 : w9.frozen? ⟨w6.heap.size, 0, none⟩ = false := by rw [← hw9]; simp [go_sem]
  have f1 : w9.frozen? ⟨w6.heap.size, 1, none⟩ = false := by rw [← hw9]; simp [go_sem]
  have f2 : w9.frozen? ⟨w6.heap.size + 1, 0, none⟩ = false := by rw [← hw9]; simp [go_sem]
  have f3 : w9.frozen? ⟨w6.heap.size + 1, 1, none⟩ = false := by rw [← hw9]; simp [go_sem]
  have a0' := cellThru B69 (by omega) a0
  have a1' := cellThru B69 (by omega) a1
  have a2' := cellThru B69 (by omega) a2
  have a3' := cellThru B69 (by omega) a3
  have q0' := cellThru B69 hz6_1 q6_1_0
  have q1' := cellThru B69 hz6_1 q6_1_1
  have q2' := cellThru B69 hz6_1 q6_1_2
  have q3' := cellThru B69 hz6_1 q6_1_3
  have hB9 : Below w.heap.size w w9 := belowNext hB6 B69
  have y1' : w.heap.size + 1 < w9.heap.size := by omega
  have y2' : w5.heap.size < w9.heap.size := by omega
  have y3' : w6.heap.size < w9.heap.size := by omega
  clear hw9 a0 a1 a2 a3 q1_1_0 q1_1_1 q1_1_2 q1_1_3 q2_1_0 q2_1_1 q2_1_2 q2_1_3 q3_1_0 q3_1_1 q3_1_2 q3_1_3 q4_1_0 q4_1_1 q4_1_2 q4_1_3 q5_1_0 q5_1_1 q5_1_2 q5_1_3 q6_1_0 q6_1_1 q6_1_2 q6_1_3 hc1 hf1 hc2 hf2 hc3 hf3 hc4 hf4 hc5 hf5 hc6 hf6 H1 H2 HD HI HX HY Q1 Q2 hb1 hb2 hb3 hb4 hb5 hb6 hE4 hB6 B69
  go_region_held3 (fun w' => w.heap.size + 1 < w'.heap.size ∧ w5.heap.size < w'.heap.size ∧ w6.heap.size < w'.heap.size ∧ Below w9.heap.size w9 w' ∧ w'.cell? ⟨w.heap.size + 1, 0, none⟩ = some (.int .i64 e) ∧ w'.cell? ⟨w.heap.size + 1, 1, none⟩ = some (.int .i64 f) ∧ w'.cell? ⟨w.heap.size + 1, 2, none⟩ = some (.int .i64 g) ∧ w'.cell? ⟨w.heap.size + 1, 3, none⟩ = some (.int .i64 h) ∧
      w'.cell? ⟨w5.heap.size, 0, none⟩ = some (.int .i64 x0) ∧ w'.cell? ⟨w5.heap.size, 1, none⟩ = some (.int .i64 y0) ∧ w'.cell? ⟨w6.heap.size, 0, none⟩ = some (.int .i64 u0) ∧ w'.cell? ⟨w6.heap.size, 1, none⟩ = some (.int .i64 v0))
      (first | assumption | exact keepPB0 (by assumption) (by assumption) | exact ⟨y1', y2', y3', (Below.refl _ _).drew, q0', q1', q2', q3', a0', a1', c0, c1⟩ | exact keepPB0 (by assumption) ⟨y1', y2', y3', (Below.refl _ _).drew, q0', q1', q2', q3', a0', a1', c0, c1⟩)
      (first
      | (go_at_call 83; (with_reducible refine (HR1.out _).mono ?_); rintro e' w10 ⟨rfl, hb10⟩)
      | (go_at_call 83; (with_reducible refine (HR2.out _).mono ?_); rintro e' w11 ⟨rfl, hb11⟩))
  rename_i hHeld
  have B := hHeld.2.2.2.1
  clear hHeld hb10 hb11 HR1 HR2 q0' q1' q2' q3'
  have hs9 := B.size
  have a0 := cellThru B y2' a0'
  have a1 := cellThru B y2' a1'
  have a2 := cellThru B (by omega) a2'
  have a3 := cellThru B (by omega) a3'
  have c0' := cellThru B y3' c0
  have c1' := cellThru B y3' c1
  have c2' := cellThru B hC9 c2
  have c3' := cellThru B hC9 c3
  have f0' := frozThru B y3' f0
  have f1' := frozThru B y3' f1
  have f2' := frozThru B hC9 f2
  have f3' := frozThru B hC9 f3
  have hB11 := belowNext hB9 B
  have x1' := Nat.lt_of_lt_of_le y2' hs9
  have x2' := Nat.lt_of_lt_of_le y3' hs9
  have x3' := Nat.lt_of_lt_of_le hC9 hs9
  have x4' := Nat.lt_of_lt_of_le (Nat.lt_trans hA6 (Nat.lt_of_succ_lt hC9)) hs9
  clear a0' a1' a2' a3' c0 c1 c2 c3 f0 f1 f2 f3 hB9 B
  go_upto_region 14 with fail
  have k0 := a0
  have k1 := a1
  have k2 := a2
  have k3 := a3
  have k4 := c0'
  have k5 := c1'
  have k6 := c2'
  have k7 := c3'
  have hBc := hB11
  have z1 := x4'
  have z2 := x3'
  generalize w11 = wc at *
  clear a0 a1 a2 a3 c0' c1' c2' c3' f0' f1' f2' f3' hB11 x1' x2' x3' x4' hs9 y1' y2' y3' hC9
  have H0 : w5.heap.size + 1 < wc.heap.size ∧ w6.heap.size + 1 < wc.heap.size ∧ Below wc.heap.size wc wc ∧ wc.cell? ⟨w5.heap.size, 0, none⟩ = some (.int .i64 x0) ∧ wc.cell? ⟨w5.heap.size, 1, none⟩ = some (.int .i64 y0) ∧ wc.cell? ⟨w5.heap.size + 1, 0, none⟩ = some (.int .i64 x1) ∧ wc.cell? ⟨w5.heap.size + 1, 1, none⟩ = some (.int .i64 y1) ∧ wc.cell? ⟨w6.heap.size, 0, none⟩ = some (.int .i64 u0) ∧ wc.cell? ⟨w6.heap.size, 1, none⟩ = some (.int .i64 v0) ∧ wc.cell? ⟨w6.heap.size + 1, 0, none⟩ = some (.int .i64 u1) ∧ wc.cell? ⟨w6.heap.size + 1, 1, none⟩ = some (.int .i64 v1) := ⟨z1, z2, Below.refl _ _, k0, k1, k2, k3, k4, k5, k6, k7⟩
  clear k0 k1 k2 k3 k4 k5 k6 k7
  go_cut [14, 15] (fun s14 s15 wx => (∃ G : Nat, s14 = .pointer (some ⟨G, 0, none⟩) ∧ G < wx.heap.size ∧ wx.cell? ⟨G, 0, none⟩ = some (.int .i64 p1) ∧ wx.cell? ⟨G, 1, none⟩ = some (.int .i64 p2) ∧ wx.cell? ⟨G, 2, none⟩ = some (.int .i64 p3) ∧ wx.cell? ⟨G, 3, none⟩ = some (.int .i64 p4)) ∧ (∃ G' : Nat, s15 = .pointer (some ⟨G', 0, none⟩) ∧ G' < wx.heap.size ∧ wx.cell? ⟨G', 0, none⟩ = some (.int .i64 q1) ∧ wx.cell? ⟨G', 1, none⟩ = some (.int .i64 q2) ∧ wx.cell? ⟨G', 2, none⟩ = some (.int .i64 q3) ∧ wx.cell? ⟨G', 3, none⟩ = some (.int .i64 q4)) ∧ Below w.heap.size w wx)
  case first =>
    go_region_held3 (fun w' => w5.heap.size + 1 < wc.heap.size ∧ w6.heap.size + 1 < wc.heap.size ∧ Below wc.heap.size wc w' ∧ w'.cell? ⟨w5.heap.size, 0, none⟩ = some (.int .i64 x0) ∧ w'.cell? ⟨w5.heap.size, 1, none⟩ = some (.int .i64 y0) ∧ w'.cell? ⟨w5.heap.size + 1, 0, none⟩ = some (.int .i64 x1) ∧ w'.cell? ⟨w5.heap.size + 1, 1, none⟩ = some (.int .i64 y1) ∧ w'.cell? ⟨w6.heap.size, 0, none⟩ = some (.int .i64 u0) ∧ w'.cell? ⟨w6.heap.size, 1, none⟩ = some (.int .i64 v0) ∧ w'.cell? ⟨w6.heap.size + 1, 0, none⟩ = some (.int .i64 u1) ∧ w'.cell? ⟨w6.heap.size + 1, 1, none⟩ = some (.int .i64 v1))
      ((repeat' (first | (with_reducible refine keep14a ?_) | (with_reducible refine keep14d ?_) | (with_reducible refine keep14s ?_ ?_))) <;> first | (with_reducible assumption) | (simp only [World.size_alloc, World.size_setCell, World.size_drew]; omega) | (dsimp only; omega))
      (first
      | (go_at_call 84; (with_reducible refine (HL1.out _).mono ?_); rintro e' wa ⟨rfl, rfl⟩)
      | (go_at_call 84; (with_reducible refine (HL2.out _).mono ?_); rintro e' wb ⟨rfl, rfl⟩))
    all_goals
      clear H0
      go_wp2_with fail
      go_meet
      refine ⟨⟨_, rfl, ?_, ?_, ?_, ?_, ?_⟩, ⟨_, rfl, ?_, ?_, ?_, ?_, ?_⟩, ?_⟩
      all_goals first | (simp; done) | (go_simp; done) | (simp; omega) | (repeat' (first | (with_reducible exact Below.refl _ _) | (with_reducible assumption) | (with_reducible refine belowNext ?_ (by with_reducible assumption)) | (with_reducible refine belowAlloc ?_ _) | (with_reducible refine Below.drew ?_) | (with_reducible refine below_drewN ?_ _) | (with_reducible refine Below.setCell ?_ ?_ _) | go_size | (with_reducible refine sizeOf' ?_) | (with_reducible refine sizeAdd ?_) | (dsimp only; first | (with_reducible refine sizeOf' ?_) | (with_reducible refine sizeAdd ?_))))
  case rest =>
    obtain ⟨⟨G, rfl, hG, m0, m1, m2, m3⟩, ⟨G', rfl, hG', n0, n1, n2, n3⟩, hB⟩ := hcut
    clear H0 hBc z1 z2
    go_wp2_with fail
    refine (HL3.out _).mono ?_
    rintro e' w20 ⟨rfl, hb20⟩
    have m0' := cellThru hb20 hG m0
    have m1' := cellThru hb20 hG m1
    have m2' := cellThru hb20 hG m2
    have m3' := cellThru hb20 hG m3
    have n0' := cellThru hb20 hG' n0
    have n1' := cellThru hb20 hG' n1
    have n2' := cellThru hb20 hG' n2
    have n3' := cellThru hb20 hG' n3
    have hB20 := belowNext hB hb20
    clear m0 m1 m2 m3 n0 n1 n2 n3 hb20 hB
    go_wp2
    go_ret2
    exact ⟨some ⟨_, 0, none⟩, 2, rfl, lfOwn2 _ hB20 _ _ _ _ _ _ _ _ _ _ (by simp), belowAlloc hB20 _⟩

set_option maxRecDepth 30000 in
set_option maxHeartbeats 40000000 in
theorem specPb4 (a b c d e f g h : Int) (w : World) (h1 : pbOk a b c d e f g h = true) (h2 : pbSt a b c d e f g h = false) (h3 : pbHal a b c d = true) (h4 : pbSw a b c d e f g h = true) :
    Calls Try.prog 36 #[leafV a b c d, leafV e f g h] w (ResLf w (pbL a b c d e f g h) (pbC a b c d e f g h)) := by
  have H1 := Lib.hid (fun w => specLf1 a b c d w)
  have H2 := Lib.hid (fun w => specLf1 e f g h w)
  have hl : isLf a b c d = true := by unfold pbOk at h1; rw [Bool.and_eq_true] at h1; exact h1.1
  have hd : isLf e f g h = true := by unfold pbOk at h1; rw [Bool.and_eq_true] at h1; exact h1.2
  obtain ⟨r1, r2, hlt⟩ := isLf_yes hl
  obtain ⟨r3, r4, -⟩ := isLf_yes hd
  rw [hl] at H1
  rw [hd] at H2
  have HD := Lib.hid (fun w => specDbl e f w r3.1 r3.2.1 r3.2.2.1 (by obtain ⟨_, _, _, _⟩ := r3; omega))
  have HI := Lib.hid (fun w => specDia e f g h w (okOf r3) (okOf r4))
  have Q1 := fun W => eqlAng a b (redN (2 * e) f) (redD (2 * e) f) W
  have Q2 := fun W => eqlAng c d (redN (2 * e) f) (redD (2 * e) f) W
  rw [eqA_comm a b (redN (2 * e) f)] at Q1
  rw [eqA_comm c d (redN (2 * e) f)] at Q2
  have h2' := h2
  unfold pbSt at h2'
  rcases st_cases (diaB e f g h) (eqA (redN (2 * e) f) (redD (2 * e) f) a b) (eqA (redN (2 * e) f) (redD (2 * e) f) c d) with ⟨s1, s4⟩ | ⟨s1, s2, s4⟩ | ⟨s1, s2, s3, s4⟩ | ⟨s1, s2, s3, s4⟩
  · rw [s4] at h2'; cases h2'
  · rw [s4] at h2'; cases h2'
  · rw [s4] at h2'; cases h2'
  rw [s1] at HI
  rw [s2] at Q1
  rw [s3] at Q2
  clear s1 s2 s3 s4 h2'
  have HX := Lib.hid (fun w => specHal3 a b w (okOf r1))
  have HY := Lib.hid (fun w => specHal3 c d w (okOf r2))
  obtain ⟨E1, E2⟩ := pb_sw h1 h2 h3 h4
  rw [E1, E2]
  have j1 : halOk a b = true := by unfold pbHal at h3; rw [Bool.and_eq_true] at h3; exact h3.1
  have j2 : halOk c d = true := by unfold pbHal at h3; rw [Bool.and_eq_true] at h3; exact h3.2
  rw [j1] at HX
  rw [j2] at HY
  have g1 : redD a (2 * b) ≤ 8191 ∧ redD (a + b) (2 * b) ≤ 8191 := by unfold halOk at j1; exact of_decide_eq_true j1
  have g2 : redD c (2 * d) ≤ 8191 ∧ redD (c + d) (2 * d) ≤ 8191 := by unfold halOk at j2; exact of_decide_eq_true j2
  have o1 := redRed (n := a) (m := 2 * b) (by have := r1.1; dsimp only at this; omega) g1.1
  have o2 := redRed (n := a + b) (m := 2 * b) (by have := r1.1; dsimp only at this; omega) g1.2
  have o3 := redRed (n := c) (m := 2 * d) (by have := r2.1; dsimp only at this; omega) g2.1
  have o4 := redRed (n := c + d) (m := 2 * d) (by have := r2.1; dsimp only at this; omega) g2.2
  obtain ⟨w1', w2', w3'⟩ := half_order r1 r2 hlt
  have HR1 := Lib.hid (fun w => specArc (redN a (2 * b)) (redD a (2 * b)) e f g h w (okOf o1) (okOf r3) (okOf r4))
  have HR2 := Lib.hid (fun w => specArc (redN c (2 * d)) (redD c (2 * d)) e f g h w (okOf o3) (okOf r3) (okOf r4))
  unfold pbSw at h4
  clear j1 j2 h3 E1 E2 hl hd r1 r2 r3 r4 h1 h2 g1 g2 hlt
  generalize redN a (2 * b) = x0 at *
  generalize redD a (2 * b) = y0 at *
  generalize redN (a + b) (2 * b) = x1 at *
  generalize redD (a + b) (2 * b) = y1 at *
  generalize redN c (2 * d) = u0 at *
  generalize redD c (2 * d) = v0 at *
  generalize redN (c + d) (2 * d) = u1 at *
  generalize redD (c + d) (2 * d) = v1 at *
  have HL1 := Lib.hid (fun w => specLBX x0 y0 u1 v1 w (okOf o1) (okOf o4) (apart_of o1 o4))
  have HL2 := Lib.hid (fun w => specLBX x1 y1 u0 v0 w (okOf o2) (okOf o3) (apart_of o2 o3))
  have HL3 := Lib.hid (fun w => specLessL _ _ _ _ _ _ _ _ w (lf_ok (okOf o2) (okOf o3)).1 (lf_ok (okOf o2) (okOf o3)).2 (lf_ok (okOf o1) (okOf o4)).1 (lf_ok (okOf o1) (okOf o4)).2)
  rw [less_no w2' w3' w1'] at HL3
  clear o1 o2 o3 o4 w1' w2' w3'
  generalize z1 : lf4 x0 y0 u1 v1 = F1 at *
  generalize z2 : lf4 x1 y1 u0 v0 = F2 at *
  obtain ⟨p1, p2, p3, p4⟩ := F1
  obtain ⟨q1, q2, q3, q4⟩ := F2
  obtain ⟨t1, t2, t3, t4⟩ := lf4_eq z1
  rw [t1, t2, t3, t4] at HL1 HL3
  clear t1 t2 t3 t4 z1
  obtain ⟨t1, t2, t3, t4⟩ := lf4_eq z2
  rw [t1, t2, t3, t4] at HL2 HL3
  clear t1 t2 t3 t4 z2
  generalize arcB x0 y0 e f g h = U1 at *
  generalize arcB u0 v0 e f g h = U2 at *
  obtain rfl : U2 = !U1 := by cases U1 <;> cases U2 <;> first | rfl | cases h4
  clear h4
  generalize redN (2 * e) f = X at *
  generalize redD (2 * e) f = Y at *
  go_enter Try.func36, Try.ntmps36
  go_wp2_with fail
  refine (H1.out _).mono ?_
  rintro e w1 ⟨rfl, hb1⟩
  obtain ⟨hc1, hf1⟩ := bcell hb1
  have hz1_0 : w.heap.size < w1.heap.size := by have := hb1.size; first | omega | (simp at this; omega)
  have hz1_1 : w.heap.size + 1 < w1.heap.size := by have := hb1.size; first | omega | (simp at this; omega)
  have q1_1_0 : w1.cell? ⟨w.heap.size + 1, 0, none⟩ = some (.int .i64 e) := cellThru hb1 (by simp <;> omega) (by simp [go_sem])
  have q1_1_1 : w1.cell? ⟨w.heap.size + 1, 1, none⟩ = some (.int .i64 f) := cellThru hb1 (by simp <;> omega) (by simp [go_sem])
  have q1_1_2 : w1.cell? ⟨w.heap.size + 1, 2, none⟩ = some (.int .i64 g) := cellThru hb1 (by simp <;> omega) (by simp [go_sem])
  have q1_1_3 : w1.cell? ⟨w.heap.size + 1, 3, none⟩ = some (.int .i64 h) := cellThru hb1 (by simp <;> omega) (by simp [go_sem])
  go_wp2_with fail
  refine (H2.out _).mono ?_
  rintro e w2 ⟨rfl, hb2⟩
  obtain ⟨hc2, hf2⟩ := bcell hb2
  have hz2_0 : w.heap.size < w2.heap.size := by have := hb2.size; first | omega | (simp at this; omega)
  have hz2_1 : w.heap.size + 1 < w2.heap.size := by have := hb2.size; first | omega | (simp at this; omega)
  have q2_1_0 : w2.cell? ⟨w.heap.size + 1, 0, none⟩ = some (.int .i64 e) := by first | exact cellThru hb2 hz1_1 q1_1_0 | (refine cellThru hb2 ?_ (cellThru (belowAlloc (Below.refl _ _) _) hz1_1 q1_1_0); first | omega | (simp; omega)) | (refine cellThru hb2 ?_ (cellThru (belowAlloc (belowAlloc (Below.refl _ _) _) _) hz1_1 q1_1_0); first | omega | (simp; omega)) | (refine cellThru hb2 ?_ ?_; (first | omega | (simp; omega) | go_size); simp [go_sem, q1_1_0])
  have q2_1_1 : w2.cell? ⟨w.heap.size + 1, 1, none⟩ = some (.int .i64 f) := by first | exact cellThru hb2 hz1_1 q1_1_1 | (refine cellThru hb2 ?_ (cellThru (belowAlloc (Below.refl _ _) _) hz1_1 q1_1_1); first | omega | (simp; omega)) | (refine cellThru hb2 ?_ (cellThru (belowAlloc (belowAlloc (Below.refl _ _) _) _) hz1_1 q1_1_1); first | omega | (simp; omega)) | (refine cellThru hb2 ?_ ?_; (first | omega | (simp; omega) | go_size); simp [go_sem, q1_1_1])
  have q2_1_2 : w2.cell? ⟨w.heap.size + 1, 2, none⟩ = some (.int .i64 g) := by first | exact cellThru hb2 hz1_1 q1_1_2 | (refine cellThru hb2 ?_ (cellThru (belowAlloc (Below.refl _ _) _) hz1_1 q1_1_2); first | omega | (simp; omega)) | (refine cellThru hb2 ?_ (cellThru (belowAlloc (belowAlloc (Below.refl _ _) _) _) hz1_1 q1_1_2); first | omega | (simp; omega)) | (refine cellThru hb2 ?_ ?_; (first | omega | (simp; omega) | go_size); simp [go_sem, q1_1_2])
  have q2_1_3 : w2.cell? ⟨w.heap.size + 1, 3, none⟩ = some (.int .i64 h) := by first | exact cellThru hb2 hz1_1 q1_1_3 | (refine cellThru hb2 ?_ (cellThru (belowAlloc (Below.refl _ _) _) hz1_1 q1_1_3); first | omega | (simp; omega)) | (refine cellThru hb2 ?_ (cellThru (belowAlloc (belowAlloc (Below.refl _ _) _) _) hz1_1 q1_1_3); first | omega | (simp; omega)) | (refine cellThru hb2 ?_ ?_; (first | omega | (simp; omega) | go_size); simp [go_sem, q1_1_3])
  go_wp2_with fail
  refine (HD.out _).mono ?_
  rintro e w3 ⟨rfl, hb3⟩
  obtain ⟨hc3, hf3⟩ := bcell hb3
  have hz3_0 : w.heap.size < w3.heap.size := by have := hb3.size; first | omega | (simp at this; omega)
  have hz3_1 : w.heap.size + 1 < w3.heap.size := by have := hb3.size; first | omega | (simp at this; omega)
  have q3_1_0 : w3.cell? ⟨w.heap.size + 1, 0, none⟩ = some (.int .i64 e) := by first | exact cellThru hb3 hz2_1 q2_1_0 | (refine cellThru hb3 ?_ (cellThru (belowAlloc (Below.refl _ _) _) hz2_1 q2_1_0); first | omega | (simp; omega)) | (refine cellThru hb3 ?_ (cellThru (belowAlloc (belowAlloc (Below.refl _ _) _) _) hz2_1 q2_1_0); first | omega | (simp; omega)) | (refine cellThru hb3 ?_ ?_; (first | omega | (simp; omega) | go_size); simp [go_sem, q2_1_0])
  have q3_1_1 : w3.cell? ⟨w.heap.size + 1, 1, none⟩ = some (.int .i64 f) := by first | exact cellThru hb3 hz2_1 q2_1_1 | (refine cellThru hb3 ?_ (cellThru (belowAlloc (Below.refl _ _) _) hz2_1 q2_1_1); first | omega | (simp; omega)) | (refine cellThru hb3 ?_ (cellThru (belowAlloc (belowAlloc (Below.refl _ _) _) _) hz2_1 q2_1_1); first | omega | (simp; omega)) | (refine cellThru hb3 ?_ ?_; (first | omega | (simp; omega) | go_size); simp [go_sem, q2_1_1])
  have q3_1_2 : w3.cell? ⟨w.heap.size + 1, 2, none⟩ = some (.int .i64 g) := by first | exact cellThru hb3 hz2_1 q2_1_2 | (refine cellThru hb3 ?_ (cellThru (belowAlloc (Below.refl _ _) _) hz2_1 q2_1_2); first | omega | (simp; omega)) | (refine cellThru hb3 ?_ (cellThru (belowAlloc (belowAlloc (Below.refl _ _) _) _) hz2_1 q2_1_2); first | omega | (simp; omega)) | (refine cellThru hb3 ?_ ?_; (first | omega | (simp; omega) | go_size); simp [go_sem, q2_1_2])
  have q3_1_3 : w3.cell? ⟨w.heap.size + 1, 3, none⟩ = some (.int .i64 h) := by first | exact cellThru hb3 hz2_1 q2_1_3 | (refine cellThru hb3 ?_ (cellThru (belowAlloc (Below.refl _ _) _) hz2_1 q2_1_3); first | omega | (simp; omega)) | (refine cellThru hb3 ?_ (cellThru (belowAlloc (belowAlloc (Below.refl _ _) _) _) hz2_1 q2_1_3); first | omega | (simp; omega)) | (refine cellThru hb3 ?_ ?_; (first | omega | (simp; omega) | go_size); simp [go_sem, q2_1_3])
  go_wp2_with fail
  refine (HI.out _).mono ?_
  rintro e w4 ⟨rfl, hb4⟩
  obtain ⟨hc4, hf4⟩ := bcell hb4
  have hz4_0 : w.heap.size < w4.heap.size := by have := hb4.size; first | omega | (simp at this; omega)
  have hz4_1 : w.heap.size + 1 < w4.heap.size := by have := hb4.size; first | omega | (simp at this; omega)
  have q4_1_0 : w4.cell? ⟨w.heap.size + 1, 0, none⟩ = some (.int .i64 e) := by first | exact cellThru hb4 hz3_1 q3_1_0 | (refine cellThru hb4 ?_ (cellThru (belowAlloc (Below.refl _ _) _) hz3_1 q3_1_0); first | omega | (simp; omega)) | (refine cellThru hb4 ?_ (cellThru (belowAlloc (belowAlloc (Below.refl _ _) _) _) hz3_1 q3_1_0); first | omega | (simp; omega)) | (refine cellThru hb4 ?_ ?_; (first | omega | (simp; omega) | go_size); simp [go_sem, q3_1_0])
  have q4_1_1 : w4.cell? ⟨w.heap.size + 1, 1, none⟩ = some (.int .i64 f) := by first | exact cellThru hb4 hz3_1 q3_1_1 | (refine cellThru hb4 ?_ (cellThru (belowAlloc (Below.refl _ _) _) hz3_1 q3_1_1); first | omega | (simp; omega)) | (refine cellThru hb4 ?_ (cellThru (belowAlloc (belowAlloc (Below.refl _ _) _) _) hz3_1 q3_1_1); first | omega | (simp; omega)) | (refine cellThru hb4 ?_ ?_; (first | omega | (simp; omega) | go_size); simp [go_sem, q3_1_1])
  have q4_1_2 : w4.cell? ⟨w.heap.size + 1, 2, none⟩ = some (.int .i64 g) := by first | exact cellThru hb4 hz3_1 q3_1_2 | (refine cellThru hb4 ?_ (cellThru (belowAlloc (Below.refl _ _) _) hz3_1 q3_1_2); first | omega | (simp; omega)) | (refine cellThru hb4 ?_ (cellThru (belowAlloc (belowAlloc (Below.refl _ _) _) _) hz3_1 q3_1_2); first | omega | (simp; omega)) | (refine cellThru hb4 ?_ ?_; (first | omega | (simp; omega) | go_size); simp [go_sem, q3_1_2])
  have q4_1_3 : w4.cell? ⟨w.heap.size + 1, 3, none⟩ = some (.int .i64 h) := by first | exact cellThru hb4 hz3_1 q3_1_3 | (refine cellThru hb4 ?_ (cellThru (belowAlloc (Below.refl _ _) _) hz3_1 q3_1_3); first | omega | (simp; omega)) | (refine cellThru hb4 ?_ (cellThru (belowAlloc (belowAlloc (Below.refl _ _) _) _) hz3_1 q3_1_3); first | omega | (simp; omega)) | (refine cellThru hb4 ?_ ?_; (first | omega | (simp; omega) | go_size); simp [go_sem, q3_1_3])
  have hE4 : w3.heap.size < w4.heap.size := by have := hb4.size; simp at this; omega
  go_wp2_with fail
  refine (HX.out _).mono ?_
  rintro e w5 ⟨rfl, hb5⟩
  obtain ⟨hc5, hf5⟩ := bcell hb5
  have hz5_0 : w.heap.size < w5.heap.size := by have := hb5.size; first | omega | (simp at this; omega)
  have hz5_1 : w.heap.size + 1 < w5.heap.size := by have := hb5.size; first | omega | (simp at this; omega)
  have q5_1_0 : w5.cell? ⟨w.heap.size + 1, 0, none⟩ = some (.int .i64 e) := by first | exact cellThru hb5 hz4_1 q4_1_0 | (refine cellThru hb5 ?_ (cellThru (belowAlloc (Below.refl _ _) _) hz4_1 q4_1_0); first | omega | (simp; omega)) | (refine cellThru hb5 ?_ (cellThru (belowAlloc (belowAlloc (Below.refl _ _) _) _) hz4_1 q4_1_0); first | omega | (simp; omega)) | (refine cellThru hb5 ?_ ?_; (first | omega | (simp; omega) | go_size); simp [go_sem, q4_1_0])
  have q5_1_1 : w5.cell? ⟨w.heap.size + 1, 1, none⟩ = some (.int .i64 f) := by first | exact cellThru hb5 hz4_1 q4_1_1 | (refine cellThru hb5 ?_ (cellThru (belowAlloc (Below.refl _ _) _) hz4_1 q4_1_1); first | omega | (simp; omega)) | (refine cellThru hb5 ?_ (cellThru (belowAlloc (belowAlloc (Below.refl _ _) _) _) hz4_1 q4_1_1); first | omega | (simp; omega)) | (refine cellThru hb5 ?_ ?_; (first | omega | (simp; omega) | go_size); simp [go_sem, q4_1_1])
  have q5_1_2 : w5.cell? ⟨w.heap.size + 1, 2, none⟩ = some (.int .i64 g) := by first | exact cellThru hb5 hz4_1 q4_1_2 | (refine cellThru hb5 ?_ (cellThru (belowAlloc (Below.refl _ _) _) hz4_1 q4_1_2); first | omega | (simp; omega)) | (refine cellThru hb5 ?_ (cellThru (belowAlloc (belowAlloc (Below.refl _ _) _) _) hz4_1 q4_1_2); first | omega | (simp; omega)) | (refine cellThru hb5 ?_ ?_; (first | omega | (simp; omega) | go_size); simp [go_sem, q4_1_2])
  have q5_1_3 : w5.cell? ⟨w.heap.size + 1, 3, none⟩ = some (.int .i64 h) := by first | exact cellThru hb5 hz4_1 q4_1_3 | (refine cellThru hb5 ?_ (cellThru (belowAlloc (Below.refl _ _) _) hz4_1 q4_1_3); first | omega | (simp; omega)) | (refine cellThru hb5 ?_ (cellThru (belowAlloc (belowAlloc (Below.refl _ _) _) _) hz4_1 q4_1_3); first | omega | (simp; omega)) | (refine cellThru hb5 ?_ ?_; (first | omega | (simp; omega) | go_size); simp [go_sem, q4_1_3])
  have hA5 : w4.heap.size ≤ w5.heap.size := hb5.size
  go_wp2_with fail
  refine (HY.out _).mono ?_
  rintro e w6 ⟨rfl, hb6⟩
  obtain ⟨hc6, hf6⟩ := bcell hb6
  have hz6_0 : w.heap.size < w6.heap.size := by have := hb6.size; first | omega | (simp at this; omega)
  have hz6_1 : w.heap.size + 1 < w6.heap.size := by have := hb6.size; first | omega | (simp at this; omega)
  have q6_1_0 : w6.cell? ⟨w.heap.size + 1, 0, none⟩ = some (.int .i64 e) := by first | exact cellThru hb6 hz5_1 q5_1_0 | (refine cellThru hb6 ?_ (cellThru (belowAlloc (Below.refl _ _) _) hz5_1 q5_1_0); first | omega | (simp; omega)) | (refine cellThru hb6 ?_ (cellThru (belowAlloc (belowAlloc (Below.refl _ _) _) _) hz5_1 q5_1_0); first | omega | (simp; omega)) | (refine cellThru hb6 ?_ ?_; (first | omega | (simp; omega) | go_size); simp [go_sem, q5_1_0])
  have q6_1_1 : w6.cell? ⟨w.heap.size + 1, 1, none⟩ = some (.int .i64 f) := by first | exact cellThru hb6 hz5_1 q5_1_1 | (refine cellThru hb6 ?_ (cellThru (belowAlloc (Below.refl _ _) _) hz5_1 q5_1_1); first | omega | (simp; omega)) | (refine cellThru hb6 ?_ (cellThru (belowAlloc (belowAlloc (Below.refl _ _) _) _) hz5_1 q5_1_1); first | omega | (simp; omega)) | (refine cellThru hb6 ?_ ?_; (first | omega | (simp; omega) | go_size); simp [go_sem, q5_1_1])
  have q6_1_2 : w6.cell? ⟨w.heap.size + 1, 2, none⟩ = some (.int .i64 g) := by first | exact cellThru hb6 hz5_1 q5_1_2 | (refine cellThru hb6 ?_ (cellThru (belowAlloc (Below.refl _ _) _) hz5_1 q5_1_2); first | omega | (simp; omega)) | (refine cellThru hb6 ?_ (cellThru (belowAlloc (belowAlloc (Below.refl _ _) _) _) hz5_1 q5_1_2); first | omega | (simp; omega)) | (refine cellThru hb6 ?_ ?_; (first | omega | (simp; omega) | go_size); simp [go_sem, q5_1_2])
  have q6_1_3 : w6.cell? ⟨w.heap.size + 1, 3, none⟩ = some (.int .i64 h) := by first | exact cellThru hb6 hz5_1 q5_1_3 | (refine cellThru hb6 ?_ (cellThru (belowAlloc (Below.refl _ _) _) hz5_1 q5_1_3); first | omega | (simp; omega)) | (refine cellThru hb6 ?_ (cellThru (belowAlloc (belowAlloc (Below.refl _ _) _) _) hz5_1 q5_1_3); first | omega | (simp; omega)) | (refine cellThru hb6 ?_ ?_; (first | omega | (simp; omega) | go_size); simp [go_sem, q5_1_3])
  have hA6 : w5.heap.size + 1 < w6.heap.size := by have := hb6.size; simp at this; omega
  have a0 : w6.cell? ⟨w5.heap.size, 0, none⟩ = some (.int .i64 x0) := cellThru hb6 (by simp <;> omega) (by simp [go_sem])
  have a1 : w6.cell? ⟨w5.heap.size, 1, none⟩ = some (.int .i64 y0) := cellThru hb6 (by simp <;> omega) (by simp [go_sem])
  have a2 : w6.cell? ⟨w5.heap.size + 1, 0, none⟩ = some (.int .i64 x1) := cellThru hb6 (by simp <;> omega) (by simp [go_sem])
  have a3 : w6.cell? ⟨w5.heap.size + 1, 1, none⟩ = some (.int .i64 y1) := cellThru hb6 (by simp <;> omega) (by simp [go_sem])
  have hB6 : Below w.heap.size w w6 := by
    (repeat' (first | (with_reducible exact Below.refl _ _) | (with_reducible assumption) | (with_reducible refine belowNext ?_ (by with_reducible assumption)) | (with_reducible refine belowAlloc ?_ _) | (with_reducible refine Below.drew ?_) | (with_reducible refine below_drewN ?_ _) | (with_reducible refine Below.setCell ?_ ?_ _) | go_size | (with_reducible refine sizeOf' ?_) | (with_reducible refine sizeAdd ?_) | (dsimp only; first | (with_reducible refine sizeOf' ?_) | (with_reducible refine sizeAdd ?_))))
  have hz6 : w.heap.size ≤ w6.heap.size := hB6.size
  go_wp2_with fail
  generalize hw9 : ((w6.alloc (.cells #[.int .i64 u0, .int .i64 v0] 29)).alloc (.cells #[.int .i64 u1, .int .i64 v1] 29)) = w9
  have B69 : Below w6.heap.size w6 w9 := by rw [← hw9]; exact belowAlloc (belowAlloc (Below.refl _ _) _) _
  have hC9 : w6.heap.size + 1 < w9.heap.size := by rw [← hw9]; simp
  have c0 : w9.cell? ⟨w6.heap.size, 0, none⟩ = some (.int .i64 u0) := by rw [← hw9]; simp [go_sem]
  have c1 : w9.cell? ⟨w6.heap.size, 1, none⟩ = some (.int .i64 v0) := by rw [← hw9]; simp [go_sem]
  have c2 : w9.cell? ⟨w6.heap.size + 1, 0, none⟩ = some (.int .i64 u1) := by rw [← hw9]; simp [go_sem]
  have c3 : w9.cell? ⟨w6.heap.size + 1, 1, none⟩ = some (.int .i64 v1) := by rw [← hw9]; simp [go_sem]
  have f0 : w9.frozen? ⟨w6.heap.size, 0, none⟩ = false := by rw [← hw9]; simp [go_sem]
  have f1 : w9.frozen? ⟨w6.heap.size, 1, none⟩ = false := by rw [← hw9]; simp [go_sem]
  have f2 : w9.frozen? ⟨w6.heap.size + 1, 0, none⟩ = false := by rw [← hw9]; simp [go_sem]
  have f3 : w9.frozen? ⟨w6.heap.size + 1, 1, none⟩ = false := by rw [← hw9]; simp [go_sem]
  have a0' := cellThru B69 (by omega) a0
  have a1' := cellThru B69 (by omega) a1
  have a2' := cellThru B69 (by omega) a2
  have a3' := cellThru B69 (by omega) a3
  have q0' := cellThru B69 hz6_1 q6_1_0
  have q1' := cellThru B69 hz6_1 q6_1_1
  have q2' := cellThru B69 hz6_1 q6_1_2
  have q3' := cellThru B69 hz6_1 q6_1_3
  have hB9 : Below w.heap.size w w9 := belowNext hB6 B69
  have y1' : w.heap.size + 1 < w9.heap.size := by omega
  have y2' : w5.heap.size < w9.heap.size := by omega
  have y3' : w6.heap.size < w9.heap.size := by omega
  clear hw9 a0 a1 a2 a3 q1_1_0 q1_1_1 q1_1_2 q1_1_3 q2_1_0 q2_1_1 q2_1_2 q2_1_3 q3_1_0 q3_1_1 q3_1_2 q3_1_3 q4_1_0 q4_1_1 q4_1_2 q4_1_3 q5_1_0 q5_1_1 q5_1_2 q5_1_3 q6_1_0 q6_1_1 q6_1_2 q6_1_3 hc1 hf1 hc2 hf2 hc3 hf3 hc4 hf4 hc5 hf5 hc6 hf6 H1 H2 HD HI HX HY Q1 Q2 hb1 hb2 hb3 hb4 hb5 hb6 hE4 hB6 B69
  go_region_held3 (fun w' => w.heap.size + 1 < w'.heap.size ∧ w5.heap.size < w'.heap.size ∧ w6.heap.size < w'.heap.size ∧ Below w9.heap.size w9 w' ∧ w'.cell? ⟨w.heap.size + 1, 0, none⟩ = some (.int .i64 e) ∧ w'.cell? ⟨w.heap.size + 1, 1, none⟩ = some (.int .i64 f) ∧ w'.cell? ⟨w.heap.size + 1, 2, none⟩ = some (.int .i64 g) ∧ w'.cell? ⟨w.heap.size + 1, 3, none⟩ = some (.int .i64 h) ∧
      w'.cell? ⟨w5.heap.size, 0, none⟩ = some (.int .i64 x0) ∧ w'.cell? ⟨w5.heap.size, 1, none⟩ = some (.int .i64 y0) ∧ w'.cell? ⟨w6.heap.size, 0, none⟩ = some (.int .i64 u0) ∧ w'.cell? ⟨w6.heap.size, 1, none⟩ = some (.int .i64 v0))
      (first | assumption | exact keepPB0 (by assumption) (by assumption) | exact ⟨y1', y2', y3', (Below.refl _ _).drew, q0', q1', q2', q3', a0', a1', c0, c1⟩ | exact keepPB0 (by assumption) ⟨y1', y2', y3', (Below.refl _ _).drew, q0', q1', q2', q3', a0', a1', c0, c1⟩)
      (first
      | (go_at_call 83; (with_reducible refine (HR1.out _).mono ?_); rintro e' w10 ⟨rfl, hb10⟩)
      | (go_at_call 83; (with_reducible refine (HR2.out _).mono ?_); rintro e' w11 ⟨rfl, hb11⟩))
  rename_i hHeld
  have B := hHeld.2.2.2.1
  clear hHeld hb10 hb11 HR1 HR2 q0' q1' q2' q3'
  have hs9 := B.size
  have a0 := cellThru B y2' a0'
  have a1 := cellThru B y2' a1'
  have a2 := cellThru B (by omega) a2'
  have a3 := cellThru B (by omega) a3'
  have c0' := cellThru B y3' c0
  have c1' := cellThru B y3' c1
  have c2' := cellThru B hC9 c2
  have c3' := cellThru B hC9 c3
  have f0' := frozThru B y3' f0
  have f1' := frozThru B y3' f1
  have f2' := frozThru B hC9 f2
  have f3' := frozThru B hC9 f3
  have hB11 := belowNext hB9 B
  have x1' := Nat.lt_of_lt_of_le y2' hs9
  have x2' := Nat.lt_of_lt_of_le y3' hs9
  have x3' := Nat.lt_of_lt_of_le hC9 hs9
  have x4' := Nat.lt_of_lt_of_le (Nat.lt_trans hA6 (Nat.lt_of_succ_lt hC9)) hs9
  clear a0' a1' a2' a3' c0 c1 c2 c3 f0 f1 f2 f3 hB9 B
  go_upto_region 14 with fail
  generalize hwc : (((((w11.setCell ⟨w6.heap.size, 0, none⟩ (.int .i64 u1)).setCell ⟨w6.heap.size, 1, none⟩ (.int .i64 v1)).setCell ⟨w6.heap.size + 1, 0, none⟩ (.int .i64 u0)).setCell ⟨w6.heap.size + 1, 1, none⟩ (.int .i64 v0)).alloc (.cells #[.int .i64 u0, .int .i64 v0] 29)) = wc
  obtain ⟨BW, zW, k0, k1, k2, k3, k4, k5, k6, k7⟩ := swap_cells (B := w.heap.size) hA6 x3' hz6 a0 a1 a2 a3 c0' c1' c2' c3' wc hwc
  have hBc : Below w.heap.size w wc := hB11.trans BW
  have z1 : w5.heap.size + 1 < wc.heap.size := by omega
  have z2 : w6.heap.size + 1 < wc.heap.size := by omega
  clear hwc BW zW a0 a1 a2 a3 c0' c1' c2' c3' f0' f1' f2' f3' hB11 x1' x2' x3' x4' hs9 y1' y2' y3' hC9
  have H0 : w5.heap.size + 1 < wc.heap.size ∧ w6.heap.size + 1 < wc.heap.size ∧ Below wc.heap.size wc wc ∧ wc.cell? ⟨w5.heap.size, 0, none⟩ = some (.int .i64 x0) ∧ wc.cell? ⟨w5.heap.size, 1, none⟩ = some (.int .i64 y0) ∧ wc.cell? ⟨w5.heap.size + 1, 0, none⟩ = some (.int .i64 x1) ∧ wc.cell? ⟨w5.heap.size + 1, 1, none⟩ = some (.int .i64 y1) ∧ wc.cell? ⟨w6.heap.size, 0, none⟩ = some (.int .i64 u1) ∧ wc.cell? ⟨w6.heap.size, 1, none⟩ = some (.int .i64 v1) ∧ wc.cell? ⟨w6.heap.size + 1, 0, none⟩ = some (.int .i64 u0) ∧ wc.cell? ⟨w6.heap.size + 1, 1, none⟩ = some (.int .i64 v0) := ⟨z1, z2, Below.refl _ _, k0, k1, k2, k3, k4, k5, k6, k7⟩
  clear k0 k1 k2 k3 k4 k5 k6 k7
  go_cut [14, 15] (fun s14 s15 wx => (∃ G : Nat, s14 = .pointer (some ⟨G, 0, none⟩) ∧ G < wx.heap.size ∧ wx.cell? ⟨G, 0, none⟩ = some (.int .i64 p1) ∧ wx.cell? ⟨G, 1, none⟩ = some (.int .i64 p2) ∧ wx.cell? ⟨G, 2, none⟩ = some (.int .i64 p3) ∧ wx.cell? ⟨G, 3, none⟩ = some (.int .i64 p4)) ∧ (∃ G' : Nat, s15 = .pointer (some ⟨G', 0, none⟩) ∧ G' < wx.heap.size ∧ wx.cell? ⟨G', 0, none⟩ = some (.int .i64 q1) ∧ wx.cell? ⟨G', 1, none⟩ = some (.int .i64 q2) ∧ wx.cell? ⟨G', 2, none⟩ = some (.int .i64 q3) ∧ wx.cell? ⟨G', 3, none⟩ = some (.int .i64 q4)) ∧ Below w.heap.size w wx)
  case first =>
    go_region_held3 (fun w' => w5.heap.size + 1 < wc.heap.size ∧ w6.heap.size + 1 < wc.heap.size ∧ Below wc.heap.size wc w' ∧ w'.cell? ⟨w5.heap.size, 0, none⟩ = some (.int .i64 x0) ∧ w'.cell? ⟨w5.heap.size, 1, none⟩ = some (.int .i64 y0) ∧ w'.cell? ⟨w5.heap.size + 1, 0, none⟩ = some (.int .i64 x1) ∧ w'.cell? ⟨w5.heap.size + 1, 1, none⟩ = some (.int .i64 y1) ∧ w'.cell? ⟨w6.heap.size, 0, none⟩ = some (.int .i64 u1) ∧ w'.cell? ⟨w6.heap.size, 1, none⟩ = some (.int .i64 v1) ∧ w'.cell? ⟨w6.heap.size + 1, 0, none⟩ = some (.int .i64 u0) ∧ w'.cell? ⟨w6.heap.size + 1, 1, none⟩ = some (.int .i64 v0))
      ((repeat' (first | (with_reducible refine keep14a ?_) | (with_reducible refine keep14d ?_) | (with_reducible refine keep14s ?_ ?_))) <;> first | (with_reducible assumption) | (simp only [World.size_alloc, World.size_setCell, World.size_drew]; omega) | (dsimp only; omega))
      (first
      | (go_at_call 84; (with_reducible refine (HL1.out _).mono ?_); rintro e' wa ⟨rfl, rfl⟩)
      | (go_at_call 84; (with_reducible refine (HL2.out _).mono ?_); rintro e' wb ⟨rfl, rfl⟩))
    all_goals
      clear H0
      go_wp2_with fail
      go_meet
      refine ⟨⟨_, rfl, ?_, ?_, ?_, ?_, ?_⟩, ⟨_, rfl, ?_, ?_, ?_, ?_, ?_⟩, ?_⟩
      all_goals first | (simp; done) | (go_simp; done) | (simp; omega) | (repeat' (first | (with_reducible exact Below.refl _ _) | (with_reducible assumption) | (with_reducible refine belowNext ?_ (by with_reducible assumption)) | (with_reducible refine belowAlloc ?_ _) | (with_reducible refine Below.drew ?_) | (with_reducible refine below_drewN ?_ _) | (with_reducible refine Below.setCell ?_ ?_ _) | go_size | (with_reducible refine sizeOf' ?_) | (with_reducible refine sizeAdd ?_) | (dsimp only; first | (with_reducible refine sizeOf' ?_) | (with_reducible refine sizeAdd ?_))))
  case rest =>
    obtain ⟨⟨G, rfl, hG, m0, m1, m2, m3⟩, ⟨G', rfl, hG', n0, n1, n2, n3⟩, hB⟩ := hcut
    clear H0 hBc z1 z2
    go_wp2_with fail
    refine (HL3.out _).mono ?_
    rintro e' w20 ⟨rfl, hb20⟩
    have m0' := cellThru hb20 hG m0
    have m1' := cellThru hb20 hG m1
    have m2' := cellThru hb20 hG m2
    have m3' := cellThru hb20 hG m3
    have n0' := cellThru hb20 hG' n0
    have n1' := cellThru hb20 hG' n1
    have n2' := cellThru hb20 hG' n2
    have n3' := cellThru hb20 hG' n3
    have hB20 := belowNext hB hb20
    clear m0 m1 m2 m3 n0 n1 n2 n3 hb20 hB
    go_wp2
    go_ret2
    exact ⟨some ⟨_, 0, none⟩, 2, rfl, lfOwn2 _ hB20 _ _ _ _ _ _ _ _ _ _ (by simp), belowAlloc hB20 _⟩

theorem specPb (a b c d e f g h : Int) (w : World) :
    Calls Try.prog 36 #[leafV a b c d, leafV e f g h] w (ResLf w (pbL a b c d e f g h) (pbC a b c d e f g h)) := by
  cases h1 : pbOk a b c d e f g h
  · exact specPb0 _ _ _ _ _ _ _ _ _ h1
  · cases h2 : pbSt a b c d e f g h
    · cases h3 : pbHal a b c d
      · exact specPb2 _ _ _ _ _ _ _ _ _ h1 h2 h3
      · cases h4 : pbSw a b c d e f g h
        · exact specPb3 _ _ _ _ _ _ _ _ _ h1 h2 h3 h4
        · exact specPb4 _ _ _ _ _ _ _ _ _ h1 h2 h3 h4
    · exact specPb1 _ _ _ _ _ _ _ _ _ h1 h2
end Go.Proofs.Ytkpgfafmaoaefaa

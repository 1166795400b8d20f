/-
  Contracts: distances (the walks).
-/
import Derived.Test.YtnciiodgkanpjaaW11
namespace Go.Proofs.Ytnciiodgkanpjaa
open Go.RowKit

/-- The numbers of a reduced fraction lie within wider bounds. -/
def angW (n d : Int) : Prop := 1 ≤ d ∧ d ≤ 67092481 ∧ 0 ≤ n ∧ n < d
theorem mul_boundV {a b : Int} (ha : 0 ≤ a) (hA : a ≤ 67092481) (hb : 0 ≤ b) (hB : b ≤ 67092481) : 0 ≤ a * b ∧ a * b ≤ 4611686018427387904 :=
  ⟨Int.mul_nonneg ha hb, Int.le_trans (Int.mul_le_mul hA hB hb (by omega)) (by omega)⟩

set_option maxHeartbeats 400000 in
theorem cmpAngV (n d m c : Int) (w : World) (h1 : angW n d) (h2 : angW m c) :
    Calls Try.prog 87 #[ang n d, ang m c] w fun e w' => e = .returned (.int .i64 (cmpI (n * c) (m * d))) ∧ Below w.heap.size w w' := by
  obtain ⟨a1, a2, a3, a4⟩ := h1
  obtain ⟨b1, b2, b3, b4⟩ := h2
  obtain ⟨p1, p2⟩ := mul_boundV (a := n) (b := c) (by omega) (by omega) (by omega) (by omega)
  obtain ⟨q1, q2⟩ := mul_boundV (a := m) (b := d) (by omega) (by omega) (by omega) (by omega)
  have HC := Lib.hid (fun w => cmpInt (n * c) (m * d) w)
  generalize cmpI (n * c) (m * d) = C at *
  go_enter Try.func87, Try.ntmps87
  go_wp2_with fail
  refine (HC.out _).mono ?_
  rintro e w1 ⟨rfl, rfl⟩
  go_wp2
  go_ret
  refine ⟨rfl, ?_⟩
  (repeat' (first | (with_reducible exact Below.refl _ _) | (with_reducible assumption) | (with_reducible refine belowNext ?_ (by with_reducible assumption)) | (with_reducible refine belowAlloc ?_ _) | (with_reducible refine Below.drew ?_) | (with_reducible refine below_drewN ?_ _) | (with_reducible refine Below.setCell ?_ ?_ _) | go_size | (with_reducible refine sizeOf' ?_) | (with_reducible refine sizeAdd ?_) | (dsimp only; first | (with_reducible refine sizeOf' ?_) | (with_reducible refine sizeAdd ?_))))
set_option maxHeartbeats 400000 in
theorem specLessW (n d m c : Int) (w : World) (h1 : angW n d) (h2 : angW m c) :
    Calls Try.prog 88 #[ang n d, ang m c] w fun e w' => e = .returned (.bool (ltA n d m c)) ∧ Below w.heap.size w w' := by
  obtain ⟨a1, a2, a3, a4⟩ := h1
  obtain ⟨b1, b2, b3, b4⟩ := h2
  obtain ⟨p1, p2⟩ := mul_boundV (a := n) (b := c) (by omega) (by omega) (by omega) (by omega)
  obtain ⟨q1, q2⟩ := mul_boundV (a := m) (b := d) (by omega) (by omega) (by omega) (by omega)
  have E : Hid (ltA n d m c = decide (n * c < m * d)) := Lib.hid rfl
  generalize ltA n d m c = L at *
  go_enter Try.func88, Try.ntmps88
  go_wp2
  go_ret
  refine ⟨retB ?_, ?_⟩
  · rw [E.out]
  · (repeat' (first | (with_reducible exact Below.refl _ _) | (with_reducible assumption) | (with_reducible refine belowNext ?_ (by with_reducible assumption)) | (with_reducible refine belowAlloc ?_ _) | (with_reducible refine Below.drew ?_) | (with_reducible refine below_drewN ?_ _) | (with_reducible refine Below.setCell ?_ ?_ _) | go_size | (with_reducible refine sizeOf' ?_) | (with_reducible refine sizeAdd ?_) | (dsimp only; first | (with_reducible refine sizeOf' ?_) | (with_reducible refine sizeAdd ?_))))

/-- The smaller one of f and b, f if they are equal. -/
def minN (f1 f2 b1 b2 : Int) : Int := if ltA b1 b2 f1 f2 then b1 else f1
def minD (f1 f2 b1 b2 : Int) : Int := if ltA b1 b2 f1 f2 then b2 else f2

set_option maxHeartbeats 1000000 in
theorem specDist1 (n d m c : Int) (w : World) (h1 : angOk n d) (h2 : angOk m c) :
    Calls Try.prog 61 #[ang n d, ang m c] w fun e w' => e = .returned (ang (minN (redN (m * d - n * c) (d * c)) (redD (m * d - n * c) (d * c)) (redN (-(m * d - n * c)) (d * c)) (redD (-(m * d - n * c)) (d * c))) (minD (redN (m * d - n * c) (d * c)) (redD (m * d - n * c) (d * c)) (redN (-(m * d - n * c)) (d * c)) (redD (-(m * d - n * c)) (d * c)))) ∧ Below w.heap.size w w' := by
  obtain ⟨a1, a2, a3, a4⟩ := h1
  obtain ⟨b1, b2, b3, b4⟩ := h2
  obtain ⟨p1, p2⟩ := mul_bound (a := n) (b := c) (by omega) (by omega) (by omega) (by omega)
  obtain ⟨q1, q2⟩ := mul_bound (a := m) (b := d) (by omega) (by omega) (by omega) (by omega)
  obtain ⟨r1, r2⟩ := mul_bound (a := d) (b := c) (by omega) (by omega) (by omega) (by omega)
  have r3 : 1 ≤ d * c := Int.mul_pos (by omega) (by omega)
  obtain ⟨t1, t2, t3, t4⟩ := red_bounds (m * d - n * c) (d * c) (by omega)
  obtain ⟨s1, s2, s3, s4⟩ := red_bounds (-(m * d - n * c)) (d * c) (by omega)
  have HR := Lib.hid (fun w => specRed (m * d - n * c) (d * c) w (by omega) (by omega) (by omega) (by omega))
  have HR' := Lib.hid (fun w => specRed (-(redN (m * d - n * c) (d * c))) (redD (m * d - n * c) (d * c)) w (by omega) (by omega) (by omega) (by omega))
  rw [← (red_neg (m * d - n * c) (d * c) (by omega)).1, ← (red_neg (m * d - n * c) (d * c) (by omega)).2] at HR'
  generalize redN (m * d - n * c) (d * c) = x at *
  generalize redD (m * d - n * c) (d * c) = y at *
  generalize redN (-(m * d - n * c)) (d * c) = x' at *
  generalize redD (-(m * d - n * c)) (d * c) = y' at *
  have HL := Lib.hid (fun w => specLessW x' y' x y w ⟨by omega, by omega, by omega, by omega⟩ ⟨by omega, by omega, by omega, by omega⟩)
  have HM : Hid (minN x y x' y' = if ltA x' y' x y then x' else x) := Lib.hid rfl
  have HN : Hid (minD x y x' y' = if ltA x' y' x y then y' else y) := Lib.hid rfl
  generalize minN x y x' y' = X at *
  generalize minD x y x' y' = Y at *
  generalize ltA x' y' x y = L at *
  cases L
  all_goals
    go_enter Try.func61, Try.ntmps61
    go_wp2_with fail
    refine (HR.out _).mono ?_
    rintro e w1 ⟨rfl, hb1⟩
    have hz1 : w.heap.size + 1 + 1 < w1.heap.size := by have := hb1.size; simp at this; omega
    obtain ⟨hc1, hf1⟩ := bcell hb1
    go_wp2_with fail
    refine (HR'.out _).mono ?_
    rintro e w2 ⟨rfl, hb2⟩
    have hz2 : w.heap.size + 1 + 1 < w2.heap.size := by have := hb2.size; simp at this; omega
    have hz2' : w1.heap.size < w2.heap.size := by have := hb2.size; simp at this; omega
    obtain ⟨hc2, hf2⟩ := bcell hb2
    go_wp2_with fail
    refine (HL.out _).mono ?_
    rintro e w3 ⟨rfl, hb3⟩
    have hz3 : w.heap.size + 1 + 1 < w3.heap.size := by have := hb3.size; simp at this; omega
    have hz3' : w1.heap.size < w3.heap.size := by have := hb3.size; simp at this; omega
    obtain ⟨hc3, hf3⟩ := bcell hb3
    have k0 : w3.cell? ⟨w.heap.size + 1 + 1, 0, none⟩ = some (.int .i64 0) := cellThru hb3 (by simp; omega) ((World.cell?_alloc_past _ _ _ hz2).trans (cellThru hb2 (by simp; omega) ((World.cell?_alloc_past _ _ _ hz1).trans (cellThru hb1 (by simp) (by simp [go_sem])))))
    have k1 : w3.cell? ⟨w.heap.size + 1 + 1, 1, none⟩ = some (.int .i64 0) := cellThru hb3 (by simp; omega) ((World.cell?_alloc_past _ _ _ hz2).trans (cellThru hb2 (by simp; omega) ((World.cell?_alloc_past _ _ _ hz1).trans (cellThru hb1 (by simp) (by simp [go_sem])))))
    have j0 : w3.frozen? ⟨w.heap.size + 1 + 1, 0, none⟩ = false := frozThru hb3 (by simp; omega) ((World.frozen?_alloc_past _ _ _ hz2).trans (frozThru hb2 (by simp; omega) ((World.frozen?_alloc_past _ _ _ hz1).trans (frozThru hb1 (by simp) (by simp [go_sem])))))
    have j1 : w3.frozen? ⟨w.heap.size + 1 + 1, 1, none⟩ = false := frozThru hb3 (by simp; omega) ((World.frozen?_alloc_past _ _ _ hz2).trans (frozThru hb2 (by simp; omega) ((World.frozen?_alloc_past _ _ _ hz1).trans (frozThru hb1 (by simp) (by simp [go_sem])))))
    have u0 : w3.cell? ⟨w1.heap.size, 0, none⟩ = some (.int .i64 x) := cellThru hb3 (by simp; omega) ((World.cell?_alloc_past _ _ _ hz2').trans (cellThru hb2 (by simp) (by simp [go_sem])))
    have u1 : w3.cell? ⟨w1.heap.size, 1, none⟩ = some (.int .i64 y) := cellThru hb3 (by simp; omega) ((World.cell?_alloc_past _ _ _ hz2').trans (cellThru hb2 (by simp) (by simp [go_sem])))
    have s0 : w3.cell? ⟨w2.heap.size, 0, none⟩ = some (.int .i64 x') := cellThru hb3 (by simp) (by simp [go_sem])
    have s1 : w3.cell? ⟨w2.heap.size, 1, none⟩ = some (.int .i64 y') := cellThru hb3 (by simp) (by simp [go_sem])
    clear hc1 hf1 hc2 hf2 hc3 hf3
    go_wp2
  · refine bodyPost_ret (v := ang x y) (by simp [results, Try.results61, go_sem, k0, k1]) rfl ⟨retA (by rw [HM.out]; rfl) (by rw [HN.out]; rfl), ?_⟩
    (repeat' (first | (with_reducible exact Below.refl _ _) | (with_reducible assumption) | (with_reducible refine belowNext ?_ (by with_reducible assumption)) | (with_reducible refine belowAlloc ?_ _) | (with_reducible refine Below.drew ?_) | (with_reducible refine below_drewN ?_ _) | (with_reducible refine Below.setCell ?_ ?_ _) | go_size | (with_reducible refine sizeOf' ?_) | (with_reducible refine sizeAdd ?_) | (dsimp only; first | (with_reducible refine sizeOf' ?_) | (with_reducible refine sizeAdd ?_))))
  · refine bodyPost_ret (v := ang x' y') (by simp [results, Try.results61, go_sem, k0, k1]) rfl ⟨retA (by rw [HM.out]; rfl) (by rw [HN.out]; rfl), ?_⟩
    (repeat' (first | (with_reducible exact Below.refl _ _) | (with_reducible assumption) | (with_reducible refine belowNext ?_ (by with_reducible assumption)) | (with_reducible refine belowAlloc ?_ _) | (with_reducible refine Below.drew ?_) | (with_reducible refine below_drewN ?_ _) | (with_reducible refine Below.setCell ?_ ?_ _) | go_size | (with_reducible refine sizeOf' ?_) | (with_reducible refine sizeAdd ?_) | (dsimp only; first | (with_reducible refine sizeOf' ?_) | (with_reducible refine sizeAdd ?_))))
end Go.Proofs.Ytnciiodgkanpjaa

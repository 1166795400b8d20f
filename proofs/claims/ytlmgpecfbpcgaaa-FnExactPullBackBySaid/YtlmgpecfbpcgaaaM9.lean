/-
  Contracts: the majors of a leaf, as the model tells them.
-/
import Derived.Test.YtlmgpecfbpcgaaaM3
namespace Go.Proofs.Ytlmgpecfbpcgaaa
open Go.RowKit

/-- The halves of the ends of a leaf take turns. -/
theorem half_turn {a b c d : Int} (r1 : Red (a, b)) (r2 : Red (c, d)) (_ : ltA a b c d = true) : ltA (redN c (2 * d)) (redD c (2 * d)) (redN (a + b) (2 * b)) (redD (a + b) (2 * b)) = true := by
  obtain ⟨a1, -, a3, a4, -⟩ := r1
  obtain ⟨b1, -, b3, b4, -⟩ := r2
  dsimp only at *
  refine lt_halves b3 (by omega) (by omega) (by omega) ?_
  have e1 : c * (2 * b) = 2 * (c * b) := by ac_rfl
  have e2 : (a + b) * (2 * d) = 2 * (a * d) + 2 * (b * d) := by rw [Int.add_mul]; congr 1 <;> ac_rfl
  have p1 := Int.mul_lt_mul_of_pos_right b4 (show 0 < b by omega)
  have p2 := Int.mul_nonneg a3 (show 0 ≤ d by omega)
  have e3 : d * b = b * d := Int.mul_comm ..
  omega
theorem pairLess {x y u v e f g h : Int} (h1 : ltA x y e f = true) : lessL x y u v e f g h = true ∧ lessL e f g h x y u v = false := by
  constructor
  · unfold lessL
    have e : eqA x y e f = false := by rw [eqA_comm]; exact lt_ne h1
    rw [e, h1]; rfl
  · unfold lessL
    rw [lt_ne h1, lt_anti h1]; rfl

theorem lo3 {p q r : Prop} {w W : World} (H : p ∧ q ∧ Below w.heap.size w W ∧ r) : w.heap.size ≤ W.heap.size := H.2.2.1.size
/-- What is read in the region of the two leaves, kept. -/
theorem keepM {wb W w1 : World} {p q : Nat} {x0 y0 x1 y1 u0 v0 u1 v1 : Int} (hb : Below W.heap.size W w1)
    (H : p + 1 < W.heap.size ∧ q + 1 < W.heap.size ∧ Below wb.heap.size wb W ∧ W.cell? ⟨p, 0, none⟩ = some (.int .i64 x0) ∧ W.cell? ⟨p, 1, none⟩ = some (.int .i64 y0) ∧ W.cell? ⟨p + 1, 0, none⟩ = some (.int .i64 x1) ∧ W.cell? ⟨p + 1, 1, none⟩ = some (.int .i64 y1) ∧
      W.cell? ⟨q, 0, none⟩ = some (.int .i64 u0) ∧ W.cell? ⟨q, 1, none⟩ = some (.int .i64 v0) ∧ W.cell? ⟨q + 1, 0, none⟩ = some (.int .i64 u1) ∧ W.cell? ⟨q + 1, 1, none⟩ = some (.int .i64 v1)) :
    p + 1 < w1.heap.size ∧ q + 1 < w1.heap.size ∧ Below wb.heap.size wb w1 ∧ w1.cell? ⟨p, 0, none⟩ = some (.int .i64 x0) ∧ w1.cell? ⟨p, 1, none⟩ = some (.int .i64 y0) ∧ w1.cell? ⟨p + 1, 0, none⟩ = some (.int .i64 x1) ∧ w1.cell? ⟨p + 1, 1, none⟩ = some (.int .i64 y1) ∧
      w1.cell? ⟨q, 0, none⟩ = some (.int .i64 u0) ∧ w1.cell? ⟨q, 1, none⟩ = some (.int .i64 v0) ∧ w1.cell? ⟨q + 1, 0, none⟩ = some (.int .i64 u1) ∧ w1.cell? ⟨q + 1, 1, none⟩ = some (.int .i64 v1) := by
  obtain ⟨z0, z1, hB, h0, h1, h2, h3, h4, h5, h6, h7⟩ := H
  have hs := hb.size
  exact ⟨by omega, by omega, belowNext hB hb, cellThru hb (by omega) h0, cellThru hb (by omega) h1, cellThru hb z0 h2, cellThru hb z0 h3, cellThru hb (by omega) h4, cellThru hb (by omega) h5, cellThru hb z1 h6, cellThru hb z1 h7⟩

set_option maxRecDepth 4000 in
set_option maxHeartbeats 1000000 in
theorem specMjNo (a b c d : Int) (w : World) (r1 : Red (a, b)) (r2 : Red (c, d)) (h3 : pbHal a b c d = false) :
    Calls Try.prog 58 #[leafV a b c d] w fun e w' => e = .returned (.tuple #[.slice none 0 0, .bool false]) ∧ Below w.heap.size w w' := by
  have HE := Lib.hid (fun w => specEnds a b c d w (okOf r1) (okOf r2))
  have HX := Lib.hid (fun w => specHal3 a b w (okOf r1))
  have HY := Lib.hid (fun w => specHal3 c d w (okOf r2))
  unfold pbHal at h3
  clear r1 r2
  generalize redN a (2 * b) = x0 at *
  generalize redD a (2 * b) = y0 at *
  generalize redN (a + b) (2 * b) = x1 at *
  generalize redD (a + b) (2 * b) = y1 at *
  generalize redN c (2 * d) = u0 at *
  generalize redD c (2 * d) = v0 at *
  generalize redN (c + d) (2 * d) = u1 at *
  generalize redD (c + d) (2 * d) = v1 at *
  generalize halOk a b = K1 at *
  generalize halOk c d = K2 at *
  cases K1 <;> cases K2
  case true.true => cases h3
  all_goals
    clear h3
    go_enter Try.func58, Try.ntmps58
    go_wp2_with fail
    refine (HE.out _).mono ?_
    rintro e w1 ⟨hE, hb1⟩
    obtain ⟨hc1, hf1⟩ := bcell hb1
    have hz1_0 : w.heap.size < w1.heap.size := by have := hb1.size; first | omega | (simp at this; omega)
    rcases hE with rfl | rfl
    all_goals
      go_wp2_with fail
      first | with_reducible refine (HX.out _).mono ?_ | with_reducible refine (HY.out _).mono ?_
      rintro e w2 ⟨rfl, hb2⟩
      have hz2 : w1.heap.size + 1 < w2.heap.size := by have := hb2.size; simp at this; omega
      have hz2' : w1.heap.size < w2.heap.size := by omega
      obtain ⟨hc2, hf2⟩ := bcell hb2
      go_wp2_with fail
      first | with_reducible refine (HX.out _).mono ?_ | with_reducible refine (HY.out _).mono ?_
      rintro e w3 ⟨rfl, hb3⟩
      go_wp2
      refine bodyPost_ret (v := .tuple #[.slice none 0 0, .bool false]) (by simp [results, Try.results58, go_sem]) rfl ⟨rfl, ?_⟩
      (repeat' (first | (with_reducible exact Below.refl _ _) | (with_reducible assumption) | (with_reducible refine belowNext ?_ (by with_reducible assumption)) | (with_reducible refine belowAlloc ?_ _) | (with_reducible refine Below.drew ?_) | (with_reducible refine below_drewN ?_ _) | (with_reducible refine Below.setCell ?_ ?_ _) | go_size | (with_reducible refine sizeOf' ?_) | (with_reducible refine sizeAdd ?_) | (dsimp only; first | (with_reducible refine sizeOf' ?_) | (with_reducible refine sizeAdd ?_))))

/-- The majors in a row of their own. -/
def ResMj (w : World) (l : List Lf4) (e : Ending) (w' : World) : Prop :=
  ∃ A, e = .returned (.tuple #[.slice A 2 2, .bool true]) ∧ LfOwn w' w.heap.size A l ∧ Below w.heap.size w w'

set_option maxHeartbeats 4000000 in
theorem specMj (a b c d : Int) (w : World) (h : isLf a b c d = true) (h3 : pbHal a b c d = true) :
    Calls Try.prog 58 #[leafV a b c d] w (ResMj w (wayX a b c d)) := by
  obtain ⟨r1, r2, hlt⟩ := isLf_yes h
  have HE := Lib.hid (fun w => specEnds a b c d w (okOf r1) (okOf r2))
  have HX := Lib.hid (fun w => specHal3 a b w (okOf r1))
  have HY := Lib.hid (fun w => specHal3 c d w (okOf r2))
  have j1 : halOk a b = true := by unfold pbHal at h3; rw [Bool.and_eq_true] at h3; exact h3.1
  have j2 : halOk c d = true := by unfold pbHal at h3; rw [Bool.and_eq_true] at h3; exact h3.2
  have g1 : redD a (2 * b) ≤ 8191 ∧ redD (a + b) (2 * b) ≤ 8191 := by unfold halOk at j1; exact of_decide_eq_true j1
  have g2 : redD c (2 * d) ≤ 8191 ∧ redD (c + d) (2 * d) ≤ 8191 := by unfold halOk at j2; exact of_decide_eq_true j2
  have ok : ∀ n m, 0 < m → redD n m ≤ 8191 → angOk (redN n m) (redD n m) := fun n m hm hr => by
    obtain ⟨t1, t2, t3, t4⟩ := redBd n m hm
    exact ⟨t3, hr, t1, t2⟩
  have o1 := ok a (2 * b) (by have := r1.1; dsimp only at this; omega) g1.1
  have o2 := ok (a + b) (2 * b) (by have := r1.1; dsimp only at this; omega) g1.2
  have o3 := ok c (2 * d) (by have := r2.1; dsimp only at this; omega) g2.1
  have o4 := ok (c + d) (2 * d) (by have := r2.1; dsimp only at this; omega) g2.2
  obtain ⟨t1, t2, -⟩ := half_order r1 r2 hlt
  have t3 := half_turn r1 r2 hlt
  unfold wayX
  rw [j1] at HX
  rw [j2] at HY
  clear r1 r2 j1 j2 g1 g2 ok h3 h hlt
  generalize redN a (2 * b) = x0 at *
  generalize redD a (2 * b) = y0 at *
  generalize redN (a + b) (2 * b) = x1 at *
  generalize redD (a + b) (2 * b) = y1 at *
  generalize redN c (2 * d) = u0 at *
  generalize redD c (2 * d) = v0 at *
  generalize redN (c + d) (2 * d) = u1 at *
  generalize redD (c + d) (2 * d) = v1 at *
  have HA : Hid (∀ w, Calls Try.prog 100 #[ang x0 y0, ang u1 v1] w fun e w' => e = .returned (leafV x0 y0 u1 v1) ∧ Below w.heap.size w w') := Lib.hid (fun w => by
    have := specLB x0 y0 u1 v1 w o1 o4 (.inl (by have := of_decide_eq_true t2; omega))
    obtain ⟨d1, d2, d3, d4⟩ := lf_yes t2
    rw [d1, d2, d3, d4] at this
    exact this)
  have HB : Hid (∀ w, Calls Try.prog 100 #[ang u0 v0, ang x1 y1] w fun e w' => e = .returned (leafV u0 v0 x1 y1) ∧ Below w.heap.size w w') := Lib.hid (fun w => by
    have := specLB u0 v0 x1 y1 w o3 o2 (.inl (by have := of_decide_eq_true t3; omega))
    obtain ⟨d1, d2, d3, d4⟩ := lf_yes t3
    rw [d1, d2, d3, d4] at this
    exact this)
  have HP1 : Hid (∀ w, Calls Try.prog 99 #[leafV u0 v0 x1 y1, leafV x0 y0 u1 v1] w (ResPair w [(x0, y0, u1, v1), (u0, v0, x1, y1)])) := Lib.hid (fun w => by
    have := specPairL u0 v0 x1 y1 x0 y0 u1 v1 w o3 o2 o1 o4
    rw [(pairLess t1).1] at this
    exact this)
  have HP2 : Hid (∀ w, Calls Try.prog 99 #[leafV x0 y0 u1 v1, leafV u0 v0 x1 y1] w (ResPair w [(x0, y0, u1, v1), (u0, v0, x1, y1)])) := Lib.hid (fun w => by
    have := specPairL x0 y0 u1 v1 u0 v0 x1 y1 w o1 o4 o3 o2
    rw [(pairLess t1).2] at this
    exact this)
  clear o1 o2 o3 o4 t1 t2 t3
  go_enter Try.func58, Try.ntmps58
  go_wp2_with fail
  refine (HE.out _).mono ?_
  rintro e w1 ⟨hE, hb1⟩
  obtain ⟨hc1, hf1⟩ := bcell hb1
  have hz1_0 : w.heap.size < w1.heap.size := by have := hb1.size; first | omega | (simp at this; omega)
  have B1 : Below w.heap.size w w1 := by
    (repeat' (first | (with_reducible exact Below.refl _ _) | (with_reducible assumption) | (with_reducible refine belowNext ?_ (by with_reducible assumption)) | (with_reducible refine belowAlloc ?_ _) | (with_reducible refine Below.drew ?_) | (with_reducible refine below_drewN ?_ _) | (with_reducible refine Below.setCell ?_ ?_ _) | go_size | (with_reducible refine sizeOf' ?_) | (with_reducible refine sizeAdd ?_) | (dsimp only; first | (with_reducible refine sizeOf' ?_) | (with_reducible refine sizeAdd ?_))))
  clear hb1 hc1 hf1 hz1_0
  rcases hE with rfl | rfl
  · go_wp2_with fail
    refine (HX.out _).mono ?_
    rintro e w2 ⟨rfl, hb2⟩
    have hz2 : w1.heap.size + 1 < w2.heap.size := by have := hb2.size; simp at this; omega
    have hz2' : w1.heap.size < w2.heap.size := by omega
    obtain ⟨hc2, hf2⟩ := bcell hb2
    have B2 : Below w.heap.size w w2 := by
      (repeat' (first | (with_reducible exact Below.refl _ _) | (with_reducible assumption) | (with_reducible refine belowNext ?_ (by with_reducible assumption)) | (with_reducible refine belowAlloc ?_ _) | (with_reducible refine Below.drew ?_) | (with_reducible refine below_drewN ?_ _) | (with_reducible refine Below.setCell ?_ ?_ _) | go_size | (with_reducible refine sizeOf' ?_) | (with_reducible refine sizeAdd ?_) | (dsimp only; first | (with_reducible refine sizeOf' ?_) | (with_reducible refine sizeAdd ?_))))
    go_wp2_with fail
    refine (HY.out _).mono ?_
    rintro e w3 ⟨rfl, hb3⟩
    have hz3 : w2.heap.size + 1 < w3.heap.size := by have := hb3.size; simp at this; omega
    have hz3' : w2.heap.size < w3.heap.size := by omega
    have B3 : Below w.heap.size w w3 := by
      (repeat' (first | (with_reducible exact Below.refl _ _) | (with_reducible assumption) | (with_reducible refine belowNext ?_ (by with_reducible assumption)) | (with_reducible refine belowAlloc ?_ _) | (with_reducible refine Below.drew ?_) | (with_reducible refine below_drewN ?_ _) | (with_reducible refine Below.setCell ?_ ?_ _) | go_size | (with_reducible refine sizeOf' ?_) | (with_reducible refine sizeAdd ?_) | (dsimp only; first | (with_reducible refine sizeOf' ?_) | (with_reducible refine sizeAdd ?_))))
    have p0 : w3.cell? ⟨w2.heap.size, 0, none⟩ = some (.int .i64 x0) := cellThru hb3 (by simp <;> omega) (by simp [go_sem])
    have p1 : w3.cell? ⟨w2.heap.size, 1, none⟩ = some (.int .i64 y0) := cellThru hb3 (by simp <;> omega) (by simp [go_sem])
    have p2 : w3.cell? ⟨w2.heap.size + 1, 0, none⟩ = some (.int .i64 x1) := cellThru hb3 (by simp <;> omega) (by simp [go_sem])
    have p3 : w3.cell? ⟨w2.heap.size + 1, 1, none⟩ = some (.int .i64 y1) := cellThru hb3 (by simp <;> omega) (by simp [go_sem])
    have B4 := (belowAlloc (belowAlloc (Below.refl w3.heap.size w3) (.cells #[.int .i64 u0, .int .i64 v0] 24)) (.cells #[.int .i64 u1, .int .i64 v1] 24)).drew
    have H0 : w2.heap.size + 1 < ((w3.alloc (.cells #[.int .i64 u0, .int .i64 v0] 24)).alloc (.cells #[.int .i64 u1, .int .i64 v1] 24)).drew.heap.size ∧ w3.heap.size + 1 < ((w3.alloc (.cells #[.int .i64 u0, .int .i64 v0] 24)).alloc (.cells #[.int .i64 u1, .int .i64 v1] 24)).drew.heap.size ∧ Below w.heap.size w ((w3.alloc (.cells #[.int .i64 u0, .int .i64 v0] 24)).alloc (.cells #[.int .i64 u1, .int .i64 v1] 24)).drew ∧ ((w3.alloc (.cells #[.int .i64 u0, .int .i64 v0] 24)).alloc (.cells #[.int .i64 u1, .int .i64 v1] 24)).drew.cell? ⟨w2.heap.size, 0, none⟩ = some (.int .i64 x0) ∧ ((w3.alloc (.cells #[.int .i64 u0, .int .i64 v0] 24)).alloc (.cells #[.int .i64 u1, .int .i64 v1] 24)).drew.cell? ⟨w2.heap.size, 1, none⟩ = some (.int .i64 y0) ∧ ((w3.alloc (.cells #[.int .i64 u0, .int .i64 v0] 24)).alloc (.cells #[.int .i64 u1, .int .i64 v1] 24)).drew.cell? ⟨w2.heap.size + 1, 0, none⟩ = some (.int .i64 x1) ∧ ((w3.alloc (.cells #[.int .i64 u0, .int .i64 v0] 24)).alloc (.cells #[.int .i64 u1, .int .i64 v1] 24)).drew.cell? ⟨w2.heap.size + 1, 1, none⟩ = some (.int .i64 y1) ∧
        ((w3.alloc (.cells #[.int .i64 u0, .int .i64 v0] 24)).alloc (.cells #[.int .i64 u1, .int .i64 v1] 24)).drew.cell? ⟨w3.heap.size, 0, none⟩ = some (.int .i64 u0) ∧ ((w3.alloc (.cells #[.int .i64 u0, .int .i64 v0] 24)).alloc (.cells #[.int .i64 u1, .int .i64 v1] 24)).drew.cell? ⟨w3.heap.size, 1, none⟩ = some (.int .i64 v0) ∧ ((w3.alloc (.cells #[.int .i64 u0, .int .i64 v0] 24)).alloc (.cells #[.int .i64 u1, .int .i64 v1] 24)).drew.cell? ⟨w3.heap.size + 1, 0, none⟩ = some (.int .i64 u1) ∧ ((w3.alloc (.cells #[.int .i64 u0, .int .i64 v0] 24)).alloc (.cells #[.int .i64 u1, .int .i64 v1] 24)).drew.cell? ⟨w3.heap.size + 1, 1, none⟩ = some (.int .i64 v1) :=
      ⟨by simp; omega, by simp, belowNext B3 B4, cellThru B4 hz3' p0, cellThru B4 hz3' p1, cellThru B4 hz3 p2, cellThru B4 hz3 p3, by simp [go_sem], by simp [go_sem], by simp [go_sem], by simp [go_sem]⟩
    clear p0 p1 p2 p3 B4 hb2 hb3 hc2 hf2 B2 hz2 hz2' B1
    go_wp2_with fail
    go_region_held3 (fun W' => w2.heap.size + 1 < W'.heap.size ∧ w3.heap.size + 1 < W'.heap.size ∧ Below w.heap.size w W' ∧ W'.cell? ⟨w2.heap.size, 0, none⟩ = some (.int .i64 x0) ∧ W'.cell? ⟨w2.heap.size, 1, none⟩ = some (.int .i64 y0) ∧ W'.cell? ⟨w2.heap.size + 1, 0, none⟩ = some (.int .i64 x1) ∧ W'.cell? ⟨w2.heap.size + 1, 1, none⟩ = some (.int .i64 y1) ∧
        W'.cell? ⟨w3.heap.size, 0, none⟩ = some (.int .i64 u0) ∧ W'.cell? ⟨w3.heap.size, 1, none⟩ = some (.int .i64 v0) ∧ W'.cell? ⟨w3.heap.size + 1, 0, none⟩ = some (.int .i64 u1) ∧ W'.cell? ⟨w3.heap.size + 1, 1, none⟩ = some (.int .i64 v1))
      (first | with_reducible exact keepM (by with_reducible assumption) (by with_reducible assumption) | with_reducible exact H0)
      (first
      | (go_at_call 100; (with_reducible refine (HA.out _).mono ?_); rintro e' w4 ⟨rfl, hb4⟩)
      | (go_at_call 100; (with_reducible refine (HB.out _).mono ?_); rintro e' w5 ⟨rfl, hb5⟩)
      | (go_at_call 99; (with_reducible refine (HP1.out _).mono ?_); rintro e' w6 ⟨A, rfl, hO, hb6⟩; have hOl := hO.loM (lo3 (by with_reducible assumption))))
    all_goals
      rename_i hHeld
      go_wp2
      refine bodyPost_ret (v := .tuple #[.slice A 2 2, .bool true]) (by simp [results, Try.results58, go_sem]) rfl ⟨A, rfl, hOl, hHeld.2.2.1⟩
  · go_wp2_with fail
    refine (HY.out _).mono ?_
    rintro e w2 ⟨rfl, hb2⟩
    have hz2 : w1.heap.size + 1 < w2.heap.size := by have := hb2.size; simp at this; omega
    have hz2' : w1.heap.size < w2.heap.size := by omega
    obtain ⟨hc2, hf2⟩ := bcell hb2
    have B2 : Below w.heap.size w w2 := by
      (repeat' (first | (with_reducible exact Below.refl _ _) | (with_reducible assumption) | (with_reducible refine belowNext ?_ (by with_reducible assumption)) | (with_reducible refine belowAlloc ?_ _) | (with_reducible refine Below.drew ?_) | (with_reducible refine below_drewN ?_ _) | (with_reducible refine Below.setCell ?_ ?_ _) | go_size | (with_reducible refine sizeOf' ?_) | (with_reducible refine sizeAdd ?_) | (dsimp only; first | (with_reducible refine sizeOf' ?_) | (with_reducible refine sizeAdd ?_))))
    go_wp2_with fail
    refine (HX.out _).mono ?_
    rintro e w3 ⟨rfl, hb3⟩
    have hz3 : w2.heap.size + 1 < w3.heap.size := by have := hb3.size; simp at this; omega
    have hz3' : w2.heap.size < w3.heap.size := by omega
    have B3 : Below w.heap.size w w3 := by
      (repeat' (first | (with_reducible exact Below.refl _ _) | (with_reducible assumption) | (with_reducible refine belowNext ?_ (by with_reducible assumption)) | (with_reducible refine belowAlloc ?_ _) | (with_reducible refine Below.drew ?_) | (with_reducible refine below_drewN ?_ _) | (with_reducible refine Below.setCell ?_ ?_ _) | go_size | (with_reducible refine sizeOf' ?_) | (with_reducible refine sizeAdd ?_) | (dsimp only; first | (with_reducible refine sizeOf' ?_) | (with_reducible refine sizeAdd ?_))))
    have p0 : w3.cell? ⟨w2.heap.size, 0, none⟩ = some (.int .i64 u0) := cellThru hb3 (by simp <;> omega) (by simp [go_sem])
    have p1 : w3.cell? ⟨w2.heap.size, 1, none⟩ = some (.int .i64 v0) := cellThru hb3 (by simp <;> omega) (by simp [go_sem])
    have p2 : w3.cell? ⟨w2.heap.size + 1, 0, none⟩ = some (.int .i64 u1) := cellThru hb3 (by simp <;> omega) (by simp [go_sem])
    have p3 : w3.cell? ⟨w2.heap.size + 1, 1, none⟩ = some (.int .i64 v1) := cellThru hb3 (by simp <;> omega) (by simp [go_sem])
    have B4 := (belowAlloc (belowAlloc (Below.refl w3.heap.size w3) (.cells #[.int .i64 x0, .int .i64 y0] 24)) (.cells #[.int .i64 x1, .int .i64 y1] 24)).drew
    have H0 : w2.heap.size + 1 < ((w3.alloc (.cells #[.int .i64 x0, .int .i64 y0] 24)).alloc (.cells #[.int .i64 x1, .int .i64 y1] 24)).drew.heap.size ∧ w3.heap.size + 1 < ((w3.alloc (.cells #[.int .i64 x0, .int .i64 y0] 24)).alloc (.cells #[.int .i64 x1, .int .i64 y1] 24)).drew.heap.size ∧ Below w.heap.size w ((w3.alloc (.cells #[.int .i64 x0, .int .i64 y0] 24)).alloc (.cells #[.int .i64 x1, .int .i64 y1] 24)).drew ∧ ((w3.alloc (.cells #[.int .i64 x0, .int .i64 y0] 24)).alloc (.cells #[.int .i64 x1, .int .i64 y1] 24)).drew.cell? ⟨w2.heap.size, 0, none⟩ = some (.int .i64 u0) ∧ ((w3.alloc (.cells #[.int .i64 x0, .int .i64 y0] 24)).alloc (.cells #[.int .i64 x1, .int .i64 y1] 24)).drew.cell? ⟨w2.heap.size, 1, none⟩ = some (.int .i64 v0) ∧ ((w3.alloc (.cells #[.int .i64 x0, .int .i64 y0] 24)).alloc (.cells #[.int .i64 x1, .int .i64 y1] 24)).drew.cell? ⟨w2.heap.size + 1, 0, none⟩ = some (.int .i64 u1) ∧ ((w3.alloc (.cells #[.int .i64 x0, .int .i64 y0] 24)).alloc (.cells #[.int .i64 x1, .int .i64 y1] 24)).drew.cell? ⟨w2.heap.size + 1, 1, none⟩ = some (.int .i64 v1) ∧
        ((w3.alloc (.cells #[.int .i64 x0, .int .i64 y0] 24)).alloc (.cells #[.int .i64 x1, .int .i64 y1] 24)).drew.cell? ⟨w3.heap.size, 0, none⟩ = some (.int .i64 x0) ∧ ((w3.alloc (.cells #[.int .i64 x0, .int .i64 y0] 24)).alloc (.cells #[.int .i64 x1, .int .i64 y1] 24)).drew.cell? ⟨w3.heap.size, 1, none⟩ = some (.int .i64 y0) ∧ ((w3.alloc (.cells #[.int .i64 x0, .int .i64 y0] 24)).alloc (.cells #[.int .i64 x1, .int .i64 y1] 24)).drew.cell? ⟨w3.heap.size + 1, 0, none⟩ = some (.int .i64 x1) ∧ ((w3.alloc (.cells #[.int .i64 x0, .int .i64 y0] 24)).alloc (.cells #[.int .i64 x1, .int .i64 y1] 24)).drew.cell? ⟨w3.heap.size + 1, 1, none⟩ = some (.int .i64 y1) :=
      ⟨by simp; omega, by simp, belowNext B3 B4, cellThru B4 hz3' p0, cellThru B4 hz3' p1, cellThru B4 hz3 p2, cellThru B4 hz3 p3, by simp [go_sem], by simp [go_sem], by simp [go_sem], by simp [go_sem]⟩
    clear p0 p1 p2 p3 B4 hb2 hb3 hc2 hf2 B2 hz2 hz2' B1
    go_wp2_with fail
    go_region_held3 (fun W' => w2.heap.size + 1 < W'.heap.size ∧ w3.heap.size + 1 < W'.heap.size ∧ Below w.heap.size w W' ∧ W'.cell? ⟨w2.heap.size, 0, none⟩ = some (.int .i64 u0) ∧ W'.cell? ⟨w2.heap.size, 1, none⟩ = some (.int .i64 v0) ∧ W'.cell? ⟨w2.heap.size + 1, 0, none⟩ = some (.int .i64 u1) ∧ W'.cell? ⟨w2.heap.size + 1, 1, none⟩ = some (.int .i64 v1) ∧
        W'.cell? ⟨w3.heap.size, 0, none⟩ = some (.int .i64 x0) ∧ W'.cell? ⟨w3.heap.size, 1, none⟩ = some (.int .i64 y0) ∧ W'.cell? ⟨w3.heap.size + 1, 0, none⟩ = some (.int .i64 x1) ∧ W'.cell? ⟨w3.heap.size + 1, 1, none⟩ = some (.int .i64 y1))
      (first | with_reducible exact keepM (by with_reducible assumption) (by with_reducible assumption) | with_reducible exact H0)
      (first
      | (go_at_call 100; (with_reducible refine (HA.out _).mono ?_); rintro e' w4 ⟨rfl, hb4⟩)
      | (go_at_call 100; (with_reducible refine (HB.out _).mono ?_); rintro e' w5 ⟨rfl, hb5⟩)
      | (go_at_call 99; (with_reducible refine (HP2.out _).mono ?_); rintro e' w6 ⟨A, rfl, hO, hb6⟩; have hOl := hO.loM (lo3 (by with_reducible assumption))))
    all_goals
      rename_i hHeld
      go_wp2
      refine bodyPost_ret (v := .tuple #[.slice A 2 2, .bool true]) (by simp [results, Try.results58, go_sem]) rfl ⟨A, rfl, hOl, hHeld.2.2.1⟩

set_option maxHeartbeats 1000000 in
theorem specMaj (a b c d : Int) (w : World) : Calls Try.prog 25 #[leafV a b c d] w (ResLf w (mjL a b c d) (mjC a b c d)) := by
  have H1 := Lib.hid (fun w => specLf1 a b c d w)
  cases h : isLf a b c d
  · obtain ⟨E1, E2⟩ := mj_no h
    rw [E1, E2]
    rw [h] at H1
    clear h E1 E2
    go_enter Try.func25, Try.ntmps25
    go_wp2_with fail
    refine (H1.out _).mono ?_
    rintro e w1 ⟨rfl, hb1⟩
    obtain ⟨hc1, hf1⟩ := bcell hb1
    have hz1_0 : w.heap.size < w1.heap.size := by have := hb1.size; first | omega | (simp at this; omega)
    go_wp2
    go_ret2
    refine ⟨none, 0, rfl, lfOwn_nil, ?_⟩
    (repeat' (first | (with_reducible exact Below.refl _ _) | (with_reducible assumption) | (with_reducible refine belowNext ?_ (by with_reducible assumption)) | (with_reducible refine belowAlloc ?_ _) | (with_reducible refine Below.drew ?_) | (with_reducible refine below_drewN ?_ _) | (with_reducible refine Below.setCell ?_ ?_ _) | go_size | (with_reducible refine sizeOf' ?_) | (with_reducible refine sizeAdd ?_) | (dsimp only; first | (with_reducible refine sizeOf' ?_) | (with_reducible refine sizeAdd ?_))))
  · obtain ⟨r1, r2, -⟩ := isLf_yes h
    have H2 := Lib.hid (fun w => specLong a b c d w (okOf r1) (okOf r2))
    rw [h] at H1
    cases h2 : shortB a b c d
    · obtain ⟨E1, E2⟩ := mj_long h h2
      rw [E1, E2]
      rw [h2] at H2
      clear h E1 E2 h2 r1 r2
      go_enter Try.func25, Try.ntmps25
      go_wp2_with fail
      refine (H1.out _).mono ?_
      rintro e w1 ⟨rfl, hb1⟩
      obtain ⟨hc1, hf1⟩ := bcell hb1
      have hz1_0 : w.heap.size < w1.heap.size := by have := hb1.size; first | omega | (simp at this; omega)
      go_wp2_with fail
      refine (H2.out _).mono ?_
      rintro e w2 ⟨rfl, hb2⟩
      obtain ⟨hc2, hf2⟩ := bcell hb2
      have hz2_0 : w.heap.size < w2.heap.size := by have := hb2.size; first | omega | (simp at this; omega)
      go_wp2
      go_ret2
      refine ⟨none, 0, rfl, lfOwn_nil, ?_⟩
      (repeat' (first | (with_reducible exact Below.refl _ _) | (with_reducible assumption) | (with_reducible refine belowNext ?_ (by with_reducible assumption)) | (with_reducible refine belowAlloc ?_ _) | (with_reducible refine Below.drew ?_) | (with_reducible refine below_drewN ?_ _) | (with_reducible refine Below.setCell ?_ ?_ _) | go_size | (with_reducible refine sizeOf' ?_) | (with_reducible refine sizeAdd ?_) | (dsimp only; first | (with_reducible refine sizeOf' ?_) | (with_reducible refine sizeAdd ?_))))
    · rw [h2] at H2
      cases h3 : pbHal a b c d
      · obtain ⟨E1, E2⟩ := mj_far h h2 h3
        rw [E1, E2]
        have H3 := Lib.hid (fun w => specMjNo a b c d w r1 r2 h3)
        clear h E1 E2 h2 r1 r2 h3
        go_enter Try.func25, Try.ntmps25
        go_wp2_with fail
        refine (H1.out _).mono ?_
        rintro e w1 ⟨rfl, hb1⟩
        obtain ⟨hc1, hf1⟩ := bcell hb1
        have hz1_0 : w.heap.size < w1.heap.size := by have := hb1.size; first | omega | (simp at this; omega)
        go_wp2_with fail
        refine (H2.out _).mono ?_
        rintro e w2 ⟨rfl, hb2⟩
        obtain ⟨hc2, hf2⟩ := bcell hb2
        have hz2_0 : w.heap.size < w2.heap.size := by have := hb2.size; first | omega | (simp at this; omega)
        go_wp2_with fail
        refine (H3.out _).mono ?_
        rintro e w3 ⟨rfl, hb3⟩
        obtain ⟨hc3, hf3⟩ := bcell hb3
        have hz3_0 : w.heap.size < w3.heap.size := by have := hb3.size; first | omega | (simp at this; omega)
        go_wp2
        go_ret2
        refine ⟨none, 0, rfl, lfOwn_nil, ?_⟩
        (repeat' (first | (with_reducible exact Below.refl _ _) | (with_reducible assumption) | (with_reducible refine belowNext ?_ (by with_reducible assumption)) | (with_reducible refine belowAlloc ?_ _) | (with_reducible refine Below.drew ?_) | (with_reducible refine below_drewN ?_ _) | (with_reducible refine Below.setCell ?_ ?_ _) | go_size | (with_reducible refine sizeOf' ?_) | (with_reducible refine sizeAdd ?_) | (dsimp only; first | (with_reducible refine sizeOf' ?_) | (with_reducible refine sizeAdd ?_))))
      · obtain ⟨E1, E2⟩ := mj_yes h h2 h3
        rw [E1, E2]
        have H3 := Lib.hid (fun w => specMj a b c d w h h3)
        have HL : Hid ((wayX a b c d).length = 2) := Lib.hid rfl
        clear h E1 E2 h2 r1 r2 h3
        generalize wayX a b c d = L at *
        go_enter Try.func25, Try.ntmps25
        go_wp2_with fail
        refine (H1.out _).mono ?_
        rintro e w1 ⟨rfl, hb1⟩
        obtain ⟨hc1, hf1⟩ := bcell hb1
        have hz1_0 : w.heap.size < w1.heap.size := by have := hb1.size; first | omega | (simp at this; omega)
        go_wp2_with fail
        refine (H2.out _).mono ?_
        rintro e w2 ⟨rfl, hb2⟩
        obtain ⟨hc2, hf2⟩ := bcell hb2
        have hz2_0 : w.heap.size < w2.heap.size := by have := hb2.size; first | omega | (simp at this; omega)
        go_wp2_with fail
        refine (H3.out _).mono ?_
        rintro e w3 ⟨B, rfl, hO2, hb3⟩
        obtain ⟨hc3, hf3⟩ := bcell hb3
        have hz3_0 : w.heap.size < w3.heap.size := by have := hb3.size; first | omega | (simp at this; omega)
        have HO := Lib.hid hO2
        clear hO2
        go_wp2
        go_ret2
        refine ⟨B, 2, by rw [HL.out]; rfl, HO.out.loM (by have := hz2_0; omega), ?_⟩
        (repeat' (first | (with_reducible exact Below.refl _ _) | (with_reducible assumption) | (with_reducible refine belowNext ?_ (by with_reducible assumption)) | (with_reducible refine belowAlloc ?_ _) | (with_reducible refine Below.drew ?_) | (with_reducible refine below_drewN ?_ _) | (with_reducible refine Below.setCell ?_ ?_ _) | go_size | (with_reducible refine sizeOf' ?_) | (with_reducible refine sizeAdd ?_) | (dsimp only; first | (with_reducible refine sizeOf' ?_) | (with_reducible refine sizeAdd ?_))))
end Go.Proofs.Ytlmgpecfbpcgaaa

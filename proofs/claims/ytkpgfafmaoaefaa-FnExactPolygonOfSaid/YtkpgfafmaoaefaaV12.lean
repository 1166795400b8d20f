/-
  Contracts: leaves that are pulled back past a diameter: the program's way with an answer.
-/
import Derived.Test.YtkpgfafmaoaefaaV11
namespace Go.Proofs.Ytkpgfafmaoaefaa
open Go.RowKit

theorem lf4_eq {a b c d p q r s : Int} (h : lf4 a b c d = (p, q, r, s)) : lfA a b c d = p ∧ lfB a b c d = q ∧ lfC a b c d = r ∧ lfD a b c d = s := by
  unfold lf4 at h
  simpa using h

/-- What the region of the two leaves reads, kept. -/
theorem keepR {w W w1 : World} {b1 b2 o1 o2 : Nat} {x y x' y' u v u' v' : Int} (hb : Below W.heap.size W w1)
    (H : b1 < W.heap.size ∧ b2 < W.heap.size ∧ Below w.heap.size w W ∧ W.cell? ⟨b1, o1, none⟩ = some (.int .i64 x) ∧ W.cell? ⟨b1, o1 + 1, none⟩ = some (.int .i64 y) ∧ W.cell? ⟨b1, o1 + 2, none⟩ = some (.int .i64 x') ∧ W.cell? ⟨b1, o1 + 2 + 1, none⟩ = some (.int .i64 y') ∧
      W.cell? ⟨b2, o2, none⟩ = some (.int .i64 u) ∧ W.cell? ⟨b2, o2 + 1, none⟩ = some (.int .i64 v) ∧ W.cell? ⟨b2, o2 + 2, none⟩ = some (.int .i64 u') ∧ W.cell? ⟨b2, o2 + 2 + 1, none⟩ = some (.int .i64 v')) :
    b1 < w1.heap.size ∧ b2 < w1.heap.size ∧ Below w.heap.size w w1 ∧ w1.cell? ⟨b1, o1, none⟩ = some (.int .i64 x) ∧ w1.cell? ⟨b1, o1 + 1, none⟩ = some (.int .i64 y) ∧ w1.cell? ⟨b1, o1 + 2, none⟩ = some (.int .i64 x') ∧ w1.cell? ⟨b1, o1 + 2 + 1, none⟩ = some (.int .i64 y') ∧
      w1.cell? ⟨b2, o2, none⟩ = some (.int .i64 u) ∧ w1.cell? ⟨b2, o2 + 1, none⟩ = some (.int .i64 v) ∧ w1.cell? ⟨b2, o2 + 2, none⟩ = some (.int .i64 u') ∧ w1.cell? ⟨b2, o2 + 2 + 1, none⟩ = some (.int .i64 v') := by
  obtain ⟨z1, z2, hB, h0, h1, h2, h3, h4, h5, h6, h7⟩ := H
  have hs := hb.size
  exact ⟨by omega, by omega, belowNext hB hb, cellThru hb z1 h0, cellThru hb z1 h1, cellThru hb z1 h2, cellThru hb z1 h3, cellThru hb z2 h4, cellThru hb z2 h5, cellThru hb z2 h6, cellThru hb z2 h7⟩

theorem redBd (n d : Int) (hd : 0 < d) : 0 ≤ redN n d ∧ redN n d < redD n d ∧ 1 ≤ redD n d ∧ redD n d ≤ d := by
  have h1 := Int.emod_nonneg n (b := d) (by omega)
  have h2 := Int.emod_lt_of_pos n hd
  have hp := gcdI_pos (n % d) d hd
  have d1 : gcdI (n % d) d ∣ n % d := by unfold gcdI; exact Int.gcd_dvd_left ..
  have d2 : gcdI (n % d) d ∣ d := by unfold gcdI; exact Int.gcd_dvd_right ..
  obtain ⟨x, hx⟩ := d1
  obtain ⟨y, hy⟩ := d2
  unfold redN redD
  generalize gcdI (n % d) d = g at *
  generalize n % d = r at *
  subst hx hy
  rw [Int.mul_ediv_cancel_left _ (by omega), Int.mul_ediv_cancel_left _ (by omega)]
  have p0 : 0 ≤ x := by
    rcases (show x < 0 ∨ 0 ≤ x by omega) with h | h
    · have := Int.mul_neg_of_pos_of_neg hp h; omega
    · exact h
  have p1 : x < y := Int.lt_of_mul_lt_mul_left h2 (by omega)
  refine ⟨p0, p1, by omega, ?_⟩
  have := Int.mul_le_mul_of_nonneg_right (show 1 ≤ g by omega) (show 0 ≤ y by omega)
  omega

set_option maxHeartbeats 4000000 in
theorem implPb3 (a b c d e f g h : Int) (w : World) (h1 : pbOk a b c d e f g h = true) (h2 : pbSt a b c d e f g h = false) (h3 : pbHal a b c d = true) (h4 : pbSw a b c d e f g h = false) :
    Calls Try.prog 37 #[leafV a b c d, leafV e f g h] w (ResLf w (pbL a b c d e f g h) (pbC a b c d e f g h)) := by
  have HA : Hid (∀ (w : World) B cap, LfRow w w.heap.size (some ⟨B, 0, none⟩) [(a, b, c, d), (e, f, g, h)] → Calls Try.prog 86 #[.slice (some ⟨B, 0, none⟩) 2 cap] w fun e' w' => e' = .returned (.bool (pbOk a b c d e f g h)) ∧ Below w.heap.size w w') := Lib.hid (fun w B cap hh => by
    have := areLf (some ⟨B, 0, none⟩) 2 cap [(a, b, c, d), (e, f, g, h)] w hh rfl (by omega)
    have e2 : allLf [(a, b, c, d), (e, f, g, h)] = pbOk a b c d e f g h := by simp [allLf, pbOk]
    rw [e2] at this
    exact this)
  have hl : isLf a b c d = true := by unfold pbOk at h1; rw [Bool.and_eq_true] at h1; exact h1.1
  have hd : isLf e f g h = true := by unfold pbOk at h1; rw [Bool.and_eq_true] at h1; exact h1.2
  obtain ⟨r1, r2, -⟩ := isLf_yes hl
  obtain ⟨r3, r4, -⟩ := isLf_yes hd
  have HD := Lib.hid (fun w => implDbl e f w r3.1 r3.2.1 r3.2.2.1 (by obtain ⟨_, _, _, _⟩ := r3; omega))
  have HI := Lib.hid (fun w => implDia e f g h w (okOf r3) (okOf r4))
  have Q1 := fun W => eqlAng (redN (2 * e) f) (redD (2 * e) f) a b W
  have Q2 := fun W => eqlAng (redN (2 * e) f) (redD (2 * e) f) c d W
  rw [h1] at HA
  have h2' := h2
  unfold pbSt at h2'
  rcases st_cases (diaB e f g h) (eqA (redN (2 * e) f) (redD (2 * e) f) a b) (eqA (redN (2 * e) f) (redD (2 * e) f) c d) with ⟨s1, s4⟩ | ⟨s1, s2, s4⟩ | ⟨s1, s2, s3, s4⟩ | ⟨s1, s2, s3, s4⟩
  · rw [s4] at h2'; cases h2'
  · rw [s4] at h2'; cases h2'
  · rw [s4] at h2'; cases h2'
  rw [s1] at HI
  rw [s2] at Q1
  rw [s3] at Q2
  clear s1 s2 s3 s4 h2'
  obtain ⟨E1, E2⟩ := pb_ns h1 h2 h3 h4
  rw [E1, E2]
  have HH := Lib.hid (fun w => implHE a b c d w r1 r2 h3)
  have j1 : halOk a b = true := by unfold pbHal at h3; rw [Bool.and_eq_true] at h3; exact h3.1
  have j2 : halOk c d = true := by unfold pbHal at h3; rw [Bool.and_eq_true] at h3; exact h3.2
  have g1 : redD a (2 * b) ≤ 8191 ∧ redD (a + b) (2 * b) ≤ 8191 := by unfold halOk at j1; exact of_decide_eq_true j1
  have g2 : redD c (2 * d) ≤ 8191 ∧ redD (c + d) (2 * d) ≤ 8191 := by unfold halOk at j2; exact of_decide_eq_true j2
  have ok : ∀ n m, 0 < m → redD n m ≤ 8191 → angOk (redN n m) (redD n m) := fun n m hm hr => by
    obtain ⟨t1, t2, t3, t4⟩ := redBd n m hm
    exact ⟨t3, hr, t1, t2⟩
  have o1 := ok a (2 * b) (by have := r1.1; dsimp only at this; omega) g1.1
  have o2 := ok (a + b) (2 * b) (by have := r1.1; dsimp only at this; omega) g1.2
  have o3 := ok c (2 * d) (by have := r2.1; dsimp only at this; omega) g2.1
  have o4 := ok (c + d) (2 * d) (by have := r2.1; dsimp only at this; omega) g2.2
  have HR1 := Lib.hid (fun w => implArc (redN a (2 * b)) (redD a (2 * b)) e f g h w o1 (okOf r3) (okOf r4))
  have HR2 := Lib.hid (fun w => implArc (redN c (2 * d)) (redD c (2 * d)) e f g h w o3 (okOf r3) (okOf r4))
  unfold pbSw at h4
  clear j1 j2 h3 E1 E2 hl hd r1 r2 r3 r4 h1 h2 g1 g2 ok
  generalize redN a (2 * b) = x0 at *
  generalize redD a (2 * b) = y0 at *
  generalize redN (a + b) (2 * b) = x1 at *
  generalize redD (a + b) (2 * b) = y1 at *
  generalize redN c (2 * d) = u0 at *
  generalize redD c (2 * d) = v0 at *
  generalize redN (c + d) (2 * d) = u1 at *
  generalize redD (c + d) (2 * d) = v1 at *
  have HL1 := Lib.hid (fun w => implLB x0 y0 u0 v0 w o1 o3)
  have HL2 := Lib.hid (fun w => implLB x1 y1 u1 v1 w o2 o4)
  clear o1 o2 o3 o4
  generalize z1 : lf4 x0 y0 u0 v0 = F1 at *
  generalize z2 : lf4 x1 y1 u1 v1 = F2 at *
  obtain ⟨p1, p2, p3, p4⟩ := F1
  obtain ⟨q1, q2, q3, q4⟩ := F2
  obtain ⟨t1, t2, t3, t4⟩ := lf4_eq z1
  rw [t1, t2, t3, t4] at HL1
  clear t1 t2 t3 t4 z1
  obtain ⟨t1, t2, t3, t4⟩ := lf4_eq z2
  rw [t1, t2, t3, t4] at HL2
  clear t1 t2 t3 t4 z2
  generalize arcB x0 y0 e f g h = U1 at *
  generalize arcB u0 v0 e f g h = U2 at *
  obtain rfl : U2 = U1 := by cases U1 <;> cases U2 <;> first | rfl | cases h4
  clear h4
  generalize redN (2 * e) f = X at *
  generalize redD (2 * e) f = Y at *
  go_enter Try.func37, Try.ntmps37
  go_wp2_with fail
  refine (HA.out _ _ _ (by exact rowL2 _ _ _ _ _ _ _ _ _ _ _ (by simp))).mono ?_
  rintro e w1 ⟨rfl, hb1⟩
  obtain ⟨hc1, hf1⟩ := bcell hb1
  have hz1_0 : w.heap.size < w1.heap.size := by have := hb1.size; first | omega | (simp at this; omega)
  have hz1_1 : w.heap.size + 1 < w1.heap.size := by have := hb1.size; first | omega | (simp at this; omega)
  have q1_1_0 : w1.cell? ⟨w.heap.size + 1, 0, none⟩ = some (.int .i64 e) := cellThru hb1 (by simp <;> omega) (by simp [go_sem])
  have q1_1_1 : w1.cell? ⟨w.heap.size + 1, 1, none⟩ = some (.int .i64 f) := cellThru hb1 (by simp <;> omega) (by simp [go_sem])
  have q1_1_2 : w1.cell? ⟨w.heap.size + 1, 2, none⟩ = some (.int .i64 g) := cellThru hb1 (by simp <;> omega) (by simp [go_sem])
  have q1_1_3 : w1.cell? ⟨w.heap.size + 1, 3, none⟩ = some (.int .i64 h) := cellThru hb1 (by simp <;> omega) (by simp [go_sem])
  go_wp2_with fail
  refine (HD.out _).mono ?_
  rintro e w2 ⟨rfl, hb2⟩
  obtain ⟨hc2, hf2⟩ := bcell hb2
  have hz2_0 : w.heap.size < w2.heap.size := by have := hb2.size; first | omega | (simp at this; omega)
  have hz2_1 : w.heap.size + 1 < w2.heap.size := by have := hb2.size; first | omega | (simp at this; omega)
  have q2_1_0 : w2.cell? ⟨w.heap.size + 1, 0, none⟩ = some (.int .i64 e) := by first | exact cellThru hb2 hz1_1 q1_1_0 | (refine cellThru hb2 ?_ (cellThru (belowAlloc (Below.refl _ _) _) hz1_1 q1_1_0); first | omega | (simp; omega)) | (refine cellThru hb2 ?_ (cellThru (belowAlloc (belowAlloc (Below.refl _ _) _) _) hz1_1 q1_1_0); first | omega | (simp; omega)) | (refine cellThru hb2 ?_ ?_; (first | omega | (simp; omega) | go_size); simp [go_sem, q1_1_0])
  have q2_1_1 : w2.cell? ⟨w.heap.size + 1, 1, none⟩ = some (.int .i64 f) := by first | exact cellThru hb2 hz1_1 q1_1_1 | (refine cellThru hb2 ?_ (cellThru (belowAlloc (Below.refl _ _) _) hz1_1 q1_1_1); first | omega | (simp; omega)) | (refine cellThru hb2 ?_ (cellThru (belowAlloc (belowAlloc (Below.refl _ _) _) _) hz1_1 q1_1_1); first | omega | (simp; omega)) | (refine cellThru hb2 ?_ ?_; (first | omega | (simp; omega) | go_size); simp [go_sem, q1_1_1])
  have q2_1_2 : w2.cell? ⟨w.heap.size + 1, 2, none⟩ = some (.int .i64 g) := by first | exact cellThru hb2 hz1_1 q1_1_2 | (refine cellThru hb2 ?_ (cellThru (belowAlloc (Below.refl _ _) _) hz1_1 q1_1_2); first | omega | (simp; omega)) | (refine cellThru hb2 ?_ (cellThru (belowAlloc (belowAlloc (Below.refl _ _) _) _) hz1_1 q1_1_2); first | omega | (simp; omega)) | (refine cellThru hb2 ?_ ?_; (first | omega | (simp; omega) | go_size); simp [go_sem, q1_1_2])
  have q2_1_3 : w2.cell? ⟨w.heap.size + 1, 3, none⟩ = some (.int .i64 h) := by first | exact cellThru hb2 hz1_1 q1_1_3 | (refine cellThru hb2 ?_ (cellThru (belowAlloc (Below.refl _ _) _) hz1_1 q1_1_3); first | omega | (simp; omega)) | (refine cellThru hb2 ?_ (cellThru (belowAlloc (belowAlloc (Below.refl _ _) _) _) hz1_1 q1_1_3); first | omega | (simp; omega)) | (refine cellThru hb2 ?_ ?_; (first | omega | (simp; omega) | go_size); simp [go_sem, q1_1_3])
  go_wp2_with fail
  refine (HI.out _).mono ?_
  rintro e w3 ⟨rfl, hb3⟩
  obtain ⟨hc3, hf3⟩ := bcell hb3
  have hz3_0 : w.heap.size < w3.heap.size := by have := hb3.size; first | omega | (simp at this; omega)
  have hz3_1 : w.heap.size + 1 < w3.heap.size := by have := hb3.size; first | omega | (simp at this; omega)
  have q3_1_0 : w3.cell? ⟨w.heap.size + 1, 0, none⟩ = some (.int .i64 e) := by first | exact cellThru hb3 hz2_1 q2_1_0 | (refine cellThru hb3 ?_ (cellThru (belowAlloc (Below.refl _ _) _) hz2_1 q2_1_0); first | omega | (simp; omega)) | (refine cellThru hb3 ?_ (cellThru (belowAlloc (belowAlloc (Below.refl _ _) _) _) hz2_1 q2_1_0); first | omega | (simp; omega)) | (refine cellThru hb3 ?_ ?_; (first | omega | (simp; omega) | go_size); simp [go_sem, q2_1_0])
  have q3_1_1 : w3.cell? ⟨w.heap.size + 1, 1, none⟩ = some (.int .i64 f) := by first | exact cellThru hb3 hz2_1 q2_1_1 | (refine cellThru hb3 ?_ (cellThru (belowAlloc (Below.refl _ _) _) hz2_1 q2_1_1); first | omega | (simp; omega)) | (refine cellThru hb3 ?_ (cellThru (belowAlloc (belowAlloc (Below.refl _ _) _) _) hz2_1 q2_1_1); first | omega | (simp; omega)) | (refine cellThru hb3 ?_ ?_; (first | omega | (simp; omega) | go_size); simp [go_sem, q2_1_1])
  have q3_1_2 : w3.cell? ⟨w.heap.size + 1, 2, none⟩ = some (.int .i64 g) := by first | exact cellThru hb3 hz2_1 q2_1_2 | (refine cellThru hb3 ?_ (cellThru (belowAlloc (Below.refl _ _) _) hz2_1 q2_1_2); first | omega | (simp; omega)) | (refine cellThru hb3 ?_ (cellThru (belowAlloc (belowAlloc (Below.refl _ _) _) _) hz2_1 q2_1_2); first | omega | (simp; omega)) | (refine cellThru hb3 ?_ ?_; (first | omega | (simp; omega) | go_size); simp [go_sem, q2_1_2])
  have q3_1_3 : w3.cell? ⟨w.heap.size + 1, 3, none⟩ = some (.int .i64 h) := by first | exact cellThru hb3 hz2_1 q2_1_3 | (refine cellThru hb3 ?_ (cellThru (belowAlloc (Below.refl _ _) _) hz2_1 q2_1_3); first | omega | (simp; omega)) | (refine cellThru hb3 ?_ (cellThru (belowAlloc (belowAlloc (Below.refl _ _) _) _) hz2_1 q2_1_3); first | omega | (simp; omega)) | (refine cellThru hb3 ?_ ?_; (first | omega | (simp; omega) | go_size); simp [go_sem, q2_1_3])
  have hE3 : w2.heap.size < w3.heap.size := by have := hb3.size; simp at this; omega
  go_wp2_with fail
  refine (HH.out _).mono ?_
  rintro e w4 ⟨b1, o1, cap1, b2, o2, cap2, G4, rfl, hO1, hO2, hbG, hG4, hb4⟩
  obtain ⟨hc4, hf4⟩ := bcell hb4
  have hz4_0 : w.heap.size < w4.heap.size := by have := hb4.size; first | omega | (simp at this; omega)
  have hz4_1 : w.heap.size + 1 < w4.heap.size := by have := hb4.size; first | omega | (simp at this; omega)
  have q4_1_0 : w4.cell? ⟨w.heap.size + 1, 0, none⟩ = some (.int .i64 e) := by first | exact cellThru hb4 hz3_1 q3_1_0 | (refine cellThru hb4 ?_ (cellThru (belowAlloc (Below.refl _ _) _) hz3_1 q3_1_0); first | omega | (simp; omega)) | (refine cellThru hb4 ?_ (cellThru (belowAlloc (belowAlloc (Below.refl _ _) _) _) hz3_1 q3_1_0); first | omega | (simp; omega)) | (refine cellThru hb4 ?_ ?_; (first | omega | (simp; omega) | go_size); simp [go_sem, q3_1_0])
  have q4_1_1 : w4.cell? ⟨w.heap.size + 1, 1, none⟩ = some (.int .i64 f) := by first | exact cellThru hb4 hz3_1 q3_1_1 | (refine cellThru hb4 ?_ (cellThru (belowAlloc (Below.refl _ _) _) hz3_1 q3_1_1); first | omega | (simp; omega)) | (refine cellThru hb4 ?_ (cellThru (belowAlloc (belowAlloc (Below.refl _ _) _) _) hz3_1 q3_1_1); first | omega | (simp; omega)) | (refine cellThru hb4 ?_ ?_; (first | omega | (simp; omega) | go_size); simp [go_sem, q3_1_1])
  have q4_1_2 : w4.cell? ⟨w.heap.size + 1, 2, none⟩ = some (.int .i64 g) := by first | exact cellThru hb4 hz3_1 q3_1_2 | (refine cellThru hb4 ?_ (cellThru (belowAlloc (Below.refl _ _) _) hz3_1 q3_1_2); first | omega | (simp; omega)) | (refine cellThru hb4 ?_ (cellThru (belowAlloc (belowAlloc (Below.refl _ _) _) _) hz3_1 q3_1_2); first | omega | (simp; omega)) | (refine cellThru hb4 ?_ ?_; (first | omega | (simp; omega) | go_size); simp [go_sem, q3_1_2])
  have q4_1_3 : w4.cell? ⟨w.heap.size + 1, 3, none⟩ = some (.int .i64 h) := by first | exact cellThru hb4 hz3_1 q3_1_3 | (refine cellThru hb4 ?_ (cellThru (belowAlloc (Below.refl _ _) _) hz3_1 q3_1_3); first | omega | (simp; omega)) | (refine cellThru hb4 ?_ (cellThru (belowAlloc (belowAlloc (Below.refl _ _) _) _) hz3_1 q3_1_3); first | omega | (simp; omega)) | (refine cellThru hb4 ?_ ?_; (first | omega | (simp; omega) | go_size); simp [go_sem, q3_1_3])
  obtain ⟨R1, l1, m1⟩ := row2_at hO1
  obtain ⟨R2, l2, m2⟩ := row2_at hO2
  obtain ⟨x0c, y0c, x1c, y1c⟩ := id R1
  obtain ⟨u0c, v0c, u1c, v1c⟩ := R2
  have hG : w.heap.size ≤ G4 := by have := hG4; first | omega | (simp at this; omega)
  have hB4 : Below w.heap.size w w4 := by
    (repeat' (first | (with_reducible exact Below.refl _ _) | (with_reducible assumption) | (with_reducible refine belowNext ?_ (by with_reducible assumption)) | (with_reducible refine belowAlloc ?_ _) | (with_reducible refine Below.drew ?_) | (with_reducible refine below_drewN ?_ _) | (with_reducible refine Below.setCell ?_ ?_ _) | go_size | (with_reducible refine sizeOf' ?_) | (with_reducible refine sizeAdd ?_) | (dsimp only; first | (with_reducible refine sizeOf' ?_) | (with_reducible refine sizeAdd ?_))))
  clear hc1 hf1 hc2 hf2 hc3 hf3 hc4 hf4 hG4
  go_wp2_with fail
  go_region_held3 (fun w' => w.heap.size + 1 < w'.heap.size ∧ b1 < w'.heap.size ∧ b2 < w'.heap.size ∧ Below w4.heap.size w4 w' ∧ w'.cell? ⟨w.heap.size + 1, 0, none⟩ = some (.int .i64 e) ∧ w'.cell? ⟨w.heap.size + 1, 1, none⟩ = some (.int .i64 f) ∧ w'.cell? ⟨w.heap.size + 1, 2, none⟩ = some (.int .i64 g) ∧ w'.cell? ⟨w.heap.size + 1, 3, none⟩ = some (.int .i64 h) ∧
      w'.cell? ⟨b1, o1, none⟩ = some (.int .i64 x0) ∧ w'.cell? ⟨b1, o1 + 1, none⟩ = some (.int .i64 y0) ∧ w'.cell? ⟨b2, o2, none⟩ = some (.int .i64 u0) ∧ w'.cell? ⟨b2, o2 + 1, none⟩ = some (.int .i64 v0))
      (first | exact keepPB (by assumption) (by assumption) | exact ⟨hz4_1, m1, m2, (Below.refl _ _).drew, q4_1_0, q4_1_1, q4_1_2, q4_1_3, x0c, y0c, u0c, v0c⟩ | exact keepPB (by assumption) ⟨hz4_1, m1, m2, (Below.refl _ _).drew, q4_1_0, q4_1_1, q4_1_2, q4_1_3, x0c, y0c, u0c, v0c⟩)
      (first
      | (go_at_call 89; (with_reducible refine (HR1.out _).mono ?_); rintro e' w6 ⟨rfl, hb6⟩)
      | (go_at_call 89; (with_reducible refine (HR2.out _).mono ?_); rintro e' w7 ⟨rfl, hb7⟩))
  rename_i hHeld
  have B47 := hHeld.2.2.2.1
  clear hHeld hb6 hb7
  have hO27 := hO2.next B47
  have R17 := R1.next B47 m1
  have hB7 := belowNext hB4 B47
  have hs47 := B47.size
  obtain ⟨R28, l28, m28⟩ := row2_at hO27
  have R18 := R17
  have m18 := Nat.lt_of_lt_of_le m1 hs47
  clear R17 hO27
  obtain ⟨s0, s1, s2, s3⟩ := R18
  obtain ⟨n0, n1, n2, n3⟩ := R28
  clear q1_1_0 q1_1_1 q1_1_2 q1_1_3 q2_1_0 q2_1_1 q2_1_2 q2_1_3 q3_1_0 q3_1_1 q3_1_2 q3_1_3 q4_1_0 q4_1_1 q4_1_2 q4_1_3 x0c y0c x1c y1c u0c v0c u1c v1c hO1 hO2 R1 HA HD HI HH HR1 HR2 Q1 Q2 B47 hB4 hb1 hb2 hb3 hb4 hz1_0 hz1_1 hz2_0 hz2_1 hz3_0 hz3_1 hz4_0 hz4_1 hE3 l1 m1 l2 m2 hs47 l28
  go_wp2_with fail
  go_region_held3 (fun w' => b1 < w'.heap.size ∧ b2 < w'.heap.size ∧ Below w.heap.size w w' ∧ w'.cell? ⟨b1, o1, none⟩ = some (.int .i64 x0) ∧ w'.cell? ⟨b1, o1 + 1, none⟩ = some (.int .i64 y0) ∧ w'.cell? ⟨b1, o1 + 2, none⟩ = some (.int .i64 x1) ∧ w'.cell? ⟨b1, o1 + 2 + 1, none⟩ = some (.int .i64 y1) ∧
      w'.cell? ⟨b2, o2, none⟩ = some (.int .i64 u0) ∧ w'.cell? ⟨b2, o2 + 1, none⟩ = some (.int .i64 v0) ∧ w'.cell? ⟨b2, o2 + 2, none⟩ = some (.int .i64 u1) ∧ w'.cell? ⟨b2, o2 + 2 + 1, none⟩ = some (.int .i64 v1))
      (first | assumption | exact keepR (by assumption) (by assumption) | exact keepR (belowAlloc (Below.refl _ _) _) (by assumption) | exact ⟨m18, m28, hB7.drew, s0, s1, s2, s3, n0, n1, n2, n3⟩ | exact keepR (by assumption) ⟨m18, m28, hB7.drew, s0, s1, s2, s3, n0, n1, n2, n3⟩)
      (first
      | (go_at_call 91; (with_reducible refine (HL1.out _).mono ?_); rintro e' wa ⟨rfl, hba⟩; have hSa := keepR hba (by assumption); have hBa := hSa.2.2.1)
      | (go_at_call 91; (with_reducible refine (HL2.out _).mono ?_); rintro e' wb ⟨rfl, hbb⟩; have hSb := keepR hbb (by assumption); have hBb := hSb.2.2.1))
  all_goals
    go_wp2
    go_ret2
    refine ⟨some ⟨_, 0, none⟩, 2, rfl, lfOwn2 _ ?_ _ _ _ _ _ _ _ _ _ _ (by simp), belowAlloc ?_ _⟩
    all_goals
      first | assumption | exact Below.drew (by assumption)

set_option maxHeartbeats 4000000 in
theorem implPb4 (a b c d e f g h : Int) (w : World) (h1 : pbOk a b c d e f g h = true) (h2 : pbSt a b c d e f g h = false) (h3 : pbHal a b c d = true) (h4 : pbSw a b c d e f g h = true) :
    Calls Try.prog 37 #[leafV a b c d, leafV e f g h] w (ResLf w (pbL a b c d e f g h) (pbC a b c d e f g h)) := by
  have HA : Hid (∀ (w : World) B cap, LfRow w w.heap.size (some ⟨B, 0, none⟩) [(a, b, c, d), (e, f, g, h)] → Calls Try.prog 86 #[.slice (some ⟨B, 0, none⟩) 2 cap] w fun e' w' => e' = .returned (.bool (pbOk a b c d e f g h)) ∧ Below w.heap.size w w') := Lib.hid (fun w B cap hh => by
    have := areLf (some ⟨B, 0, none⟩) 2 cap [(a, b, c, d), (e, f, g, h)] w hh rfl (by omega)
    have e2 : allLf [(a, b, c, d), (e, f, g, h)] = pbOk a b c d e f g h := by simp [allLf, pbOk]
    rw [e2] at this
    exact this)
  have hl : isLf a b c d = true := by unfold pbOk at h1; rw [Bool.and_eq_true] at h1; exact h1.1
  have hd : isLf e f g h = true := by unfold pbOk at h1; rw [Bool.and_eq_true] at h1; exact h1.2
  obtain ⟨r1, r2, -⟩ := isLf_yes hl
  obtain ⟨r3, r4, -⟩ := isLf_yes hd
  have HD := Lib.hid (fun w => implDbl e f w r3.1 r3.2.1 r3.2.2.1 (by obtain ⟨_, _, _, _⟩ := r3; omega))
  have HI := Lib.hid (fun w => implDia e f g h w (okOf r3) (okOf r4))
  have Q1 := fun W => eqlAng (redN (2 * e) f) (redD (2 * e) f) a b W
  have Q2 := fun W => eqlAng (redN (2 * e) f) (redD (2 * e) f) c d W
  rw [h1] at HA
  have h2' := h2
  unfold pbSt at h2'
  rcases st_cases (diaB e f g h) (eqA (redN (2 * e) f) (redD (2 * e) f) a b) (eqA (redN (2 * e) f) (redD (2 * e) f) c d) with ⟨s1, s4⟩ | ⟨s1, s2, s4⟩ | ⟨s1, s2, s3, s4⟩ | ⟨s1, s2, s3, s4⟩
  · rw [s4] at h2'; cases h2'
  · rw [s4] at h2'; cases h2'
  · rw [s4] at h2'; cases h2'
  rw [s1] at HI
  rw [s2] at Q1
  rw [s3] at Q2
  clear s1 s2 s3 s4 h2'
  obtain ⟨E1, E2⟩ := pb_sw h1 h2 h3 h4
  rw [E1, E2]
  have HH := Lib.hid (fun w => implHE a b c d w r1 r2 h3)
  have j1 : halOk a b = true := by unfold pbHal at h3; rw [Bool.and_eq_true] at h3; exact h3.1
  have j2 : halOk c d = true := by unfold pbHal at h3; rw [Bool.and_eq_true] at h3; exact h3.2
  have g1 : redD a (2 * b) ≤ 8191 ∧ redD (a + b) (2 * b) ≤ 8191 := by unfold halOk at j1; exact of_decide_eq_true j1
  have g2 : redD c (2 * d) ≤ 8191 ∧ redD (c + d) (2 * d) ≤ 8191 := by unfold halOk at j2; exact of_decide_eq_true j2
  have ok : ∀ n m, 0 < m → redD n m ≤ 8191 → angOk (redN n m) (redD n m) := fun n m hm hr => by
    obtain ⟨t1, t2, t3, t4⟩ := redBd n m hm
    exact ⟨t3, hr, t1, t2⟩
  have o1 := ok a (2 * b) (by have := r1.1; dsimp only at this; omega) g1.1
  have o2 := ok (a + b) (2 * b) (by have := r1.1; dsimp only at this; omega) g1.2
  have o3 := ok c (2 * d) (by have := r2.1; dsimp only at this; omega) g2.1
  have o4 := ok (c + d) (2 * d) (by have := r2.1; dsimp only at this; omega) g2.2
  have HR1 := Lib.hid (fun w => implArc (redN a (2 * b)) (redD a (2 * b)) e f g h w o1 (okOf r3) (okOf r4))
  have HR2 := Lib.hid (fun w => implArc (redN c (2 * d)) (redD c (2 * d)) e f g h w o3 (okOf r3) (okOf r4))
  unfold pbSw at h4
  clear j1 j2 h3 E1 E2 hl hd r1 r2 r3 r4 h1 h2 g1 g2 ok
  generalize redN a (2 * b) = x0 at *
  generalize redD a (2 * b) = y0 at *
  generalize redN (a + b) (2 * b) = x1 at *
  generalize redD (a + b) (2 * b) = y1 at *
  generalize redN c (2 * d) = u0 at *
  generalize redD c (2 * d) = v0 at *
  generalize redN (c + d) (2 * d) = u1 at *
  generalize redD (c + d) (2 * d) = v1 at *
  have HL1 := Lib.hid (fun w => implLB x0 y0 u1 v1 w o1 o4)
  have HL2 := Lib.hid (fun w => implLB x1 y1 u0 v0 w o2 o3)
  clear o1 o2 o3 o4
  generalize z1 : lf4 x0 y0 u1 v1 = F1 at *
  generalize z2 : lf4 x1 y1 u0 v0 = F2 at *
  obtain ⟨p1, p2, p3, p4⟩ := F1
  obtain ⟨q1, q2, q3, q4⟩ := F2
  obtain ⟨t1, t2, t3, t4⟩ := lf4_eq z1
  rw [t1, t2, t3, t4] at HL1
  clear t1 t2 t3 t4 z1
  obtain ⟨t1, t2, t3, t4⟩ := lf4_eq z2
  rw [t1, t2, t3, t4] at HL2
  clear t1 t2 t3 t4 z2
  generalize arcB x0 y0 e f g h = U1 at *
  generalize arcB u0 v0 e f g h = U2 at *
  obtain rfl : U2 = !U1 := by cases U1 <;> cases U2 <;> first | rfl | cases h4
  clear h4
  generalize redN (2 * e) f = X at *
  generalize redD (2 * e) f = Y at *
  go_enter Try.func37, Try.ntmps37
  go_wp2_with fail
  refine (HA.out _ _ _ (by exact rowL2 _ _ _ _ _ _ _ _ _ _ _ (by simp))).mono ?_
  rintro e w1 ⟨rfl, hb1⟩
  obtain ⟨hc1, hf1⟩ := bcell hb1
  have hz1_0 : w.heap.size < w1.heap.size := by have := hb1.size; first | omega | (simp at this; omega)
  have hz1_1 : w.heap.size + 1 < w1.heap.size := by have := hb1.size; first | omega | (simp at this; omega)
  have q1_1_0 : w1.cell? ⟨w.heap.size + 1, 0, none⟩ = some (.int .i64 e) := cellThru hb1 (by simp <;> omega) (by simp [go_sem])
  have q1_1_1 : w1.cell? ⟨w.heap.size + 1, 1, none⟩ = some (.int .i64 f) := cellThru hb1 (by simp <;> omega) (by simp [go_sem])
  have q1_1_2 : w1.cell? ⟨w.heap.size + 1, 2, none⟩ = some (.int .i64 g) := cellThru hb1 (by simp <;> omega) (by simp [go_sem])
  have q1_1_3 : w1.cell? ⟨w.heap.size + 1, 3, none⟩ = some (.int .i64 h) := cellThru hb1 (by simp <;> omega) (by simp [go_sem])
  go_wp2_with fail
  refine (HD.out _).mono ?_
  rintro e w2 ⟨rfl, hb2⟩
  obtain ⟨hc2, hf2⟩ := bcell hb2
  have hz2_0 : w.heap.size < w2.heap.size := by have := hb2.size; first | omega | (simp at this; omega)
  have hz2_1 : w.heap.size + 1 < w2.heap.size := by have := hb2.size; first | omega | (simp at this; omega)
  have q2_1_0 : w2.cell? ⟨w.heap.size + 1, 0, none⟩ = some (.int .i64 e) := by first | exact cellThru hb2 hz1_1 q1_1_0 | (refine cellThru hb2 ?_ (cellThru (belowAlloc (Below.refl _ _) _) hz1_1 q1_1_0); first | omega | (simp; omega)) | (refine cellThru hb2 ?_ (cellThru (belowAlloc (belowAlloc (Below.refl _ _) _) _) hz1_1 q1_1_0); first | omega | (simp; omega)) | (refine cellThru hb2 ?_ ?_; (first | omega | (simp; omega) | go_size); simp [go_sem, q1_1_0])
  have q2_1_1 : w2.cell? ⟨w.heap.size + 1, 1, none⟩ = some (.int .i64 f) := by first | exact cellThru hb2 hz1_1 q1_1_1 | (refine cellThru hb2 ?_ (cellThru (belowAlloc (Below.refl _ _) _) hz1_1 q1_1_1); first | omega | (simp; omega)) | (refine cellThru hb2 ?_ (cellThru (belowAlloc (belowAlloc (Below.refl _ _) _) _) hz1_1 q1_1_1); first | omega | (simp; omega)) | (refine cellThru hb2 ?_ ?_; (first | omega | (simp; omega) | go_size); simp [go_sem, q1_1_1])
  have q2_1_2 : w2.cell? ⟨w.heap.size + 1, 2, none⟩ = some (.int .i64 g) := by first | exact cellThru hb2 hz1_1 q1_1_2 | (refine cellThru hb2 ?_ (cellThru (belowAlloc (Below.refl _ _) _) hz1_1 q1_1_2); first | omega | (simp; omega)) | (refine cellThru hb2 ?_ (cellThru (belowAlloc (belowAlloc (Below.refl _ _) _) _) hz1_1 q1_1_2); first | omega | (simp; omega)) | (refine cellThru hb2 ?_ ?_; (first | omega | (simp; omega) | go_size); simp [go_sem, q1_1_2])
  have q2_1_3 : w2.cell? ⟨w.heap.size + 1, 3, none⟩ = some (.int .i64 h) := by first | exact cellThru hb2 hz1_1 q1_1_3 | (refine cellThru hb2 ?_ (cellThru (belowAlloc (Below.refl _ _) _) hz1_1 q1_1_3); first | omega | (simp; omega)) | (refine cellThru hb2 ?_ (cellThru (belowAlloc (belowAlloc (Below.refl _ _) _) _) hz1_1 q1_1_3); first | omega | (simp; omega)) | (refine cellThru hb2 ?_ ?_; (first | omega | (simp; omega) | go_size); simp [go_sem, q1_1_3])
  go_wp2_with fail
  refine (HI.out _).mono ?_
  rintro e w3 ⟨rfl, hb3⟩
  obtain ⟨hc3, hf3⟩ := bcell hb3
  have hz3_0 : w.heap.size < w3.heap.size := by have := hb3.size; first | omega | (simp at this; omega)
  have hz3_1 : w.heap.size + 1 < w3.heap.size := by have := hb3.size; first | omega | (simp at this; omega)
  have q3_1_0 : w3.cell? ⟨w.heap.size + 1, 0, none⟩ = some (.int .i64 e) := by first | exact cellThru hb3 hz2_1 q2_1_0 | (refine cellThru hb3 ?_ (cellThru (belowAlloc (Below.refl _ _) _) hz2_1 q2_1_0); first | omega | (simp; omega)) | (refine cellThru hb3 ?_ (cellThru (belowAlloc (belowAlloc (Below.refl _ _) _) _) hz2_1 q2_1_0); first | omega | (simp; omega)) | (refine cellThru hb3 ?_ ?_; (first | omega | (simp; omega) | go_size); simp [go_sem, q2_1_0])
  have q3_1_1 : w3.cell? ⟨w.heap.size + 1, 1, none⟩ = some (.int .i64 f) := by first | exact cellThru hb3 hz2_1 q2_1_1 | (refine cellThru hb3 ?_ (cellThru (belowAlloc (Below.refl _ _) _) hz2_1 q2_1_1); first | omega | (simp; omega)) | (refine cellThru hb3 ?_ (cellThru (belowAlloc (belowAlloc (Below.refl _ _) _) _) hz2_1 q2_1_1); first | omega | (simp; omega)) | (refine cellThru hb3 ?_ ?_; (first | omega | (simp; omega) | go_size); simp [go_sem, q2_1_1])
  have q3_1_2 : w3.cell? ⟨w.heap.size + 1, 2, none⟩ = some (.int .i64 g) := by first | exact cellThru hb3 hz2_1 q2_1_2 | (refine cellThru hb3 ?_ (cellThru (belowAlloc (Below.refl _ _) _) hz2_1 q2_1_2); first | omega | (simp; omega)) | (refine cellThru hb3 ?_ (cellThru (belowAlloc (belowAlloc (Below.refl _ _) _) _) hz2_1 q2_1_2); first | omega | (simp; omega)) | (refine cellThru hb3 ?_ ?_; (first | omega | (simp; omega) | go_size); simp [go_sem, q2_1_2])
  have q3_1_3 : w3.cell? ⟨w.heap.size + 1, 3, none⟩ = some (.int .i64 h) := by first | exact cellThru hb3 hz2_1 q2_1_3 | (refine cellThru hb3 ?_ (cellThru (belowAlloc (Below.refl _ _) _) hz2_1 q2_1_3); first | omega | (simp; omega)) | (refine cellThru hb3 ?_ (cellThru (belowAlloc (belowAlloc (Below.refl _ _) _) _) hz2_1 q2_1_3); first | omega | (simp; omega)) | (refine cellThru hb3 ?_ ?_; (first | omega | (simp; omega) | go_size); simp [go_sem, q2_1_3])
  have hE3 : w2.heap.size < w3.heap.size := by have := hb3.size; simp at this; omega
  go_wp2_with fail
  refine (HH.out _).mono ?_
  rintro e w4 ⟨b1, o1, cap1, b2, o2, cap2, G4, rfl, hO1, hO2, hbG, hG4, hb4⟩
  obtain ⟨hc4, hf4⟩ := bcell hb4
  have hz4_0 : w.heap.size < w4.heap.size := by have := hb4.size; first | omega | (simp at this; omega)
  have hz4_1 : w.heap.size + 1 < w4.heap.size := by have := hb4.size; first | omega | (simp at this; omega)
  have q4_1_0 : w4.cell? ⟨w.heap.size + 1, 0, none⟩ = some (.int .i64 e) := by first | exact cellThru hb4 hz3_1 q3_1_0 | (refine cellThru hb4 ?_ (cellThru (belowAlloc (Below.refl _ _) _) hz3_1 q3_1_0); first | omega | (simp; omega)) | (refine cellThru hb4 ?_ (cellThru (belowAlloc (belowAlloc (Below.refl _ _) _) _) hz3_1 q3_1_0); first | omega | (simp; omega)) | (refine cellThru hb4 ?_ ?_; (first | omega | (simp; omega) | go_size); simp [go_sem, q3_1_0])
  have q4_1_1 : w4.cell? ⟨w.heap.size + 1, 1, none⟩ = some (.int .i64 f) := by first | exact cellThru hb4 hz3_1 q3_1_1 | (refine cellThru hb4 ?_ (cellThru (belowAlloc (Below.refl _ _) _) hz3_1 q3_1_1); first | omega | (simp; omega)) | (refine cellThru hb4 ?_ (cellThru (belowAlloc (belowAlloc (Below.refl _ _) _) _) hz3_1 q3_1_1); first | omega | (simp; omega)) | (refine cellThru hb4 ?_ ?_; (first | omega | (simp; omega) | go_size); simp [go_sem, q3_1_1])
  have q4_1_2 : w4.cell? ⟨w.heap.size + 1, 2, none⟩ = some (.int .i64 g) := by first | exact cellThru hb4 hz3_1 q3_1_2 | (refine cellThru hb4 ?_ (cellThru (belowAlloc (Below.refl _ _) _) hz3_1 q3_1_2); first | omega | (simp; omega)) | (refine cellThru hb4 ?_ (cellThru (belowAlloc (belowAlloc (Below.refl _ _) _) _) hz3_1 q3_1_2); first | omega | (simp; omega)) | (refine cellThru hb4 ?_ ?_; (first | omega | (simp; omega) | go_size); simp [go_sem, q3_1_2])
  have q4_1_3 : w4.cell? ⟨w.heap.size + 1, 3, none⟩ = some (.int .i64 h) := by first | exact cellThru hb4 hz3_1 q3_1_3 | (refine cellThru hb4 ?_ (cellThru (belowAlloc (Below.refl _ _) _) hz3_1 q3_1_3); first | omega | (simp; omega)) | (refine cellThru hb4 ?_ (cellThru (belowAlloc (belowAlloc (Below.refl _ _) _) _) hz3_1 q3_1_3); first | omega | (simp; omega)) | (refine cellThru hb4 ?_ ?_; (first | omega | (simp; omega) | go_size); simp [go_sem, q3_1_3])
  obtain ⟨R1, l1, m1⟩ := row2_at hO1
  obtain ⟨R2, l2, m2⟩ := row2_at hO2
  obtain ⟨x0c, y0c, x1c, y1c⟩ := id R1
  obtain ⟨u0c, v0c, u1c, v1c⟩ := R2
  have hG : w.heap.size ≤ G4 := by have := hG4; first | omega | (simp at this; omega)
  have hB4 : Below w.heap.size w w4 := by
    (repeat' (first | (with_reducible exact Below.refl _ _) | (with_reducible assumption) | (with_reducible refine belowNext ?_ (by with_reducible assumption)) | (with_reducible refine belowAlloc ?_ _) | (with_reducible refine Below.drew ?_) | (with_reducible refine below_drewN ?_ _) | (with_reducible refine Below.setCell ?_ ?_ _) | go_size | (with_reducible refine sizeOf' ?_) | (with_reducible refine sizeAdd ?_) | (dsimp only; first | (with_reducible refine sizeOf' ?_) | (with_reducible refine sizeAdd ?_))))
  clear hc1 hf1 hc2 hf2 hc3 hf3 hc4 hf4 hG4
  go_wp2_with fail
  go_region_held3 (fun w' => w.heap.size + 1 < w'.heap.size ∧ b1 < w'.heap.size ∧ b2 < w'.heap.size ∧ Below w4.heap.size w4 w' ∧ w'.cell? ⟨w.heap.size + 1, 0, none⟩ = some (.int .i64 e) ∧ w'.cell? ⟨w.heap.size + 1, 1, none⟩ = some (.int .i64 f) ∧ w'.cell? ⟨w.heap.size + 1, 2, none⟩ = some (.int .i64 g) ∧ w'.cell? ⟨w.heap.size + 1, 3, none⟩ = some (.int .i64 h) ∧
      w'.cell? ⟨b1, o1, none⟩ = some (.int .i64 x0) ∧ w'.cell? ⟨b1, o1 + 1, none⟩ = some (.int .i64 y0) ∧ w'.cell? ⟨b2, o2, none⟩ = some (.int .i64 u0) ∧ w'.cell? ⟨b2, o2 + 1, none⟩ = some (.int .i64 v0))
      (first | exact keepPB (by assumption) (by assumption) | exact ⟨hz4_1, m1, m2, (Below.refl _ _).drew, q4_1_0, q4_1_1, q4_1_2, q4_1_3, x0c, y0c, u0c, v0c⟩ | exact keepPB (by assumption) ⟨hz4_1, m1, m2, (Below.refl _ _).drew, q4_1_0, q4_1_1, q4_1_2, q4_1_3, x0c, y0c, u0c, v0c⟩)
      (first
      | (go_at_call 89; (with_reducible refine (HR1.out _).mono ?_); rintro e' w6 ⟨rfl, hb6⟩)
      | (go_at_call 89; (with_reducible refine (HR2.out _).mono ?_); rintro e' w7 ⟨rfl, hb7⟩))
  rename_i hHeld
  have B47 := hHeld.2.2.2.1
  clear hHeld hb6 hb7
  have hO27 := hO2.next B47
  have R17 := R1.next B47 m1
  have hB7 := belowNext hB4 B47
  have hs47 := B47.size
  go_wp2_with fail
  refine (revTwo _ _ _ _ _ _ _ _ hO27).mono ?_
  rintro e' w8 ⟨rfl, hO28, hb8, hs8⟩
  obtain ⟨R28, l28, m28⟩ := row2_at hO28
  have R18 := R17.next hb8 hbG
  have hB8 : Below w.heap.size w w8 := hB7.trans (hb8.mono (by omega))
  have m18 : b1 < w8.heap.size := by omega
  clear R17 hO27 hO28 hb8
  obtain ⟨s0, s1, s2, s3⟩ := R18
  obtain ⟨n0, n1, n2, n3⟩ := R28
  clear q1_1_0 q1_1_1 q1_1_2 q1_1_3 q2_1_0 q2_1_1 q2_1_2 q2_1_3 q3_1_0 q3_1_1 q3_1_2 q3_1_3 q4_1_0 q4_1_1 q4_1_2 q4_1_3 x0c y0c x1c y1c u0c v0c u1c v1c hO1 hO2 R1 HA HD HI HH HR1 HR2 Q1 Q2 B47 hB4 hb1 hb2 hb3 hb4 hz1_0 hz1_1 hz2_0 hz2_1 hz3_0 hz3_1 hz4_0 hz4_1 hE3 l1 m1 l2 m2 hs47 l28
  go_wp2_with fail
  go_region_held3 (fun w' => b1 < w'.heap.size ∧ b2 < w'.heap.size ∧ Below w.heap.size w w' ∧ w'.cell? ⟨b1, o1, none⟩ = some (.int .i64 x0) ∧ w'.cell? ⟨b1, o1 + 1, none⟩ = some (.int .i64 y0) ∧ w'.cell? ⟨b1, o1 + 2, none⟩ = some (.int .i64 x1) ∧ w'.cell? ⟨b1, o1 + 2 + 1, none⟩ = some (.int .i64 y1) ∧
      w'.cell? ⟨b2, o2, none⟩ = some (.int .i64 u1) ∧ w'.cell? ⟨b2, o2 + 1, none⟩ = some (.int .i64 v1) ∧ w'.cell? ⟨b2, o2 + 2, none⟩ = some (.int .i64 u0) ∧ w'.cell? ⟨b2, o2 + 2 + 1, none⟩ = some (.int .i64 v0))
      (first | assumption | exact keepR (by assumption) (by assumption) | exact keepR (belowAlloc (Below.refl _ _) _) (by assumption) | exact ⟨m18, m28, hB8.drew, s0, s1, s2, s3, n0, n1, n2, n3⟩ | exact keepR (by assumption) ⟨m18, m28, hB8.drew, s0, s1, s2, s3, n0, n1, n2, n3⟩)
      (first
      | (go_at_call 91; (with_reducible refine (HL1.out _).mono ?_); rintro e' wa ⟨rfl, hba⟩; have hSa := keepR hba (by assumption); have hBa := hSa.2.2.1)
      | (go_at_call 91; (with_reducible refine (HL2.out _).mono ?_); rintro e' wb ⟨rfl, hbb⟩; have hSb := keepR hbb (by assumption); have hBb := hSb.2.2.1))
  all_goals
    go_wp2
    go_ret2
    refine ⟨some ⟨_, 0, none⟩, 2, rfl, lfOwn2 _ ?_ _ _ _ _ _ _ _ _ _ _ (by simp), belowAlloc ?_ _⟩
    all_goals
      first | assumption | exact Below.drew (by assumption)

theorem implPb (a b c d e f g h : Int) (w : World) :
    Calls Try.prog 37 #[leafV a b c d, leafV e f g h] w (ResLf w (pbL a b c d e f g h) (pbC a b c d e f g h)) := by
  cases h1 : pbOk a b c d e f g h
  · exact implPb0 _ _ _ _ _ _ _ _ _ h1
  · cases h2 : pbSt a b c d e f g h
    · cases h3 : pbHal a b c d
      · exact implPb2 _ _ _ _ _ _ _ _ _ h1 h2 h3
      · cases h4 : pbSw a b c d e f g h
        · exact implPb3 _ _ _ _ _ _ _ _ _ h1 h2 h3 h4
        · exact implPb4 _ _ _ _ _ _ _ _ _ h1 h2 h3 h4
    · exact implPb1 _ _ _ _ _ _ _ _ _ h1 h2
end Go.Proofs.Ytkpgfafmaoaefaa

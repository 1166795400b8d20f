/-
  Contracts: the characteristic arc, on the program's side; written by genK15.py.
  Contracts: the characteristic arc, on the model's side; written by genK16.py.
  Contracts: CharacteristicArc, on both sides; written by genK17.py.
  The walk of the law of CharacteristicArc: the sets are marked; written by genK18.py.
-/
import Derived.Test.YtfdjoolhmianjaaKE
namespace Go.Proofs.Ytfdjoolhmianjaa
open Go.RowKit

set_option maxHeartbeats 1000000 in
theorem implWFA (n d m c : Int) (w : World) (h1 : angOk n d) (h2 : angOk m c) :
    Calls Try.prog 55 #[ang n d, ang m c] w fun e w' => e = .returned (ang (redN (m * d - n * c) (d * c)) (redD (m * d - n * c) (d * c))) ∧ Below w.heap.size w w' := by
  obtain ⟨a1, a2, a3, a4⟩ := h1
  obtain ⟨b1, b2, b3, b4⟩ := h2
  obtain ⟨p1, p2⟩ := mul_bound (a := n) (b := c) (by omega) (by omega) (by omega) (by omega)
  obtain ⟨q1, q2⟩ := mul_bound (a := m) (b := d) (by omega) (by omega) (by omega) (by omega)
  obtain ⟨r1, r2⟩ := mul_bound (a := d) (b := c) (by omega) (by omega) (by omega) (by omega)
  have r3 : 1 ≤ d * c := Int.mul_pos (by omega) (by omega)
  have HR := Lib.hid (fun w => implRed (m * d - n * c) (d * c) w (by omega) (by omega) (by omega) (by omega))
  generalize redN (m * d - n * c) (d * c) = x at *
  generalize redD (m * d - n * c) (d * c) = y at *
  have wr1 : IntKind.i64.wrap (m * d) = m * d := IntWalk.i64_in _ (by omega)
  have wr2 : IntKind.i64.wrap (n * c) = n * c := IntWalk.i64_in _ (by omega)
  have wr3 : IntKind.i64.wrap (m * d - n * c) = m * d - n * c := IntWalk.i64_in _ (by omega)
  have wr4 : IntKind.i64.wrap (d * c) = d * c := IntWalk.i64_in _ (by omega)
  go_enter Try.func55, Try.ntmps55
  go_wp2_with fail
  refine (HR.out _).mono ?_
  rintro e w2 ⟨rfl, hb2⟩
  have k0 : w2.cell? ⟨w.heap.size + 1 + 1, 0, none⟩ = some (.int .i64 0) := cellThru hb2 (by simp <;> omega) (by simp [go_sem])
  have k1 : w2.cell? ⟨w.heap.size + 1 + 1, 1, none⟩ = some (.int .i64 0) := cellThru hb2 (by simp <;> omega) (by simp [go_sem])
  have j0 : w2.frozen? ⟨w.heap.size + 1 + 1, 0, none⟩ = false := frozThru hb2 (by simp <;> omega) (by simp [go_sem])
  have j1 : w2.frozen? ⟨w.heap.size + 1 + 1, 1, none⟩ = false := frozThru hb2 (by simp <;> omega) (by simp [go_sem])
  have hz2 : w.heap.size + 1 + 1 < w2.heap.size := by have := hb2.size; simp at this; omega
  go_wp2
  refine bodyPost_ret (v := ang x y) (by simp [results, Try.results55, go_sem, k0, k1]) rfl ⟨rfl, ?_⟩
  (repeat' (first | (with_reducible exact Below.refl _ _) | (with_reducible assumption) | (with_reducible refine belowNext ?_ (by with_reducible assumption)) | (with_reducible refine belowAlloc ?_ _) | (with_reducible refine Below.drew ?_) | (with_reducible refine below_drewN ?_ _) | (with_reducible refine Below.setCell ?_ ?_ _) | go_size | (with_reducible refine sizeOf' ?_) | (with_reducible refine sizeAdd ?_) | (dsimp only; first | (with_reducible refine sizeOf' ?_) | (with_reducible refine sizeAdd ?_))))
/-- The numbers of a reduced fraction lie within wider bounds. -/
def angWA (n d : Int) : Prop := 1 ≤ d ∧ d ≤ 67092481 ∧ 0 ≤ n ∧ n < d
theorem mulWA {a b : Int} (ha : 0 ≤ a) (hA : a ≤ 67092481) (hb : 0 ≤ b) (hB : b ≤ 67092481) : 0 ≤ a * b ∧ a * b ≤ 4611686018427387904 :=
  ⟨Int.mul_nonneg ha hb, Int.le_trans (Int.mul_le_mul hA hB hb (by omega)) (by omega)⟩
set_option maxHeartbeats 400000 in
theorem cmpAngWA (n d m c : Int) (w : World) (h1 : angWA n d) (h2 : angWA m c) :
    Calls Try.prog 54 #[ang n d, ang m c] w fun e w' => e = .returned (.int .i64 (cmpI (n * c) (m * d))) ∧ Below w.heap.size w w' := by
  obtain ⟨a1, a2, a3, a4⟩ := h1
  obtain ⟨b1, b2, b3, b4⟩ := h2
  obtain ⟨p1, p2⟩ := mulWA (a := n) (b := c) (by omega) (by omega) (by omega) (by omega)
  obtain ⟨q1, q2⟩ := mulWA (a := m) (b := d) (by omega) (by omega) (by omega) (by omega)
  have HC := Lib.hid (fun w => cmpInt (n * c) (m * d) w)
  generalize cmpI (n * c) (m * d) = C at *
  go_enter Try.func54, Try.ntmps54
  go_wp2_with fail
  refine (HC.out _).mono ?_
  rintro e w1 ⟨rfl, rfl⟩
  go_wp2
  go_ret
  refine ⟨rfl, ?_⟩
  (repeat' (first | (with_reducible exact Below.refl _ _) | (with_reducible assumption) | (with_reducible refine belowNext ?_ (by with_reducible assumption)) | (with_reducible refine belowAlloc ?_ _) | (with_reducible refine Below.drew ?_) | (with_reducible refine below_drewN ?_ _) | (with_reducible refine Below.setCell ?_ ?_ _) | go_size | (with_reducible refine sizeOf' ?_) | (with_reducible refine sizeAdd ?_) | (dsimp only; first | (with_reducible refine sizeOf' ?_) | (with_reducible refine sizeAdd ?_))))
set_option maxHeartbeats 400000 in
theorem specLessWA (n d m c : Int) (w : World) (h1 : angWA n d) (h2 : angWA m c) :
    Calls Try.prog 76 #[ang n d, ang m c] w fun e w' => e = .returned (.bool (ltA n d m c)) ∧ Below w.heap.size w w' := by
  obtain ⟨a1, a2, a3, a4⟩ := h1
  obtain ⟨b1, b2, b3, b4⟩ := h2
  obtain ⟨p1, p2⟩ := mulWA (a := n) (b := c) (by omega) (by omega) (by omega) (by omega)
  obtain ⟨q1, q2⟩ := mulWA (a := m) (b := d) (by omega) (by omega) (by omega) (by omega)
  have E : Hid (ltA n d m c = decide (n * c < m * d)) := Lib.hid rfl
  generalize ltA n d m c = L at *
  go_enter Try.func76, Try.ntmps76
  go_wp2
  go_ret
  refine ⟨retB ?_, ?_⟩
  · rw [E.out]
  · (repeat' (first | (with_reducible exact Below.refl _ _) | (with_reducible assumption) | (with_reducible refine belowNext ?_ (by with_reducible assumption)) | (with_reducible refine belowAlloc ?_ _) | (with_reducible refine Below.drew ?_) | (with_reducible refine below_drewN ?_ _) | (with_reducible refine Below.setCell ?_ ?_ _) | go_size | (with_reducible refine sizeOf' ?_) | (with_reducible refine sizeAdd ?_) | (dsimp only; first | (with_reducible refine sizeOf' ?_) | (with_reducible refine sizeAdd ?_))))
theorem gcd_leftA (a b : Int) : gcdI a b ∣ a := by unfold gcdI; exact Int.gcd_dvd_left ..
theorem gcd_rightA (a b : Int) : gcdI a b ∣ b := by unfold gcdI; exact Int.gcd_dvd_right ..
theorem red_boundsA (n d : Int) (hd : 0 < d) : 0 ≤ redN n d ∧ redN n d < redD n d ∧ 1 ≤ redD n d ∧ redD n d ≤ d := by
  have hp := gcdI_pos (n % d) d hd
  have h1 := Int.emod_nonneg n (b := d) (by omega)
  have h2 := Int.emod_lt_of_pos n hd
  obtain ⟨x, hx⟩ := gcd_leftA (n % d) d
  obtain ⟨y, hy⟩ := gcd_rightA (n % d) d
  unfold redN redD
  generalize gcdI (n % d) d = g at *
  generalize n % d = r at *
  subst hx hy
  rw [Int.mul_ediv_cancel_left _ (by omega), Int.mul_ediv_cancel_left _ (by omega)]
  have p0 : 0 ≤ x := by
    rcases (show x < 0 ∨ 0 ≤ x by omega) with h | h
    · have := Int.mul_neg_of_pos_of_neg hp h; omega
    · exact h
  have p1 : x < y := Int.lt_of_mul_lt_mul_left h2 (by omega)
  refine ⟨p0, p1, by omega, ?_⟩
  have := Int.mul_le_mul_of_nonneg_right (show 1 ≤ g by omega) (show 0 ≤ y by omega)
  omega
/-- The way forward of an arc, reduced. -/
def fwX (x : Lf4) : Int × Int := (redN (x.2.2.1 * x.2.1 - x.1 * x.2.2.2) (x.2.1 * x.2.2.2), redD (x.2.2.1 * x.2.1 - x.1 * x.2.2.2) (x.2.1 * x.2.2.2))
/-- Both ends are angles. -/
def okX (x : Lf4) : Prop := angOk x.1 x.2.1 ∧ angOk x.2.2.1 x.2.2.2
theorem fw_W {x : Lf4} (h : okX x) : angWA (fwX x).1 (fwX x).2 := by
  obtain ⟨⟨a1, a2, a3, a4⟩, ⟨b1, b2, b3, b4⟩⟩ := h
  obtain ⟨r1, r2⟩ := mul_bound (a := x.2.1) (b := x.2.2.2) (by omega) (by omega) (by omega) (by omega)
  have r3 : 1 ≤ x.2.1 * x.2.2.2 := Int.mul_pos (by omega) (by omega)
  obtain ⟨t1, t2, t3, t4⟩ := red_boundsA (x.2.2.1 * x.2.1 - x.1 * x.2.2.2) (x.2.1 * x.2.2.2) (by omega)
  exact ⟨t3, Int.le_trans t4 r2, t1, t2⟩
/-- The second arc is shorter. -/
def shB (m x : Lf4) : Bool := ltA (fwX x).1 (fwX x).2 (fwX m).1 (fwX m).2
/-- The first shortest arc. -/
def minA : Lf4 → List Lf4 → Lf4
  | m, [] => m
  | m, x :: t => minA (if shB m x then x else m) t
theorem cmpI_lt (x y : Int) : decide (cmpI x y < 0) = decide (x < y) := by
  unfold cmpI
  rw [decide_eq_decide]
  split
  · omega
  · split <;> omega
/-- The boxes of the comparison. -/
structure BxA (w : World) (x y : Lf4) (W : World) : Prop where
  B : Below w.heap.size w W
  z : w.heap.size + 1 < W.heap.size
  a0 : W.cell? ⟨w.heap.size, 0, none⟩ = some (.int .i64 x.1)
  a1 : W.cell? ⟨w.heap.size, 1, none⟩ = some (.int .i64 x.2.1)
  a2 : W.cell? ⟨w.heap.size, 2, none⟩ = some (.int .i64 x.2.2.1)
  a3 : W.cell? ⟨w.heap.size, 3, none⟩ = some (.int .i64 x.2.2.2)
  b0 : W.cell? ⟨w.heap.size + 1, 0, none⟩ = some (.int .i64 y.1)
  b1 : W.cell? ⟨w.heap.size + 1, 1, none⟩ = some (.int .i64 y.2.1)
  b2 : W.cell? ⟨w.heap.size + 1, 2, none⟩ = some (.int .i64 y.2.2.1)
  b3 : W.cell? ⟨w.heap.size + 1, 3, none⟩ = some (.int .i64 y.2.2.2)
theorem BxA.on {w W W1 : World} {x y : Lf4} (H : BxA w x y W) (hb : Below W.heap.size W W1) : BxA w x y W1 := by
  have hz := H.z
  have hs := hb.size
  exact ⟨belowNext H.B hb, by omega, cellThru hb (by omega) H.a0, cellThru hb (by omega) H.a1, cellThru hb (by omega) H.a2, cellThru hb (by omega) H.a3, cellThru hb hz H.b0, cellThru hb hz H.b1, cellThru hb hz H.b2, cellThru hb hz H.b3⟩
set_option maxRecDepth 8000 in
set_option maxHeartbeats 2000000 in
theorem implClA (x y : Lf4) (w : World) (hx : okX x) (hy : okX y) :
    Calls Try.prog 53 #[leafV x.1 x.2.1 x.2.2.1 x.2.2.2, leafV y.1 y.2.1 y.2.2.1 y.2.2.2] w fun e w' => e = .returned (.int .i64 (cmpI ((fwX x).1 * (fwX y).2) ((fwX y).1 * (fwX x).2))) ∧ Below w.heap.size w w' := by
  have H1 : Hid (∀ w, Calls Try.prog 55 #[ang x.1 x.2.1, ang x.2.2.1 x.2.2.2] w fun e w' => e = .returned (ang (fwX x).1 (fwX x).2) ∧ Below w.heap.size w w') := Lib.hid (fun w => implWFA x.1 x.2.1 x.2.2.1 x.2.2.2 w hx.1 hx.2)
  have H2 : Hid (∀ w, Calls Try.prog 55 #[ang y.1 y.2.1, ang y.2.2.1 y.2.2.2] w fun e w' => e = .returned (ang (fwX y).1 (fwX y).2) ∧ Below w.heap.size w w') := Lib.hid (fun w => implWFA y.1 y.2.1 y.2.2.1 y.2.2.2 w hy.1 hy.2)
  have H3 := Lib.hid (fun w => cmpAngWA (fwX x).1 (fwX x).2 (fwX y).1 (fwX y).2 w (fw_W hx) (fw_W hy))
  clear hx hy
  generalize cmpI ((fwX x).1 * (fwX y).2) ((fwX y).1 * (fwX x).2) = C at *
  generalize (fwX x).1 = p at *
  generalize (fwX x).2 = q at *
  generalize (fwX y).1 = r at *
  generalize (fwX y).2 = s at *
  obtain ⟨x1, x2, x3, x4⟩ := x
  obtain ⟨y1, y2, y3, y4⟩ := y
  dsimp only at *
  go_enter Try.func53, Try.ntmps53
  go_wp2_with fail
  have S0 : BxA w (x1, x2, x3, x4) (y1, y2, y3, y4) ((w.alloc (.cells #[.int .i64 x1, .int .i64 x2, .int .i64 x3, .int .i64 x4] 62)).alloc (.cells #[.int .i64 y1, .int .i64 y2, .int .i64 y3, .int .i64 y4] 62)) := ⟨by (repeat' (first | (with_reducible exact Below.refl _ _) | (with_reducible assumption) | (with_reducible refine belowNext ?_ (by with_reducible assumption)) | (with_reducible refine belowAlloc ?_ _) | (with_reducible refine Below.drew ?_) | (with_reducible refine below_drewN ?_ _) | (with_reducible refine Below.setCell ?_ ?_ _) | go_size | (with_reducible refine sizeOf' ?_) | (with_reducible refine sizeAdd ?_) | (dsimp only; first | (with_reducible refine sizeOf' ?_) | (with_reducible refine sizeAdd ?_)))), by simp, by simp [go_sem], by simp [go_sem], by simp [go_sem], by simp [go_sem], by simp [go_sem], by simp [go_sem], by simp [go_sem], by simp [go_sem]⟩
  refine wp_region_held_drew (S := (BxA w (x1, x2, x3, x4) (y1, y2, y3, y4))) (by kernel_rfl) ?_ (fun hHeld => ?_)
  · exact S0.on (Below.refl _ _).drew
  refine wpAnyH_take (i := 0) (v := ?_) rfl (by kernel_rfl) (by kernel_rfl) (by kernel_rfl) (fun _ _ _ h => h) (Or.inl ⟨by kernel_rfl, ?_⟩) hHeld ?_
  rotate_left
  · intro w hSw; obtain ⟨B, z, a0, a1, a2, a3, b0, b1, b2, b3⟩ := hSw; first | (go_simp; done) | (go_simp; with_reducible rfl)
  refine wpAnyH_take (i := 1) (v := ?_) rfl (by kernel_rfl) (by kernel_rfl) (by kernel_rfl) (fun _ _ _ h => h) (Or.inl ⟨by kernel_rfl, ?_⟩) hHeld ?_
  rotate_left
  · intro w hSw; obtain ⟨B, z, a0, a1, a2, a3, b0, b1, b2, b3⟩ := hSw; first | (go_simp; done) | (go_simp; with_reducible rfl)
  refine wpAnyH_take (i := 2) (v := ?_) rfl (by kernel_rfl) (by kernel_rfl) (by kernel_rfl) (fun _ _ _ h => h) (Or.inl ⟨by kernel_rfl, ?_⟩) hHeld ?_
  rotate_left
  · intro w hSw; obtain ⟨B, z, a0, a1, a2, a3, b0, b1, b2, b3⟩ := hSw; first | (go_simp; done) | (go_simp; with_reducible rfl)
  refine wpAnyH_take (i := 3) (v := ?_) rfl (by kernel_rfl) (by kernel_rfl) (by kernel_rfl) (fun _ _ _ h => h) (Or.inl ⟨by kernel_rfl, ?_⟩) hHeld ?_
  rotate_left
  · intro w hSw; obtain ⟨B, z, a0, a1, a2, a3, b0, b1, b2, b3⟩ := hSw; first | (go_simp; done) | (go_simp; with_reducible rfl)
  refine wpAnyH_take (i := 5) (v := ?_) rfl (by kernel_rfl) (by kernel_rfl) (by kernel_rfl) (fun _ _ _ h => h) (Or.inl ⟨by kernel_rfl, ?_⟩) hHeld ?_
  rotate_left
  · intro w hSw; obtain ⟨B, z, a0, a1, a2, a3, b0, b1, b2, b3⟩ := hSw; first | (go_simp; done) | (go_simp; with_reducible rfl)
  refine wpAnyH_take (i := 6) (v := ?_) rfl (by kernel_rfl) (by kernel_rfl) (by kernel_rfl) (fun _ _ _ h => h) (Or.inl ⟨by kernel_rfl, ?_⟩) hHeld ?_
  rotate_left
  · intro w hSw; obtain ⟨B, z, a0, a1, a2, a3, b0, b1, b2, b3⟩ := hSw; first | (go_simp; done) | (go_simp; with_reducible rfl)
  refine wpAnyH_take (i := 7) (v := ?_) rfl (by kernel_rfl) (by kernel_rfl) (by kernel_rfl) (fun _ _ _ h => h) (Or.inl ⟨by kernel_rfl, ?_⟩) hHeld ?_
  rotate_left
  · intro w hSw; obtain ⟨B, z, a0, a1, a2, a3, b0, b1, b2, b3⟩ := hSw; first | (go_simp; done) | (go_simp; with_reducible rfl)
  refine wpAnyH_take (i := 8) (v := ?_) rfl (by kernel_rfl) (by kernel_rfl) (by kernel_rfl) (fun _ _ _ h => h) (Or.inl ⟨by kernel_rfl, ?_⟩) hHeld ?_
  rotate_left
  · intro w hSw; obtain ⟨B, z, a0, a1, a2, a3, b0, b1, b2, b3⟩ := hSw; first | (go_simp; done) | (go_simp; with_reducible rfl)
  refine wpAnyH_ready (rs := [4]) (by kernel_rfl) (by simp) ?_
  refine AllReadyH.cons rfl (fun K hK => ?_) AllReadyH.nil
  go_simp
  go_wp2_with (go_at_call 55; (with_reducible refine (H1.out _).mono ?_); rintro e w11 ⟨rfl, hb11⟩)
  have S1 := hHeld.on hb11
  refine hK.out _ _ ?_ (fun hHeld => ?_)
  · exact S1
  clear hK K
  refine wpAnyH_ready (rs := [9]) (by kernel_rfl) (by simp) ?_
  refine AllReadyH.cons rfl (fun K hK => ?_) AllReadyH.nil
  go_simp
  go_wp2_with (go_at_call 55; (with_reducible refine (H2.out _).mono ?_); rintro e w12 ⟨rfl, hb12⟩)
  have S2 := S1.on hb12
  refine hK.out _ _ ?_ (fun hHeld => ?_)
  · exact S2
  clear hK K
  refine wpAnyH_ready (rs := [10]) (by kernel_rfl) (by simp) ?_
  refine AllReadyH.cons rfl (fun K hK => ?_) AllReadyH.nil
  go_simp
  go_wp2_with (go_at_call 54; (with_reducible refine (H3.out _).mono ?_); rintro e w13 ⟨rfl, hb13⟩)
  have S3 := S2.on hb13
  refine hK.out _ _ ?_ (fun hHeld => ?_)
  · exact S3
  clear hK K
  refine wpAnyH_take (i := 11) (v := ?_) rfl (by kernel_rfl) (by kernel_rfl) (by kernel_rfl) (fun _ _ _ h => h) (Or.inl ⟨by kernel_rfl, ?_⟩) hHeld ?_
  rotate_left
  · intro w hSw; obtain ⟨B, z, a0, a1, a2, a3, b0, b1, b2, b3⟩ := hSw; first | (go_simp; done) | (go_simp; with_reducible rfl)
  refine wpAnyH_done (by kernel_rfl) ?_ _
  have B3 := S3.B
  go_wp2
  go_ret
  exact ⟨rfl, B3⟩

theorem minA_end {l : List Lf4} {k : Nat} {m : Lf4} (h : l.length ≤ k) : minA m (l.drop k) = m := by
  rw [List.drop_eq_nil_of_le h]; rfl
theorem minA_yes {l : List Lf4} {k : Nat} {m x : Lf4} (hx : l[k]? = some x) (h : shB m x = true) : minA m (l.drop k) = minA x (l.drop (k + 1)) := by
  have hk : k < l.length := by
    rcases Nat.lt_or_ge k l.length with h1 | h1
    · exact h1
    · rw [List.getElem?_eq_none h1] at hx; cases hx
  rw [List.drop_eq_getElem_cons hk]
  have e : l[k] = x := by rw [List.getElem?_eq_getElem hk] at hx; injection hx
  rw [e]
  show minA (if shB m x then x else m) _ = _
  rw [h]; rfl
theorem minA_no {l : List Lf4} {k : Nat} {m x : Lf4} (hx : l[k]? = some x) (h : shB m x = false) : minA m (l.drop k) = minA m (l.drop (k + 1)) := by
  have hk : k < l.length := by
    rcases Nat.lt_or_ge k l.length with h1 | h1
    · exact h1
    · rw [List.getElem?_eq_none h1] at hx; cases hx
  rw [List.drop_eq_getElem_cons hk]
  have e : l[k] = x := by rw [List.getElem?_eq_getElem hk] at hx; injection hx
  rw [e]
  show minA (if shB m x then x else m) _ = _
  rw [h]; rfl

/-- What holds when k leaves have been looked at; rb: the result's box, bb: the box of the best one. -/
structure MnSt (w : World) (rb bb : Nat) (l : List Lf4) (x0 : Lf4) (k : Nat) (m : Lf4) (wr : World) : Prop where
  cs : Cells4 wr bb 0 m.1 m.2.1 m.2.2.1 m.2.2.2
  fs : Free4 wr bb 0
  rs : Cells4 wr rb 0 0 0 0 0
  rf : Free4 wr rb 0
  z : bb < wr.heap.size
  B : Below w.heap.size w wr
  g : okX m
  e : minA m (l.drop k) = minA x0 (l.drop 1)
theorem MnSt.next {w wr W : World} {rb bb : Nat} {l : List Lf4} {x0 m : Lf4} {k : Nat} (h : MnSt w rb bb l x0 k m wr) (hr : rb < bb) (hb : Below wr.heap.size wr W) : MnSt w rb bb l x0 k m W :=
  ⟨h.cs.next hb h.z, h.fs.next hb h.z, h.rs.next hb (Nat.lt_trans hr h.z), h.rf.next hb (Nat.lt_trans hr h.z), Nat.lt_of_lt_of_le h.z hb.size, belowNext h.B hb, h.g, h.e⟩
/-- What is kept on the way: all but the place. -/
theorem MnSt.step {w wr : World} {rb bb : Nat} {l : List Lf4} {x0 m x : Lf4} {k : Nat} (h : MnSt w rb bb l x0 k m wr) (hx : l[k]? = some x) (hl : shB m x = false) : MnSt w rb bb l x0 (k + 1) m wr :=
  ⟨h.cs, h.fs, h.rs, h.rf, h.z, h.B, h.g, by rw [← minA_no hx hl]; exact h.e⟩
theorem minA_drop (x : Lf4) (t : List Lf4) : minA x ((x :: t).drop 1) = minA x t := rfl

set_option maxHeartbeats 4000000 in
theorem implMinA (A : Option Addr) (len cap : Nat) (l : List Lf4) (x0 : Lf4) (w : World) (hr : LfRow w w.heap.size A l) (hl : l.length = len) (hm : len ≤ 1000000000000) (h0 : l[0]? = some x0) (hA : ∀ x ∈ l, okX x) :
    Calls Try.prog 52 #[.slice A len cap, .func (Fn.func 53) #[] #[]] w fun e w' => e = .returned (leafV (minA x0 (l.drop 1)).1 (minA x0 (l.drop 1)).2.1 (minA x0 (l.drop 1)).2.2.1 (minA x0 (l.drop 1)).2.2.2) ∧ Below w.heap.size w w' := by
  have HR := Lib.hid hr
  have HL := Lib.hid hl
  have HA := Lib.hid hA
  have hpos : 0 < len := by
    rcases Nat.lt_or_ge 0 l.length with h1 | h1
    · omega
    · rw [List.getElem?_eq_none h1] at h0; cases h0
  have hne : l ≠ [] := by intro h; rw [h] at h0; simp at h0
  obtain ⟨b', off, rfl, hbb, hcells⟩ := row_at hr hne
  obtain ⟨a, b, c, d⟩ := x0
  have HG : Hid (okX (a, b, c, d)) := Lib.hid (hA _ (List.mem_of_getElem? h0))
  have HC := Lib.hid hcells
  obtain ⟨x0, x1, x2, x3⟩ := hcells 0 a b c d h0
  have hp1 : ¬ ((len : Int) < 1) := by omega
  simp only [Nat.zero_mul, Nat.add_zero] at x0 x1 x2 x3
  clear hr hl hA h0 hne hcells
  go_enter Try.func52, Try.ntmps52
  go_wp2
  have hst : MnSt w w.heap.size (w.heap.size + 1) l (a, b, c, d) 1 (a, b, c, d) ((w.alloc (.cells #[.int .i64 0, .int .i64 0, .int .i64 0, .int .i64 0] 62)).alloc (.cells #[.int .i64 a, .int .i64 b, .int .i64 c, .int .i64 d] 62)) := by
    refine ⟨⟨by simp [go_sem], by simp [go_sem], by simp [go_sem], by simp [go_sem]⟩, ⟨by simp [go_sem], by simp [go_sem], by simp [go_sem], by simp [go_sem]⟩, ⟨by simp [go_sem], by simp [go_sem], by simp [go_sem], by simp [go_sem]⟩, ⟨by simp [go_sem], by simp [go_sem], by simp [go_sem], by simp [go_sem]⟩, by simp, ?_, HG.out, rfl⟩
    (repeat' (first | (with_reducible exact Below.refl _ _) | (with_reducible assumption) | (with_reducible refine belowNext ?_ (by with_reducible assumption)) | (with_reducible refine belowAlloc ?_ _) | (with_reducible refine Below.drew ?_) | (with_reducible refine below_drewN ?_ _) | (with_reducible refine Below.setCell ?_ ?_ _) | go_size | (with_reducible refine sizeOf' ?_) | (with_reducible refine sizeAdd ?_) | (dsimp only; first | (with_reducible refine sizeOf' ?_) | (with_reducible refine sizeAdd ?_))))
  have HS := Lib.hid hst
  clear hst x0 x1 x2 x3
  go_loopw [6] (fun i wr => ∃ (k : Nat) (m : Lf4), k ≤ len ∧ i = .int .i64 k ∧ Hid (MnSt w w.heap.size (w.heap.size + 1) l (a, b, c, d) k m wr)) (fun i _ => len - (intOf i).toNat)
  case atStart => exact ⟨1, _, by omega, rfl, HS⟩
  case round =>
    obtain ⟨k, ⟨m1, m2, m3, m4⟩, hk, rfl, H⟩ := hrel
    obtain ⟨⟨y0, y1, y2, y3⟩, ⟨f0, f1, f2, f3⟩, ⟨z0, z1, z2, z3⟩, ⟨g0, g1, g2, g3⟩, hz, hB, hG, hE⟩ := id H.out
    dsimp only at y0 y1 y2 y3
    simp only [Nat.zero_add] at y0 y1 y2 y3 f0 f1 f2 f3 z0 z1 z2 z3 g0 g1 g2 g3
    by_cases hlt : k < len
    · obtain ⟨n, d', m', c', hx⟩ := lfAt (l := l) (k := k) (by have := HL.out; omega)
      obtain ⟨x0, x1, x2, x3⟩ := (HC.out k n d' m' c' hx).next hB hbb
      have hok := HA.out _ (List.mem_of_getElem? hx)
      have HF := Lib.hid (fun W => implClA (n, d', m', c') (m1, m2, m3, m4) W hok hG)
      have HD : Hid (shB (m1, m2, m3, m4) (n, d', m', c') = decide (cmpI ((fwX (n, d', m', c')).1 * (fwX (m1, m2, m3, m4)).2) ((fwX (m1, m2, m3, m4)).1 * (fwX (n, d', m', c')).2) < 0)) := Lib.hid (by rw [cmpI_lt]; rfl)
      have HX := Lib.hid hx
      have hGx : Hid (okX (n, d', m', c')) := Lib.hid (HA.out _ (List.mem_of_getElem? hx))
      dsimp only at HF
      clear hx hok hG hE
      generalize cmpI ((fwX (n, d', m', c')).1 * (fwX (m1, m2, m3, m4)).2) ((fwX (m1, m2, m3, m4)).1 * (fwX (n, d', m', c')).2) = C at *
      go_wp2_with fail
      go_region_with (first | (go_at_call 53; (with_reducible refine (HF.out _).mono ?_); rintro e w3 ⟨rfl, hb3⟩))
      all_goals
        have H3 := Lib.hid (H.out.next (W := w3) (by omega) (show Below wr.heap.size wr w3 by (repeat' (first | (with_reducible exact Below.refl _ _) | (with_reducible assumption) | (with_reducible refine belowNext ?_ (by with_reducible assumption)) | (with_reducible refine belowAlloc ?_ _) | (with_reducible refine Below.drew ?_) | (with_reducible refine below_drewN ?_ _) | (with_reducible refine Below.setCell ?_ ?_ _) | go_size | (with_reducible refine sizeOf' ?_) | (with_reducible refine sizeAdd ?_) | (dsimp only; first | (with_reducible refine sizeOf' ?_) | (with_reducible refine sizeAdd ?_))))))
        clear x0 x1 x2 x3 y0 y1 y2 y3 f0 f1 f2 f3 z0 z1 z2 z3 g0 g1 g2 g3 hb3 hB hz H HF HR HS HG hp1
        obtain ⟨⟨y0, y1, y2, y3⟩, ⟨f0, f1, f2, f3⟩, ⟨z0, z1, z2, z3⟩, ⟨g0, g1, g2, g3⟩, hz, hB, hG, hE⟩ := id H3.out
        dsimp only at y0 y1 y2 y3
        simp only [Nat.zero_add] at y0 y1 y2 y3 f0 f1 f2 f3 z0 z1 z2 z3 g0 g1 g2 g3
        by_cases hc : C < 0
        · have HT : Hid (shB (m1, m2, m3, m4) (n, d', m', c') = true) := Lib.hid (by rw [HD.out, decide_eq_true hc])
          have HE : Hid (minA (n, d', m', c') (l.drop (k + 1)) = minA (a, b, c, d) (l.drop 1)) := Lib.hid (by rw [← minA_yes HX.out HT.out]; exact hE)
          clear hE hG
          obtain ⟨x0, x1, x2, x3⟩ := (HC.out k n d' m' c' HX.out).next hB hbb
          go_wp2
          go_roundw
          case rel =>
            refine ⟨k + 1, (n, d', m', c'), by omega, by go_num, Lib.hid ⟨⟨by simp [go_sem, y0], by simp [go_sem, y1], by simp [go_sem, y2], by simp [go_sem, y3]⟩, ⟨by simp [go_sem, f0], by simp [go_sem, f1], by simp [go_sem, f2], by simp [go_sem, f3]⟩, ⟨by simp [go_sem, z0], by simp [go_sem, z1], by simp [go_sem, z2], by simp [go_sem, z3]⟩, ⟨by simp [go_sem, g0], by simp [go_sem, g1], by simp [go_sem, g2], by simp [go_sem, g3]⟩, by simp; omega, ?_, hGx.out, HE.out⟩⟩
            (repeat' (first | (with_reducible exact Below.refl _ _) | (with_reducible assumption) | (with_reducible refine belowNext ?_ (by with_reducible assumption)) | (with_reducible refine belowAlloc ?_ _) | (with_reducible refine Below.drew ?_) | (with_reducible refine below_drewN ?_ _) | (with_reducible refine Below.setCell ?_ ?_ _) | go_size | (with_reducible refine sizeOf' ?_) | (with_reducible refine sizeAdd ?_) | (dsimp only; first | (with_reducible refine sizeOf' ?_) | (with_reducible refine sizeAdd ?_))))
          case measure => simp [intOf]; omega
        · have HT : Hid (shB (m1, m2, m3, m4) (n, d', m', c') = false) := Lib.hid (by rw [HD.out, decide_eq_false hc])
          have HQ := Lib.hid (H3.out.step HX.out HT.out)
          clear hE hG hB hz y0 y1 y2 y3 f0 f1 f2 f3 z0 z1 z2 z3 g0 g1 g2 g3
          go_wp2
          go_roundw
          case rel => exact ⟨k + 1, _, by omega, by go_num, HQ⟩
          case measure => simp [intOf]; omega
    · have HN := Lib.hid (minA_end (l := l) (k := k) (m := (m1, m2, m3, m4)) (by have := HL.out; omega))
      have HE := Lib.hid (HN.out.symm.trans hE)
      clear hE hG
      go_wp2
      refine bodyPost_ret (v := leafV m1 m2 m3 m4) (by simp [results, Try.results52, go_sem, z0, z1, z2, z3]) rfl ⟨by rw [← HE.out], ?_⟩
      (repeat' (first | (with_reducible exact Below.refl _ _) | (with_reducible assumption) | (with_reducible refine belowNext ?_ (by with_reducible assumption)) | (with_reducible refine belowAlloc ?_ _) | (with_reducible refine Below.drew ?_) | (with_reducible refine below_drewN ?_ _) | (with_reducible refine Below.setCell ?_ ?_ _) | go_size | (with_reducible refine sizeOf' ?_) | (with_reducible refine sizeAdd ?_) | (dsimp only; first | (with_reducible refine sizeOf' ?_) | (with_reducible refine sizeAdd ?_))))

/-- The arc from the angle with the number i to the one behind it. -/
def arcAt (l : List (Int × Int)) (i : Nat) : Lf4 := ((cA l i).1, (cA l i).2, (cA l ((i + 1) % l.length)).1, (cA l ((i + 1) % l.length)).2)
def arcsOf (l : List (Int × Int)) : List Lf4 := (List.range l.length).map (arcAt l)
def arcL (ls : List (List (Int × Int))) : List Lf4 := (ls.map arcsOf).flatten
theorem arcs_len (l : List (Int × Int)) : (arcsOf l).length = l.length := by simp [arcsOf]
theorem arcs_take {l : List (Int × Int)} {j : Nat} (h : j < l.length) : (arcsOf l).take (j + 1) = (arcsOf l).take j ++ [arcAt l j] := by
  have e : (arcsOf l)[j]? = some (arcAt l j) := by unfold arcsOf; rw [List.getElem?_map, List.getElem?_range h]; rfl
  rw [List.take_add_one, e, Option.toList_some]
theorem arc_ok {l : List (Int × Int)} (ha : allAng l = true) {i : Nat} (h : i < l.length) : okX (arcAt l i) := ⟨isAng_ok (cA_ang ha h), isAng_ok (cA_ang ha (Nat.mod_lt _ (by omega)))⟩
theorem arcsOf_ok {l : List (Int × Int)} (ha : allAng l = true) : ∀ x ∈ arcsOf l, okX x := by
  intro x hx
  obtain ⟨i, hi, rfl⟩ := List.mem_map.1 hx
  exact arc_ok ha (List.mem_range.1 hi)
/-- The arcs of the first k sets, and the first j of the next one. -/
def arcK (ls : List (List (Int × Int))) (k j : Nat) : List Lf4 := ((ls.take k).map arcsOf).flatten ++ (arcsOf (gA ls k)).take j
theorem arcK_zero (ls : List (List (Int × Int))) : arcK ls 0 0 = [] := by simp [arcK]
theorem arcK_step {ls : List (List (Int × Int))} {k j : Nat} (h : j < (gA ls k).length) : arcK ls k (j + 1) = arcK ls k j ++ [arcAt (gA ls k) j] := by
  unfold arcK
  rw [arcs_take h, List.append_assoc]
theorem arcK_next {ls : List (List (Int × Int))} {k j : Nat} (hk : k < ls.length) (hj : (gA ls k).length ≤ j) : arcK ls k j = arcK ls (k + 1) 0 := by
  have e : (arcsOf (gA ls k)).take j = arcsOf (gA ls k) := List.take_of_length_le (by rw [arcs_len]; exact hj)
  unfold arcK
  rw [e, List.take_add_one, gA_some hk]
  simp
theorem arcK_end (ls : List (List (Int × Int))) : arcK ls ls.length 0 = arcL ls := by
  unfold arcK arcL
  rw [List.take_length]
  simp
theorem minA_app (x : Lf4) : ∀ (l : List Lf4) (m : Lf4), minA m (l ++ [x]) = if shB (minA m l) x then x else minA m l
  | [], m => rfl
  | y :: l, m => by
    show minA (if shB m y then y else m) (l ++ [x]) = _
    rw [minA_app x l]
    rfl
theorem shB_self (m : Lf4) : shB m m = false := by
  unfold shB ltA
  exact decide_eq_false (by omega)
/-- Two boxes with an angle each. -/
structure TwoB (lo F G : Nat) (m : Lf4) (W : World) : Prop where
  lF : lo ≤ F
  lG : lo ≤ G
  zF : F < W.heap.size
  zG : G < W.heap.size
  ne : F ≠ G
  c0 : W.cell? ⟨F, 0, none⟩ = some (.int .i64 m.1)
  c1 : W.cell? ⟨F, 1, none⟩ = some (.int .i64 m.2.1)
  c2 : W.cell? ⟨G, 0, none⟩ = some (.int .i64 m.2.2.1)
  c3 : W.cell? ⟨G, 1, none⟩ = some (.int .i64 m.2.2.2)
  f0 : W.frozen? ⟨F, 0, none⟩ = false
  f1 : W.frozen? ⟨F, 1, none⟩ = false
  f2 : W.frozen? ⟨G, 0, none⟩ = false
  f3 : W.frozen? ⟨G, 1, none⟩ = false
theorem TwoB.on {lo F G : Nat} {m : Lf4} {W W1 : World} (H : TwoB lo F G m W) (hb : Below W.heap.size W W1) : TwoB lo F G m W1 := by
  have hs := hb.size
  have h1 := H.zF; have h2 := H.zG
  exact ⟨H.lF, H.lG, by omega, by omega, H.ne, cellThru hb h1 H.c0, cellThru hb h1 H.c1, cellThru hb h2 H.c2, cellThru hb h2 H.c3, frozThru hb h1 H.f0, frozThru hb h1 H.f1, frozThru hb h2 H.f2, frozThru hb h2 H.f3⟩
/-- The boxes of the shortest arc, behind those of the results. -/
structure ArcS (w : World) (F G : Nat) (m : Lf4) (W : World) : Prop where
  B : Below w.heap.size w W
  t : TwoB (w.heap.size + 1 + 1) F G m W
  r0 : ∃ u, W.cell? ⟨w.heap.size, 0, none⟩ = some u
  r1 : ∃ u, W.cell? ⟨w.heap.size, 1, none⟩ = some u
  s0 : ∃ u, W.cell? ⟨w.heap.size + 1, 0, none⟩ = some u
  s1 : ∃ u, W.cell? ⟨w.heap.size + 1, 1, none⟩ = some u
  g0 : W.frozen? ⟨w.heap.size, 0, none⟩ = false
  g1 : W.frozen? ⟨w.heap.size, 1, none⟩ = false
  h0 : W.frozen? ⟨w.heap.size + 1, 0, none⟩ = false
  h1 : W.frozen? ⟨w.heap.size + 1, 1, none⟩ = false
theorem ArcS.on {w W W1 : World} {F G : Nat} {m : Lf4} (H : ArcS w F G m W) (hb : Below W.heap.size W W1) : ArcS w F G m W1 := by
  have hz := H.t.zF
  have hl := H.t.lF
  exact ⟨belowNext H.B hb, H.t.on hb, H.r0.imp fun _ h => cellThru hb (by omega) h, H.r1.imp fun _ h => cellThru hb (by omega) h, H.s0.imp fun _ h => cellThru hb (by omega) h, H.s1.imp fun _ h => cellThru hb (by omega) h, frozThru hb (by omega) H.g0, frozThru hb (by omega) H.g1, frozThru hb (by omega) H.h0, frozThru hb (by omega) H.h1⟩
theorem oth2 {W : World} {F : Nat} {u0 u1 : Value} {B o : Nat} {u : Value} (h : B ≠ F) (hc : W.cell? ⟨B, o, none⟩ = some u) : ((W.setCell ⟨F, 0, none⟩ u0).setCell ⟨F, 1, none⟩ u1).cell? ⟨B, o, none⟩ = some u := by
  rw [World.cell?_setCell_other _ _ _ _ (by intro e; injection e; omega), World.cell?_setCell_other _ _ _ _ (by intro e; injection e; omega)]
  exact hc
theorem twoC {W : World} {b : Nat} {u0 u1 v0 v1 : Value} (h0 : W.cell? ⟨b, 0, none⟩ = some v0) (h1 : W.cell? ⟨b, 1, none⟩ = some v1) :
    ((W.setCell ⟨b, 0, none⟩ u0).setCell ⟨b, 1, none⟩ u1).cell? ⟨b, 0, none⟩ = some u0 ∧ ((W.setCell ⟨b, 0, none⟩ u0).setCell ⟨b, 1, none⟩ u1).cell? ⟨b, 1, none⟩ = some u1 := by
  constructor
  · rw [World.cell?_setCell_other _ _ _ _ (by simp)]
    exact World.cell?_setCell_same _ _ _ h0
  · have h1' : (W.setCell ⟨b, 0, none⟩ u0).cell? ⟨b, 1, none⟩ = some v1 := by rw [World.cell?_setCell_other _ _ _ _ (by simp)]; exact h1
    exact World.cell?_setCell_same _ _ _ h1'
theorem ArcS.putF {w W : World} {F G : Nat} {m : Lf4} (H : ArcS w F G m W) (a b : Int) : ArcS w F G (a, b, m.2.2.1, m.2.2.2) ((W.setCell ⟨F, 0, none⟩ (.int .i64 a)).setCell ⟨F, 1, none⟩ (.int .i64 b)) := by
  obtain ⟨c0, c1⟩ := twoC (u0 := .int .i64 a) (u1 := .int .i64 b) H.t.c0 H.t.c1
  have hl := H.t.lF
  have hne := H.t.ne
  exact ⟨(H.B.setCell (by show w.heap.size ≤ F; omega) _).setCell (by show w.heap.size ≤ F; omega) _, ⟨H.t.lF, H.t.lG, by simpa using H.t.zF, by simpa using H.t.zG, hne, c0, c1, oth2 (fun e => hne e.symm) H.t.c2, oth2 (fun e => hne e.symm) H.t.c3, by simpa using H.t.f0, by simpa using H.t.f1, by simpa using H.t.f2, by simpa using H.t.f3⟩,
    H.r0.imp fun _ h => oth2 (by omega) h, H.r1.imp fun _ h => oth2 (by omega) h, H.s0.imp fun _ h => oth2 (by omega) h, H.s1.imp fun _ h => oth2 (by omega) h, by simpa using H.g0, by simpa using H.g1, by simpa using H.h0, by simpa using H.h1⟩
theorem ArcS.putG {w W : World} {F G : Nat} {m : Lf4} (H : ArcS w F G m W) (a b : Int) : ArcS w F G (m.1, m.2.1, a, b) ((W.setCell ⟨G, 0, none⟩ (.int .i64 a)).setCell ⟨G, 1, none⟩ (.int .i64 b)) := by
  obtain ⟨c0, c1⟩ := twoC (u0 := .int .i64 a) (u1 := .int .i64 b) H.t.c2 H.t.c3
  have hl := H.t.lG
  have hne := H.t.ne
  exact ⟨(H.B.setCell (by show w.heap.size ≤ G; omega) _).setCell (by show w.heap.size ≤ G; omega) _, ⟨H.t.lF, H.t.lG, by simpa using H.t.zF, by simpa using H.t.zG, hne, oth2 hne H.t.c0, oth2 hne H.t.c1, c0, c1, by simpa using H.t.f0, by simpa using H.t.f1, by simpa using H.t.f2, by simpa using H.t.f3⟩,
    H.r0.imp fun _ h => oth2 (by omega) h, H.r1.imp fun _ h => oth2 (by omega) h, H.s0.imp fun _ h => oth2 (by omega) h, H.s1.imp fun _ h => oth2 (by omega) h, by simpa using H.g0, by simpa using H.g1, by simpa using H.h0, by simpa using H.h1⟩
theorem TwoB.keep {lo P Q F : Nat} {x : Lf4} {W : World} {u0 u1 : Value} (H : TwoB lo P Q x W) (h : F < lo) : TwoB lo P Q x ((W.setCell ⟨F, 0, none⟩ u0).setCell ⟨F, 1, none⟩ u1) := by
  have h1 := H.lF; have h2 := H.lG
  exact ⟨H.lF, H.lG, by simpa using H.zF, by simpa using H.zG, H.ne, oth2 (by omega) H.c0, oth2 (by omega) H.c1, oth2 (by omega) H.c2, oth2 (by omega) H.c3, by simpa using H.f0, by simpa using H.f1, by simpa using H.f2, by simpa using H.f3⟩

set_option maxHeartbeats 1000000 in
theorem specFwA (n d m c : Int) (w : World) (h1 : angOk n d) (h2 : angOk m c) :
    Calls Try.prog 77 #[ang n d, ang m c] w fun e w' => e = .returned (ang (redN (m * d - n * c) (d * c)) (redD (m * d - n * c) (d * c))) ∧ Below w.heap.size w w' := by
  obtain ⟨a1, a2, a3, a4⟩ := h1
  obtain ⟨b1, b2, b3, b4⟩ := h2
  obtain ⟨p1, p2⟩ := mul_bound (a := n) (b := c) (by omega) (by omega) (by omega) (by omega)
  obtain ⟨q1, q2⟩ := mul_bound (a := m) (b := d) (by omega) (by omega) (by omega) (by omega)
  obtain ⟨r1, r2⟩ := mul_bound (a := d) (b := c) (by omega) (by omega) (by omega) (by omega)
  have r3 : 1 ≤ d * c := Int.mul_pos (by omega) (by omega)
  have HR := Lib.hid (fun w => specRed (m * d - n * c) (d * c) w (by omega) (by omega) (by omega) (by omega))
  generalize redN (m * d - n * c) (d * c) = x at *
  generalize redD (m * d - n * c) (d * c) = y at *
  have wr1 : IntKind.i64.wrap (m * d) = m * d := IntWalk.i64_in _ (by omega)
  have wr2 : IntKind.i64.wrap (n * c) = n * c := IntWalk.i64_in _ (by omega)
  have wr3 : IntKind.i64.wrap (m * d - n * c) = m * d - n * c := IntWalk.i64_in _ (by omega)
  have wr4 : IntKind.i64.wrap (d * c) = d * c := IntWalk.i64_in _ (by omega)
  go_enter Try.func77, Try.ntmps77
  go_wp2_with fail
  refine (HR.out _).mono ?_
  rintro e w1 ⟨rfl, hb1⟩
  obtain ⟨hc1, hf1⟩ := bcell hb1
  have hz1_0 : w.heap.size < w1.heap.size := by have := hb1.size; first | omega | (simp at this; omega)
  have hz1_1 : w.heap.size + 1 < w1.heap.size := by have := hb1.size; first | omega | (simp at this; omega)
  have hz1_2 : w.heap.size + 1 + 1 < w1.heap.size := by have := hb1.size; first | omega | (simp at this; omega)
  have q1_2_0 : w1.cell? ⟨w.heap.size + 1 + 1, 0, none⟩ = some (.int .i64 0) := cellThru hb1 (by simp <;> omega) (by simp [go_sem])
  have q1_2_1 : w1.cell? ⟨w.heap.size + 1 + 1, 1, none⟩ = some (.int .i64 0) := cellThru hb1 (by simp <;> omega) (by simp [go_sem])
  clear wr1 wr2 wr3 wr4
  go_wp2
  refine bodyPost_ret (v := ang x y) (by simp [results, Try.results77, go_sem, q1_2_0, q1_2_1]) rfl ⟨rfl, ?_⟩
  (repeat' (first | (with_reducible exact Below.refl _ _) | (with_reducible assumption) | (with_reducible refine belowNext ?_ (by with_reducible assumption)) | (with_reducible refine belowAlloc ?_ _) | (with_reducible refine Below.drew ?_) | (with_reducible refine below_drewN ?_ _) | (with_reducible refine Below.setCell ?_ ?_ _) | go_size | (with_reducible refine sizeOf' ?_) | (with_reducible refine sizeAdd ?_) | (dsimp only; first | (with_reducible refine sizeOf' ?_) | (with_reducible refine sizeAdd ?_))))

/-- Both pairs of boxes. -/
def ArcT (w : World) (F G : Nat) (m : Lf4) (lo P Q : Nat) (x : Lf4) (W : World) : Prop := ArcS w F G m W ∧ TwoB lo P Q x W
theorem ArcT.on {w W W1 : World} {F G : Nat} {m : Lf4} {lo P Q : Nat} {x : Lf4} (H : ArcT w F G m lo P Q x W) (hb : Below W.heap.size W W1) : ArcT w F G m lo P Q x W1 := ⟨H.1.on hb, H.2.on hb⟩
theorem minA_ok : ∀ {l : List Lf4} {m : Lf4}, okX m → (∀ x ∈ l, okX x) → okX (minA m l)
  | [], _, h, _ => h
  | x :: l, m, h, g => by
    show okX (minA (if shB m x then x else m) l)
    refine minA_ok ?_ (fun y hy => g y (List.mem_cons_of_mem _ hy))
    split
    · exact g x List.mem_cons_self
    · exact h
theorem arcK_ok {ls : List (List (Int × Int))} (ha : ∀ l ∈ ls, allAng l = true) {k j : Nat} (hk : k < ls.length) : ∀ x ∈ arcK ls k j, okX x := by
  intro x hx
  unfold arcK at hx
  rw [List.mem_append] at hx
  rcases hx with hx | hx
  · obtain ⟨l, hl, hx⟩ := List.mem_flatten.1 hx
    obtain ⟨s, hs, rfl⟩ := List.mem_map.1 hl
    exact arcsOf_ok (ha s (List.mem_of_mem_take hs)) x hx
  · exact arcsOf_ok (ha _ (gA_mem hk)) x (List.mem_of_mem_take hx)

set_option maxRecDepth 8000 in
set_option maxHeartbeats 4000000 in
theorem specArcL (A : Option Addr) (n cap : Nat) (ls : List (List (Int × Int))) (w : World) (hr : SetsRow w w.heap.size A ls) (hn : ls.length = n) (hm : n ≤ 1100000) (ht : totL ls ≤ 1100000) (ha : ∀ l ∈ ls, allAng l = true) (hn0 : 0 < n) (h2 : 2 ≤ (gA ls 0).length) :
    Calls Try.prog 50 #[.slice A n cap] w fun e w' => e = .returned (.tuple #[ang (minA (arcAt (gA ls 0) 0) (arcL ls)).1 (minA (arcAt (gA ls 0) 0) (arcL ls)).2.1, ang (minA (arcAt (gA ls 0) 0) (arcL ls)).2.2.1 (minA (arcAt (gA ls 0) 0) (arcL ls)).2.2.2]) ∧ Below w.heap.size w w' := by
  have hl0 : 0 < ls.length := by omega
  have HR := Lib.hid hr
  have HN := Lib.hid hn
  have HTt := Lib.hid ht
  have HAll := Lib.hid ha
  obtain ⟨b, off, rfl, hbb, hc⟩ := hr.form hl0
  have HCs := Lib.hid hc
  obtain ⟨A0, c0, x0, hrow⟩ := hc 0 hl0
  rw [Nat.add_zero] at x0
  obtain ⟨b0, o0, rfl, hb0, hc0⟩ := hrow (by intro e; rw [e] at h2; simp at h2)
  obtain ⟨u0, u1⟩ := hc0 0 _ _ (cA_some (by omega))
  obtain ⟨u2, u3⟩ := hc0 1 _ _ (cA_some (by omega))
  rw [Nat.zero_mul, Nat.add_zero] at u0 u1
  have hn0I : (0 : Int) < (n : Int) := by omega
  have HM0 : Hid (arcAt (gA ls 0) 0 = ((cA (gA ls 0) 0).1, (cA (gA ls 0) 0).2, (cA (gA ls 0) 1).1, (cA (gA ls 0) 1).2)) := Lib.hid (by
    unfold arcAt
    rw [show (0 + 1) % (gA ls 0).length = 1 from Nat.mod_eq_of_lt (by omega)])
  have HM0ok : Hid (okX (arcAt (gA ls 0) 0)) := Lib.hid (arc_ok (ha _ (gA_mem hl0)) (by omega))
  obtain ⟨l0, hl0e⟩ : ∃ l0, (gA ls 0).length = l0 := ⟨_, rfl⟩
  rw [hl0e] at x0 h2
  have hl1I : (0 : Int) < (l0 : Int) := by omega
  have hl2I : (1 : Int) < (l0 : Int) := by omega
  have hl2N : 1 < l0 := by omega
  obtain ⟨m0, hm0⟩ : ∃ m, arcAt (gA ls 0) 0 = m := ⟨_, rfl⟩
  have HMe := Lib.hid hm0
  rw [hm0] at HM0 HM0ok ⊢
  clear hr hn ht ha hc hrow hc0 hl0 hl0e hm0
  generalize (cA (gA ls 0) 0).1 = p at *
  generalize (cA (gA ls 0) 0).2 = p' at *
  generalize (cA (gA ls 0) 1).1 = q at *
  generalize (cA (gA ls 0) 1).2 = q' at *
  obtain ⟨M, hM⟩ : ∃ M, minA m0 (arcL ls) = M := ⟨_, rfl⟩
  have HMM := Lib.hid hM
  rw [hM]
  clear hM
  have hbA : b < w.heap.size + 1 := by omega
  have hbB : b < w.heap.size + 1 + 1 := by omega
  have hbC : b < w.heap.size + 1 + 1 + 1 := by omega
  have hb0A : b0 < w.heap.size + 1 := by omega
  have hb0B : b0 < w.heap.size + 1 + 1 := by omega
  have hb0C : b0 < w.heap.size + 1 + 1 + 1 := by omega
  go_enter Try.func50, Try.ntmps50
  go_upto_region 1 with fail
  go_cut [4, 5] (fun s4 s5 wy => ∃ F G, s4 = .pointer (some ⟨F, 0, none⟩) ∧ s5 = .pointer (some ⟨G, 0, none⟩) ∧ Hid (ArcS w F G (p, p', q, q') wy))
  case first =>
    go_region
    all_goals
      go_wp2_with fail
      go_meet
      refine ⟨_, _, rfl, rfl, Lib.hid ⟨?_, ⟨?_, ?_, ?_, ?_, ?_, ?_, ?_, ?_, ?_, ?_, ?_, ?_, ?_⟩, ⟨.int .i64 0, ?_⟩, ⟨.int .i64 0, ?_⟩, ⟨.int .i64 0, ?_⟩, ⟨.int .i64 0, ?_⟩, ?_, ?_, ?_, ?_⟩⟩
      all_goals first | (simp; done) | (simp; omega) | (simp [go_sem]; done) | ((repeat' (first | (with_reducible exact Below.refl _ _) | (with_reducible assumption) | (with_reducible refine belowNext ?_ (by with_reducible assumption)) | (with_reducible refine belowAlloc ?_ _) | (with_reducible refine Below.drew ?_) | (with_reducible refine below_drewN ?_ _) | (with_reducible refine Below.setCell ?_ ?_ _) | go_size | (with_reducible refine sizeOf' ?_) | (with_reducible refine sizeAdd ?_) | (dsimp only; first | (with_reducible refine sizeOf' ?_) | (with_reducible refine sizeAdd ?_)))))
  case rest =>
    obtain ⟨F, G, rfl, rfl, HS⟩ := hcut
    rw [← HM0.out] at HS
    have HS0 : Hid (ArcS w F G (minA m0 (arcK ls 0 0)) wc) := Lib.hid (by rw [arcK_zero]; exact HS.out)
    clear HS x0 u0 u1 u2 u3 HM0 hbA hbB hbC hb0A hb0B hb0C hb0
    go_wp2
    go_loopg [6, 7, 8, 9, 10] n (fun g ix _ _ _ _ wr => ∃ k : Nat, k + g = n ∧ ix = .int .i64 k ∧ Hid (ArcS w F G (minA m0 (arcK ls k 0)) wr))
    case atStart => exact ⟨0, by omega, rfl, HS0⟩
    case round =>
      clear HS0
      obtain ⟨k, hkg, rfl, HS⟩ := hrel
      cases gk with
      | zero =>
        obtain rfl : k = n := by omega
        have e : minA m0 (arcK ls k 0) = M := by rw [← HN.out, arcK_end]; exact HMM.out
        rw [e] at HS
        obtain ⟨a, a', c, c'⟩ := M
        obtain ⟨B, ⟨lF, lG, zF, zG, ne, c0', c1', c2', c3', f0, f1, f2, f3⟩, ⟨v0, r0⟩, ⟨v1, r1⟩, ⟨v2, s0⟩, ⟨v3, s1⟩, g0, g1, h0, h1⟩ := id HS.out
        have zr : w.heap.size < wr.heap.size := by omega
        have zs : w.heap.size + 1 < wr.heap.size := by omega
        have n1 : ¬ F = w.heap.size := by omega
        have n2 : ¬ F = w.heap.size + 1 := by omega
        have n3 : ¬ G = w.heap.size := by omega
        have n4 : ¬ G = w.heap.size + 1 := by omega
        clear e hkg HMM HS
        dsimp only at c0' c1' c2' c3'
        go_wp2_with fail
        go_region
        all_goals
          go_wp2
          refine bodyPost_ret (v := .tuple #[ang a a', ang c c']) (by simp [results, Try.results50, go_sem, r0, r1, s0, s1]) rfl ⟨rfl, ?_⟩
          repeat' (first | (with_reducible refine Below.drew ?_) | (with_reducible refine Below.setCell ?_ ?_ _))
          all_goals first | exact B | exact B.drew | (show w.heap.size ≤ w.heap.size; omega) | (show w.heap.size ≤ w.heap.size + 1; omega)
      | succ g =>
        have hkl : k < ls.length := by have := HN.out; omega
        have hkn : k < n := by omega
        obtain ⟨Ai, ci, x0, hrow⟩ := HCs.out k hkl
        have HX0 := Lib.hid x0
        have HRow := Lib.hid hrow
        have y0 := cellThru HS.out.B hbb HX0.out
        have hbw : b < wr.heap.size := Nat.lt_of_lt_of_le hbb HS.out.B.size
        have hle := len_tot hkl
        have hTt := HTt.out
        have HAk := Lib.hid (HAll.out _ (gA_mem hkl))
        obtain ⟨len, hlen⟩ : ∃ len, (gA ls k).length = len := ⟨_, rfl⟩
        rw [hlen] at HX0 y0 hle
        have HLn := Lib.hid hlen
        have hlm : len ≤ 1100000 := by omega
        have HKG := Lib.hid hkg
        have HKL := Lib.hid hkl
        clear hrow hlen hle hTt hkg x0 hkl
        go_wp2
        go_loopg [8, 9, 10] len (fun g ix _ _ wx => ∃ j : Nat, j + g = len ∧ ix = .int .i64 j ∧ Hid (ArcS w F G (minA m0 (arcK ls k j)) wx))
        case atStart => exact ⟨0, by omega, rfl, HS⟩
        case round =>
          clear HS y0 hbw
          obtain ⟨j, hjg, rfl, HS⟩ := hrel
          cases gk with
          | zero =>
            obtain rfl : j = len := by omega
            have HS2 : Hid (ArcS w F G (minA m0 (arcK ls (k + 1) 0)) wr) := Lib.hid (by rw [← arcK_next (j := j) HKL.out (by have := HLn.out; omega)]; exact HS.out)
            clear hjg HS
            go_wp2
            go_roundg g
            case measure => omega
            case rel => exact ⟨k + 1, by have := HKG.out; omega, by go_num, HS2⟩
          | succ g2 =>
            have hjl : j < (gA ls k).length := by have := HLn.out; omega
            have hjn : j < len := by omega
            obtain ⟨hm1, hm2, hvn⟩ := remQ (a := j + 1) (n := len) (by omega)
            obtain ⟨v, hv⟩ : ∃ v, (j + 1) % len = v := ⟨_, rfl⟩
            rw [hv] at hm1 hm2 hvn
            have HV : Hid ((j + 1) % (gA ls k).length = v) := Lib.hid (by rw [HLn.out]; exact hv)
            have hm1 : ((j : Int) + 1).tmod (len : Int) = (v : Int) := hm1
            have hm2 : ((j : Int) + 1) % (len : Int) = (v : Int) := hm2
            have hjI : (v : Int) < (len : Int) := by omega
            have hwj : IntKind.i64.wrap (v : Int) = (v : Int) := IntWalk.i64_in _ (by omega)
            have hw1 : IntKind.i64.wrap ((j : Int) + 1) = (j : Int) + 1 := IntWalk.i64_in _ (by omega)
            have hln : ¬ (len : Int) = 0 := by omega
            have hln' : ¬ len = 0 := by omega
            have hvl : v < (gA ls k).length := by have := HLn.out; omega
            obtain ⟨b1, o1, rfl, hb1, hc1⟩ := HRow.out (by intro h; rw [h] at hjl; simp at hjl)
            obtain ⟨e0, e1⟩ := hc1 j _ _ (cA_some hjl)
            obtain ⟨e2, e3⟩ := hc1 v _ _ (cA_some hvl)
            have e0 := cellThru HS.out.B hb1 e0
            have e1 := cellThru HS.out.B hb1 e1
            have e2 := cellThru HS.out.B hb1 e2
            have e3 := cellThru HS.out.B hb1 e3
            have y0 := cellThru HS.out.B hbb HX0.out
            have hbw : b < wr.heap.size := Nat.lt_of_lt_of_le hbb HS.out.B.size
            have hb1w : b1 < wr.heap.size := Nat.lt_of_lt_of_le hb1 HS.out.B.size
            have hbA : b < wr.heap.size + 1 := by omega
            have hb1A : b1 < wr.heap.size + 1 := by omega
            have hx := arc_ok HAk.out hjl
            have HXe : Hid (arcAt (gA ls k) j = ((cA (gA ls k) j).1, (cA (gA ls k) j).2, (cA (gA ls k) v).1, (cA (gA ls k) v).2)) := Lib.hid (by unfold arcAt; rw [HV.out])
            rw [HXe.out] at hx
            have hmok : okX (minA m0 (arcK ls k j)) := minA_ok HM0ok.out (arcK_ok HAll.out HKL.out)
            have HNx : Hid (minA m0 (arcK ls k (j + 1)) = if shB (minA m0 (arcK ls k j)) (arcAt (gA ls k) j) then arcAt (gA ls k) j else minA m0 (arcK ls k j)) := Lib.hid (by rw [arcK_step hjl, minA_app])
            rw [HXe.out] at HNx
            obtain ⟨m, hme⟩ : ∃ m, minA m0 (arcK ls k j) = m := ⟨_, rfl⟩
            rw [hme] at hmok HNx HS
            obtain ⟨a, a', c, c'⟩ := m
            have HJG := Lib.hid hjg
            clear hv hc1 hjg hjl hvl hme
            generalize (cA (gA ls k) j).1 = x1 at *
            generalize (cA (gA ls k) j).2 = x2 at *
            generalize (cA (gA ls k) v).1 = x3 at *
            generalize (cA (gA ls k) v).2 = x4 at *
            have HF1 : Hid (∀ w, Calls Try.prog 77 #[ang x1 x2, ang x3 x4] w fun e w' => e = .returned (ang (fwX (x1, x2, x3, x4)).1 (fwX (x1, x2, x3, x4)).2) ∧ Below w.heap.size w w') := Lib.hid (fun w => specFwA x1 x2 x3 x4 w hx.1 hx.2)
            have HF2 : Hid (∀ w, Calls Try.prog 77 #[ang a a', ang c c'] w fun e w' => e = .returned (ang (fwX (a, a', c, c')).1 (fwX (a, a', c, c')).2) ∧ Below w.heap.size w w') := Lib.hid (fun w => specFwA a a' c c' w hmok.1 hmok.2)
            have HLs : Hid (∀ w, Calls Try.prog 76 #[ang (fwX (x1, x2, x3, x4)).1 (fwX (x1, x2, x3, x4)).2, ang (fwX (a, a', c, c')).1 (fwX (a, a', c, c')).2] w fun e w' => e = .returned (.bool (shB (a, a', c, c') (x1, x2, x3, x4))) ∧ Below w.heap.size w w') := Lib.hid (fun w => specLessWA _ _ _ _ w (fw_W hx) (fw_W hmok))
            generalize (fwX (x1, x2, x3, x4)).1 = p1 at *
            generalize (fwX (x1, x2, x3, x4)).2 = p2 at *
            generalize (fwX (a, a', c, c')).1 = p3 at *
            generalize (fwX (a, a', c, c')).2 = p4 at *
            obtain ⟨tt, htt⟩ : ∃ tt, shB (a, a', c, c') (x1, x2, x3, x4) = tt := ⟨_, rfl⟩
            rw [htt] at HLs HNx
            have hsz := HS.out.t.zF
            clear htt hx hmok
            obtain ⟨lo, hlo⟩ : ∃ lo, wr.heap.size = lo := ⟨_, rfl⟩
            have HLo := Lib.hid hlo
            clear hlo
            go_upto_region 1 with fail
            go_cut [9, 10] (fun s9 s10 wy => ∃ P Q, s9 = .pointer (some ⟨P, 0, none⟩) ∧ s10 = .pointer (some ⟨Q, 0, none⟩) ∧ Hid (ArcT w F G (a, a', c, c') lo P Q (x1, x2, x3, x4) wy))
            case first =>
              go_region
              all_goals
                go_wp2_with fail
                go_meet
                refine ⟨_, _, rfl, rfl, Lib.hid ⟨HS.out.on ?_, ⟨?_, ?_, ?_, ?_, ?_, ?_, ?_, ?_, ?_, ?_, ?_, ?_, ?_⟩⟩⟩
                all_goals first | (rw [← HLo.out]; first | (simp; done) | (simp; omega) | omega) | (simp; done) | (simp; omega) | (simp [go_sem]; done) | ((repeat' (first | (with_reducible exact Below.refl _ _) | (with_reducible assumption) | (with_reducible refine belowNext ?_ (by with_reducible assumption)) | (with_reducible refine belowAlloc ?_ _) | (with_reducible refine Below.drew ?_) | (with_reducible refine below_drewN ?_ _) | (with_reducible refine Below.setCell ?_ ?_ _) | go_size | (with_reducible refine sizeOf' ?_) | (with_reducible refine sizeAdd ?_) | (dsimp only; first | (with_reducible refine sizeOf' ?_) | (with_reducible refine sizeAdd ?_)))))
            case rest =>
              obtain ⟨P, Q, rfl, rfl, HT⟩ := hcut
              have S0 := HT.out
              have hloF : F < lo := by rw [← HLo.out]; exact hsz
              have hloG : G < lo := by rw [← HLo.out]; exact HS.out.t.zG
              clear HS e0 e1 e2 e3 y0 hbw hb1w hbA hb1A hsz HT
              go_wp2_with fail
              refine wp_region_held_drew (S := (ArcT w F G (a, a', c, c') lo P Q (x1, x2, x3, x4))) (by kernel_rfl) ?_ (fun hHeld => ?_)
              · exact S0.on (Below.refl _ _).drew
              refine wpAnyH_take (i := 0) (v := ?_) rfl (by kernel_rfl) (by kernel_rfl) (by kernel_rfl) (fun _ _ _ h => h) (Or.inl ⟨by kernel_rfl, ?_⟩) hHeld ?_
              rotate_left
              · intro w hSw; obtain ⟨⟨B, ⟨lF, lG, zF, zG, ne, c0, c1, c2, c3, f0, f1, f2, f3⟩, _, _, _, _, _, _, _, _⟩, ⟨lP, lQ, zP, zQ, nePQ, d0, d1, d2, d3, e0, e1, e2, e3⟩⟩ := hSw; first | (go_simp; done) | (go_simp; with_reducible rfl)
              refine wpAnyH_take (i := 1) (v := ?_) rfl (by kernel_rfl) (by kernel_rfl) (by kernel_rfl) (fun _ _ _ h => h) (Or.inl ⟨by kernel_rfl, ?_⟩) hHeld ?_
              rotate_left
              · intro w hSw; obtain ⟨⟨B, ⟨lF, lG, zF, zG, ne, c0, c1, c2, c3, f0, f1, f2, f3⟩, _, _, _, _, _, _, _, _⟩, ⟨lP, lQ, zP, zQ, nePQ, d0, d1, d2, d3, e0, e1, e2, e3⟩⟩ := hSw; first | (go_simp; done) | (go_simp; with_reducible rfl)
              refine wpAnyH_take (i := 3) (v := ?_) rfl (by kernel_rfl) (by kernel_rfl) (by kernel_rfl) (fun _ _ _ h => h) (Or.inl ⟨by kernel_rfl, ?_⟩) hHeld ?_
              rotate_left
              · intro w hSw; obtain ⟨⟨B, ⟨lF, lG, zF, zG, ne, c0, c1, c2, c3, f0, f1, f2, f3⟩, _, _, _, _, _, _, _, _⟩, ⟨lP, lQ, zP, zQ, nePQ, d0, d1, d2, d3, e0, e1, e2, e3⟩⟩ := hSw; first | (go_simp; done) | (go_simp; with_reducible rfl)
              refine wpAnyH_take (i := 4) (v := ?_) rfl (by kernel_rfl) (by kernel_rfl) (by kernel_rfl) (fun _ _ _ h => h) (Or.inl ⟨by kernel_rfl, ?_⟩) hHeld ?_
              rotate_left
              · intro w hSw; obtain ⟨⟨B, ⟨lF, lG, zF, zG, ne, c0, c1, c2, c3, f0, f1, f2, f3⟩, _, _, _, _, _, _, _, _⟩, ⟨lP, lQ, zP, zQ, nePQ, d0, d1, d2, d3, e0, e1, e2, e3⟩⟩ := hSw; first | (go_simp; done) | (go_simp; with_reducible rfl)
              refine wpAnyH_ready (rs := [2]) (by kernel_rfl) (by simp) ?_
              refine AllReadyH.cons rfl (fun K hK => ?_) AllReadyH.nil
              go_simp
              go_wp2_with (go_at_call 77; (with_reducible refine (HF1.out _).mono ?_); rintro e w11 ⟨rfl, hb11⟩)
              have S1 := hHeld.on hb11
              refine hK.out _ _ ?_ (fun hHeld => ?_)
              · exact S1
              clear hK K
              refine wpAnyH_ready (rs := [5]) (by kernel_rfl) (by simp) ?_
              refine AllReadyH.cons rfl (fun K hK => ?_) AllReadyH.nil
              go_simp
              go_wp2_with (go_at_call 77; (with_reducible refine (HF2.out _).mono ?_); rintro e w12 ⟨rfl, hb12⟩)
              have S2 := S1.on hb12
              refine hK.out _ _ ?_ (fun hHeld => ?_)
              · exact S2
              clear hK K
              refine wpAnyH_ready (rs := [6]) (by kernel_rfl) (by simp) ?_
              refine AllReadyH.cons rfl (fun K hK => ?_) AllReadyH.nil
              go_simp
              go_wp2_with (go_at_call 76; (with_reducible refine (HLs.out _).mono ?_); rintro e w13 ⟨rfl, hb13⟩)
              have S3 := S2.on hb13
              refine hK.out _ _ ?_ (fun hHeld => ?_)
              · exact S3
              clear hK K
              refine wpAnyH_done (by kernel_rfl) ?_ _
              have HT3 := Lib.hid S3
              clear S0 S1 S2 S3
              cases tt
              · have HS4 : Hid (ArcS w F G (minA m0 (arcK ls k (j + 1))) w13) := Lib.hid (by rw [HNx.out]; exact HT3.out.1)
                clear HT3
                go_wp2
                go_roundg g2
                case measure => omega
                case rel => exact ⟨j + 1, by have := HJG.out; omega, by go_num, HS4⟩
              · obtain ⟨⟨B, ⟨lF, lG, zF, zG, ne, c0', c1', c2', c3', f0, f1, f2, f3⟩, _, _, _, _, _, _, _, _⟩, ⟨lP, lQ, zP, zQ, nePQ, d0, d1, d2, d3, _, _, _, _⟩⟩ := id HT3.out
                have T1 := HT3.out.1.putF x1 x2
                have U1 := TwoB.keep (u0 := .int .i64 x1) (u1 := .int .i64 x2) HT3.out.2 hloF
                obtain ⟨_, ⟨_, _, zF1, zG1, _, _, _, q2, q3, _, _, g2', g3'⟩, _, _, _, _, _, _, _, _⟩ := id T1
                obtain ⟨_, _, zP1, zQ1, _, _, _, r2, r3, _, _, _, _⟩ := id U1
                have T2 := T1.putG x3 x4
                have HS4 : Hid (ArcS w F G (minA m0 (arcK ls k (j + 1))) _) := Lib.hid (by rw [HNx.out]; exact T2)
                clear T1 U1 T2 HT3
                dsimp only at c0' c1' c2' c3' d0 d1 d2 d3 q2 q3 r2 r3
                go_wp2
                go_roundg g2
                case measure => omega
                case rel => exact ⟨j + 1, by have := HJG.out; omega, by go_num, HS4⟩

/-- The characteristic arc, and what CharacteristicArc answers. -/
def chA (ls : List (List (Int × Int))) : Lf4 := minA (arcAt (gA ls 0) 0) (arcL ls)
def CaIs (ls : List (List (Int × Int))) (R : List (Int × Int)) (C : Int) : Prop :=
  (C ≠ 0 ∧ CoIs ls C ∧ R = []) ∨ (C = 5 ∧ CoIs ls 0 ∧ (gA ls 0).length < 2 ∧ R = []) ∨
    (C = 0 ∧ CoIs ls 0 ∧ 2 ≤ (gA ls 0).length ∧ R = [((chA ls).1, (chA ls).2.1), ((chA ls).2.2.1, (chA ls).2.2.2)])
theorem ca_ex (ls : List (List (Int × Int))) : ∃ R C, CaIs ls R C := by
  obtain ⟨C, hC⟩ := co_ex ls
  by_cases h : C = 0
  · subst h
    by_cases g : (gA ls 0).length < 2
    · exact ⟨[], 5, .inr (.inl ⟨rfl, hC, g, rfl⟩)⟩
    · exact ⟨_, 0, .inr (.inr ⟨rfl, hC, by omega, rfl⟩)⟩
  · exact ⟨[], C, .inl ⟨h, hC, rfl⟩⟩
theorem ca_len {ls : List (List (Int × Int))} {R : List (Int × Int)} {C : Int} (h : CaIs ls R C) : R.length ≤ 2 := by
  rcases h with ⟨_, _, rfl⟩ | ⟨_, _, _, rfl⟩ | ⟨_, _, _, rfl⟩ <;> simp

set_option maxRecDepth 8000 in
set_option maxHeartbeats 2000000 in
theorem specCa (A : Option Addr) (n cap : Nat) (ls : List (List (Int × Int))) (w : World) (hr : ArgS w A n cap ls) (R : List (Int × Int)) (C : Int) (h : CaIs ls R C) :
    Calls Try.prog 21 #[.slice A n cap] w (ResAng w R C) := by
  rcases h with ⟨h1, hC, rfl⟩ | ⟨rfl, hC, hlt, rfl⟩ | ⟨rfl, hC, hge, rfl⟩
  · have HH := Lib.hid (specCop A n cap ls w hr C hC)
    have hC' : (C == 0) = false := beq_eq_false_iff_ne.2 h1
    clear hr hC
    go_enter Try.func21, Try.ntmps21
    go_wp2_with fail
    refine HH.out.mono ?_
    rintro e w1 ⟨rfl, hb1⟩
    go_wp2
    go_ret2
    exact ⟨none, 0, rfl, own_nil, hb1⟩
  · have HH := Lib.hid (specCop A n cap ls w hr 0 hC)
    obtain ⟨-, h1, -⟩ := code_zero (co_zero hC).1
    obtain ⟨b, off, rfl, hbb, hc⟩ := hr.row.form h1
    obtain ⟨A0, c0, x0, -⟩ := hc 0 h1
    rw [Nat.add_zero] at x0
    have hn0 : (0 : Int) < (n : Int) := by have := hr.len; omega
    obtain ⟨len, hlen⟩ : ∃ len, (gA ls 0).length = len := ⟨_, rfl⟩
    rw [hlen] at x0 hlt
    have hlI : (len : Int) < 2 := by omega
    clear hr hC hc h1 hlen
    go_enter Try.func21, Try.ntmps21
    go_wp2_with fail
    refine HH.out.mono ?_
    rintro e w1 ⟨rfl, hb1⟩
    have y0 := cellThru hb1 hbb x0
    have hbw : b < w1.heap.size := Nat.lt_of_lt_of_le hbb hb1.size
    clear x0
    go_wp2
    go_ret2
    exact ⟨none, 0, rfl, own_nil, hb1⟩
  · have HH := Lib.hid (specCop A n cap ls w hr 0 hC)
    obtain ⟨ha, h1, -, -, -⟩ := code_zero (co_zero hC).1
    have HArc := Lib.hid (fun W (hB : Below w.heap.size w W) => specArcL A n cap ls W (hr.row.next hB) hr.len hr.hm hr.ht ha (by have := hr.len; omega) hge)
    obtain ⟨b, off, rfl, hbb, hc⟩ := hr.row.form h1
    obtain ⟨A0, c0, x0, -⟩ := hc 0 h1
    rw [Nat.add_zero] at x0
    have hn0 : (0 : Int) < (n : Int) := by have := hr.len; omega
    obtain ⟨len, hlen⟩ : ∃ len, (gA ls 0).length = len := ⟨_, rfl⟩
    rw [hlen] at x0 hge
    have hlI : ¬ (len : Int) < 2 := by omega
    rw [show minA (arcAt (gA ls 0) 0) (arcL ls) = chA ls from rfl] at HArc
    obtain ⟨⟨a, a', c, c'⟩, hm⟩ : ∃ m, chA ls = m := ⟨_, rfl⟩
    rw [hm] at HArc ⊢
    dsimp only at HArc ⊢
    clear hr hC hc h1 hlen ha hm
    go_enter Try.func21, Try.ntmps21
    go_wp2_with fail
    refine HH.out.mono ?_
    rintro e w1 ⟨rfl, hb1⟩
    have y0 := cellThru hb1 hbb x0
    have hbw : b < w1.heap.size := Nat.lt_of_lt_of_le hbb hb1.size
    clear x0
    go_wp2_with fail
    refine (HArc.out _ hb1).mono ?_
    rintro e w2 ⟨rfl, hb2⟩
    have B2 := belowNext hb1 hb2
    clear hb1 hb2 y0 hbw
    go_wp2_with fail
    try go_region
    all_goals
      go_wp2
      go_ret2
      exact ⟨_, 2, rfl, own2 _ (by (repeat' (first | (with_reducible exact Below.refl _ _) | (with_reducible assumption) | (with_reducible refine belowNext ?_ (by with_reducible assumption)) | (with_reducible refine belowAlloc ?_ _) | (with_reducible refine Below.drew ?_) | (with_reducible refine below_drewN ?_ _) | (with_reducible refine Below.setCell ?_ ?_ _) | go_size | (with_reducible refine sizeOf' ?_) | (with_reducible refine sizeAdd ?_) | (dsimp only; first | (with_reducible refine sizeOf' ?_) | (with_reducible refine sizeAdd ?_))))) _ _ _ _ _ _ (by first | rfl | simp), by (repeat' (first | (with_reducible exact Below.refl _ _) | (with_reducible assumption) | (with_reducible refine belowNext ?_ (by with_reducible assumption)) | (with_reducible refine belowAlloc ?_ _) | (with_reducible refine Below.drew ?_) | (with_reducible refine below_drewN ?_ _) | (with_reducible refine Below.setCell ?_ ?_ _) | go_size | (with_reducible refine sizeOf' ?_) | (with_reducible refine sizeAdd ?_) | (dsimp only; first | (with_reducible refine sizeOf' ?_) | (with_reducible refine sizeAdd ?_))))⟩

theorem infoArcA : (Try.prog.info? 62).map (fun i => (i.zero, i.size, i.bytes)) = some (some (.agg #[.int .i64 0, .int .i64 0, .int .i64 0, .int .i64 0]), 4, 32) := by kernel_rfl
theorem rowX {w : World} {lo : Nat} {e : TypeId} {l : List Lf4} {A : Option Addr} {len cap : Nat} (hl : l.length = len) (h : w.ownsRow lo e 4 (.slice A len cap) len (flatL l)) : LfRow w w.heap.size A l := by
  intro hne
  have hk : 0 < len := by
    rcases Nat.eq_zero_or_pos len with h0 | h0
    · rw [h0] at hl; exact absurd (List.eq_nil_of_length_eq_zero hl) hne
    · exact h0
  obtain ⟨g, c, hv, hlo, hg⟩ := h.form hk
  obtain ⟨rfl, rfl⟩ : A = some ⟨g, 0, none⟩ ∧ cap = c := by injection hv with hA hn hc; exact ⟨hA, hc⟩
  refine ⟨g, 0, rfl, hg, fun i a b d e hi => ?_⟩
  have hik : i < len := by
    rcases Nat.lt_or_ge i l.length with h1 | h1
    · omega
    · rw [List.getElem?_eq_none h1] at hi; cases hi
  obtain ⟨f1, f2, f3, f4⟩ := flatL_at hi
  rw [show 0 + i * 4 = i * 4 by omega]
  exact ⟨(h.cellAt _ (by omega)).trans f1, (h.cellAt _ (by omega)).trans f2, (h.cellAt _ (by omega)).trans f3, (h.cellAt _ (by omega)).trans f4⟩
theorem arcK_len {ls : List (List (Int × Int))} {k j : Nat} (hk : k < ls.length) (hj : j ≤ (gA ls k).length) : (arcK ls k j).length ≤ totL ls := by
  have e : ∀ xs : List (List (Int × Int)), ((xs.map arcsOf).flatten).length = totL xs := fun xs => by
    induction xs with
    | nil => rfl
    | cons x xs ih => simp only [List.map_cons, List.flatten_cons, List.length_append, totL, ih, arcs_len]
  unfold arcK
  rw [List.length_append, e, List.length_take, arcs_len]
  have h1 := totL_take hk
  have h2 := totL_le ls (k + 1)
  omega
theorem arcL_head {ls : List (List (Int × Int))} (h0 : 0 < ls.length) (h : 0 < (gA ls 0).length) : (arcL ls)[0]? = some (arcAt (gA ls 0) 0) := by
  have e1 := gA_some h0
  cases ls with
  | nil => simp at h0
  | cons l ls =>
    have e : gA (l :: ls) 0 = l := by simp at e1; exact e1.symm
    rw [e] at h ⊢
    have e2 : (arcsOf l)[0]? = some (arcAt l 0) := by unfold arcsOf; rw [List.getElem?_map, List.getElem?_range h]; rfl
    unfold arcL
    rw [List.map_cons, List.flatten_cons, List.getElem?_append_left (by rw [arcs_len]; exact h), e2]
theorem minA_head {l : List Lf4} {m : Lf4} (h : l[0]? = some m) : minA m (l.drop 1) = minA m l := by
  cases l with
  | nil => simp at h
  | cons x l =>
    simp at h
    subst h
    show minA x l = minA (if shB x x then x else x) l
    rw [shB_self]; rfl

set_option maxRecDepth 100000 in
set_option maxHeartbeats 4000000 in
theorem implCa (A : Option Addr) (n cap : Nat) (ls : List (List (Int × Int))) (w : World) (hr : ArgS w A n cap ls) (R : List (Int × Int)) (C : Int) (h : CaIs ls R C) :
    Calls Try.prog 22 #[.slice A n cap] w (ResAng w R C) := by
  have HV := Lib.hid (fun V D (g : VaIs ls V D) => implVal A n cap ls w hr V D g)
  rcases h with ⟨h1, hC, rfl⟩ | ⟨rfl, hC, hlt, rfl⟩ | ⟨rfl, hC, hge, rfl⟩
  · have HH := Lib.hid (HV.out 0 C ⟨hC, .inl ⟨h1, rfl⟩⟩)
    have hC' : (C == 0) = false := beq_eq_false_iff_ne.2 h1
    clear hr hC HV
    go_enter Try.func22, Try.ntmps22
    go_wp2_with fail
    refine HH.out.mono ?_
    rintro e w1 ⟨rfl, hb1⟩
    go_wp2
    go_ret2
    exact ⟨none, 0, rfl, own_nil, hb1⟩
  · have HH := Lib.hid (HV.out _ 0 ⟨hC, .inr ⟨rfl, rfl⟩⟩)
    obtain ⟨-, h1, -, -, hs⟩ := code_zero (co_zero hC).1
    have hp := (hs _ (gA_mem h1)).1
    have hl1 : (gA ls 0).length = 1 := by omega
    rw [hl1] at HH
    clear hr hC HV hs hp hl1 h1 hlt
    go_enter Try.func22, Try.ntmps22
    go_wp2_with fail
    refine HH.out.mono ?_
    rintro e w1 ⟨rfl, hb1⟩
    go_wp2
    go_ret2
    exact ⟨none, 0, rfl, own_nil, hb1⟩
  · have HH := Lib.hid (HV.out _ 0 ⟨hC, .inr ⟨rfl, rfl⟩⟩)
    obtain ⟨ha, h1, -, -, hs⟩ := code_zero (co_zero hC).1
    obtain ⟨i0, hi, hz0, hz1, hz2⟩ := infoAg_parts infoArcA
    have HR := Lib.hid hr.row
    have HN := Lib.hid hr.len
    have HTt := Lib.hid hr.ht
    have HAll := Lib.hid ha
    have hm := hr.hm
    have HHd := Lib.hid (arcL_head h1 (by omega))
    have HMin := Lib.hid (minA_head (arcL_head h1 (by omega)))
    have HOk : Hid (∀ x ∈ arcL ls, okX x) := Lib.hid (fun x hx => by
      obtain ⟨l, hl, hx⟩ := List.mem_flatten.1 hx
      obtain ⟨s, hs', rfl⟩ := List.mem_map.1 hl
      exact arcsOf_ok (ha s hs') x hx)
    obtain ⟨b, off, rfl, hbb, hc⟩ := hr.row.form h1
    have HCs := Lib.hid hc
    have hlne : ((((gA ls 0).length : Int)) == 1) = false := by simp; omega
    have hlne' : ¬ (((gA ls 0).length : Int)) = 1 := by omega
    have HCh : Hid (chA ls = minA (arcAt (gA ls 0) 0) (arcL ls)) := Lib.hid rfl
    clear hr hC HV hs h1 ha hc hge
    generalize ((gA ls 0).length : Int) = V at *
    go_enter Try.func22, Try.ntmps22
    go_wp2_with fail
    refine HH.out.mono ?_
    rintro e w1 ⟨rfl, hb1⟩
    have HB1 := Lib.hid hb1
    clear hb1
    go_wp2
    go_loopg [6, 8, 9, 10, 24] n (fun g s6 _ _ _ ix wr => ∃ (k len' : Nat) (A' : Option Addr) (cap' : Nat), k + g = n ∧ ix = .int .i64 k ∧ s6 = .slice A' len' cap' ∧ Hid ((arcK ls k 0).length = len') ∧ Hid (wr.ownsRow w.heap.size 62 4 (.slice A' len' cap') len' (flatL (arcK ls k 0))) ∧ Hid (Below w.heap.size w wr))
    case atStart => exact ⟨0, 0, none, 0, by omega, rfl, rfl, Lib.hid (by rw [arcK_zero]; rfl), Lib.hid (by rw [arcK_zero]; exact World.ownsRow_nil _ _ _ _), HB1⟩
    case round =>
      clear HB1
      obtain ⟨k, len', A', cap', hkg, rfl, rfl, HLo, HW, HB⟩ := hrel
      cases gk with
      | zero =>
        obtain rfl : k = n := by omega
        have e : arcK ls k 0 = arcL ls := by rw [← HN.out]; exact arcK_end ls
        rw [e] at HW HLo
        have HRow := Lib.hid (rowX HLo.out HW.out)
        have hlb : len' ≤ 1000000000000 := by
          have h1 := HLo.out
          have e2 : (arcL ls).length ≤ totL ls := by
            rw [← e]
            have hk0 : 0 < ls.length := by
              rcases Nat.eq_zero_or_pos ls.length with z | z
              · have := HHd.out
                rw [List.eq_nil_of_length_eq_zero z] at this
                simp [arcL] at this
              · exact z
            have := arcK_len (ls := ls) (k := ls.length - 1) (j := (gA ls (ls.length - 1)).length) (by omega) (Nat.le_refl _)
            rw [arcK_next (by omega) (Nat.le_refl _), show ls.length - 1 + 1 = ls.length by omega, HN.out] at this
            exact this
          have := HTt.out
          omega
        have HM := Lib.hid (implMinA A' len' cap' (arcL ls) (arcAt (gA ls 0) 0) wr HRow.out HLo.out hlb HHd.out HOk.out)
        rw [HMin.out, ← HCh.out] at HM
        obtain ⟨⟨a, a', c, c'⟩, hmm⟩ : ∃ m, chA ls = m := ⟨_, rfl⟩
        rw [hmm] at HM
        have HMm := Lib.hid hmm
        dsimp only at HM
        clear e hkg hmm HW HRow
        go_wp2_with fail
        refine HM.out.mono ?_
        rintro e w5 ⟨rfl, hb5⟩
        have B5 := belowNext HB.out hb5
        clear hb5 HB
        go_wp2
        go_ret2
        refine ⟨_, 2, by rw [HMm.out]; rfl, ?_, by (repeat' (first | (with_reducible exact Below.refl _ _) | (with_reducible assumption) | (with_reducible refine belowNext ?_ (by with_reducible assumption)) | (with_reducible refine belowAlloc ?_ _) | (with_reducible refine Below.drew ?_) | (with_reducible refine below_drewN ?_ _) | (with_reducible refine Below.setCell ?_ ?_ _) | go_size | (with_reducible refine sizeOf' ?_) | (with_reducible refine sizeAdd ?_) | (dsimp only; first | (with_reducible refine sizeOf' ?_) | (with_reducible refine sizeAdd ?_))))⟩
        rw [HMm.out]
        exact own2 _ (by (repeat' (first | (with_reducible exact Below.refl _ _) | (with_reducible assumption) | (with_reducible refine belowNext ?_ (by with_reducible assumption)) | (with_reducible refine belowAlloc ?_ _) | (with_reducible refine Below.drew ?_) | (with_reducible refine below_drewN ?_ _) | (with_reducible refine Below.setCell ?_ ?_ _) | go_size | (with_reducible refine sizeOf' ?_) | (with_reducible refine sizeAdd ?_) | (dsimp only; first | (with_reducible refine sizeOf' ?_) | (with_reducible refine sizeAdd ?_))))) _ _ _ _ _ _ (by simp)
      | succ g =>
        have hkl : k < ls.length := by have := HN.out; omega
        have hkn : k < n := by omega
        obtain ⟨Ai, ci, x0, hrow⟩ := HCs.out k hkl
        have y0 := cellThru HB.out hbb x0
        have hbw : b < wr.heap.size := Nat.lt_of_lt_of_le hbb HB.out.size
        have hle := len_tot hkl
        have hTt := HTt.out
        have HRow := Lib.hid hrow
        have HAk := Lib.hid (HAll.out _ (gA_mem hkl))
        obtain ⟨len, hlen⟩ : ∃ len, (gA ls k).length = len := ⟨_, rfl⟩
        rw [hlen] at y0 hle
        have HLn := Lib.hid hlen
        have hlm : len ≤ 1100000 := by omega
        have HKG := Lib.hid hkg
        have HKL := Lib.hid hkl
        clear hrow hlen hle hTt hkg x0 hkl
        go_wp2
        go_loopg [6, 9, 10, 30] len (fun g s6 _ _ ix wx => ∃ (j len' : Nat) (A' : Option Addr) (cap' : Nat), j + g = len ∧ ix = .int .i64 j ∧ s6 = .slice A' len' cap' ∧ Hid ((arcK ls k j).length = len') ∧ Hid (wx.ownsRow w.heap.size 62 4 (.slice A' len' cap') len' (flatL (arcK ls k j))) ∧ Hid (Below w.heap.size w wx))
        case atStart => exact ⟨0, len', A', cap', by omega, rfl, rfl, HLo, HW, HB⟩
        case round =>
          clear HB y0 hbw HW HLo
          obtain ⟨j, len', A', cap', hjg, rfl, rfl, HLo, HW, HB⟩ := hrel
          cases gk with
          | zero =>
            obtain rfl : j = len := by omega
            have e := arcK_next (j := j) HKL.out (by have := HLn.out; omega)
            rw [e] at HW HLo
            clear hjg e
            go_wp2
            go_roundg g
            case measure => omega
            case rel => exact ⟨k + 1, len', A', cap', by have := HKG.out; omega, by go_num, rfl, HLo, HW, HB⟩
          | succ g2 =>
            have hjl : j < (gA ls k).length := by have := HLn.out; omega
            have hjn : j < len := by omega
            have hlb : len' ≤ 1100000 := by
              have h1 := HLo.out
              have h2 := arcK_len (ls := ls) (k := k) (j := j) HKL.out (by omega)
              have := HTt.out
              omega
            obtain ⟨b1, o1, rfl, hb1, hc1⟩ := HRow.out (by intro h; rw [h] at hjl; simp at hjl)
            obtain ⟨e0, e1⟩ := hc1 j _ _ (cA_some hjl)
            have e0 := cellThru HB.out hb1 e0
            have e1 := cellThru HB.out hb1 e1
            have hb1w : b1 < wr.heap.size := Nat.lt_of_lt_of_le hb1 HB.out.size
            have HBe := Lib.hid (fun W (hB : Below w.heap.size w W) => implBehind (some ⟨b1, o1, none⟩) len ci (gA ls k) j W ((HRow.out.below hB).more hB.size) HLn.out hjn hlm)
            have HSt : Hid (arcK ls k (j + 1) = arcK ls k j ++ [((cA (gA ls k) j).1, (cA (gA ls k) j).2, (cA (gA ls k) ((j + 1) % (gA ls k).length)).1, (cA (gA ls k) ((j + 1) % (gA ls k).length)).2)]) := Lib.hid (arcK_step hjl)
            have HJG := Lib.hid hjg
            clear hc1 hjg hjl
            generalize (cA (gA ls k) j).1 = x1 at *
            generalize (cA (gA ls k) j).2 = x2 at *
            generalize (cA (gA ls k) ((j + 1) % (gA ls k).length)).1 = x3 at *
            generalize (cA (gA ls k) ((j + 1) % (gA ls k).length)).2 = x4 at *
            have S0 : C4 w ⟨wr.heap.size, 0, none⟩ ⟨wr.heap.size, 1, none⟩ ⟨wr.heap.size, 0, none⟩ ⟨wr.heap.size, 1, none⟩ (.int .i64 x1) (.int .i64 x2) (.int .i64 x1) (.int .i64 x2) (wr.alloc (.cells #[.int .i64 x1, .int .i64 x2] 32)) :=
              ⟨belowAlloc HB.out _, by simp, by simp, by simp, by simp, by simp [go_sem], by simp [go_sem], by simp [go_sem], by simp [go_sem]⟩
            have O0 : (wr.alloc (.cells #[.int .i64 x1, .int .i64 x2] 32)).ownsRow w.heap.size 62 4 (.slice A' len' cap') len' (flatL (arcK ls k j)) := World.ownsRow.alloc HW.out _
            have hne : ∀ r, (Value.slice A' len' cap').ownBlock = some r → w.heap.size ≤ r ∧ r ≠ wr.heap.size := fun r e => ⟨own_blockL HW.out r e, by have := own_ltL HW.out r e; omega⟩
            have HO0 := Lib.hid O0
            obtain ⟨G9, hG9⟩ : ∃ g, wr.heap.size = g := ⟨_, rfl⟩
            have HG9 := Lib.hid hG9
            rw [hG9] at S0 hne
            have HNe := Lib.hid hne
            clear hG9 O0 hne
            go_wp2_with fail
            rw [HG9.out]
            refine wp_region_held_drew (S := (C4 w ⟨G9, 0, none⟩ ⟨G9, 1, none⟩ ⟨G9, 0, none⟩ ⟨G9, 1, none⟩ (.int .i64 x1) (.int .i64 x2) (.int .i64 x1) (.int .i64 x2))) (by kernel_rfl) ?_ (fun hHeld => ?_)
            · exact S0.on (Below.refl _ _).drew
            refine wpAnyH_take (i := 0) (v := ?_) rfl (by kernel_rfl) (by kernel_rfl) (by kernel_rfl) (fun _ _ _ h => h) (Or.inl ⟨by kernel_rfl, ?_⟩) hHeld ?_
            rotate_left
            · intro w hSw; obtain ⟨B, z1, z2, z3, z4, x1', x2', x3', x4'⟩ := hSw; first | (go_simp; done) | (go_simp; with_reducible rfl)
            refine wpAnyH_take (i := 1) (v := ?_) rfl (by kernel_rfl) (by kernel_rfl) (by kernel_rfl) (fun _ _ _ h => h) (Or.inl ⟨by kernel_rfl, ?_⟩) hHeld ?_
            rotate_left
            · intro w hSw; obtain ⟨B, z1, z2, z3, z4, x1', x2', x3', x4'⟩ := hSw; first | (go_simp; done) | (go_simp; with_reducible rfl)
            refine wpAnyH_take (i := 2) (v := ?_) rfl (by kernel_rfl) (by kernel_rfl) (by kernel_rfl) (fun _ _ _ h => h) (Or.inl ⟨by kernel_rfl, ?_⟩) hHeld ?_
            rotate_left
            · intro w hSw; obtain ⟨B, z1, z2, z3, z4, x1', x2', x3', x4'⟩ := hSw; first | (go_simp; done) | (go_simp; with_reducible rfl)
            refine wpAnyH_take (i := 3) (v := ?_) rfl (by kernel_rfl) (by kernel_rfl) (by kernel_rfl) (fun _ _ _ h => h) (Or.inl ⟨by kernel_rfl, ?_⟩) hHeld ?_
            rotate_left
            · intro w hSw; obtain ⟨B, z1, z2, z3, z4, x1', x2', x3', x4'⟩ := hSw; first | (go_simp; done) | (go_simp; with_reducible rfl)
            refine wpAnyH_ready (rs := [4]) (by kernel_rfl) (by simp) ?_
            refine AllReadyH.cons rfl (fun K hK => ?_) AllReadyH.nil
            go_simp
            go_wp2_with (go_at_call 51; (with_reducible refine (HBe.out _ hHeld.B).mono ?_); rintro e w4 ⟨rfl, hb4⟩)
            have S4 := hHeld.on hb4
            have O4 := ownKeepA (ownKeepA HO0.out (Below.refl _ _).drew) hb4
            refine hK.out _ _ ?_ (fun hHeld => ?_)
            · exact S4
            clear hK K
            refine wpAnyH_take (i := 5) (v := ?_) rfl (by kernel_rfl) (by kernel_rfl) (by kernel_rfl) (fun _ _ _ h => h) (Or.inl ⟨by kernel_rfl, ?_⟩) hHeld ?_
            rotate_left
            · intro w hSw; obtain ⟨B, z1, z2, z3, z4, x1', x2', x3', x4'⟩ := hSw; first | (go_simp; done) | (go_simp; with_reducible rfl)
            have S5 := S4.on (belowAlloc (Below.refl _ _) (.cells #[.int .i64 x1, .int .i64 x2, .int .i64 x3, .int .i64 x4] 62))
            refine wpAnyH_ready (rs := [6]) (by kernel_rfl) (by simp) ?_
            refine AllReadyH.cons rfl (fun K hK => ?_) AllReadyH.nil
            go_simp
            refine hK.out _ _ ?_ (fun hHeld => ?_)
            · exact S5
            clear hK K
            refine wpAnyH_ready (rs := [7]) (by kernel_rfl) (by simp) ?_
            refine AllReadyH.cons rfl (fun K hK => ?_) AllReadyH.nil
            refine step_append_atL _ rfl (.tmp 35) (.tmp 41) 60 rfl w.heap.size 62 i0 (.agg #[.int .i64 0, .int .i64 0, .int .i64 0, .int .i64 0]) 4 32 Try.underlying60 hi hz0 hz1 hz2 rfl (by decide) (.slice A' len' cap') len' (flatL (arcK ls k j)) rfl (World.ownsRow.alloc O4 _) ⟨w4.heap.size, 0, none⟩ 1 1 [.int .i64 x1, .int .i64 x2, .int .i64 x3, .int .i64 x4] rfl rfl ?c1 ?c2 ?c3 ?c4 ?c5 ?_
            case c1 => exact cell_four_newL _ _ _ _ _ _
            case c2 => intro u hu; simp at hu; rcases hu with rfl | rfl | rfl | rfl <;> rfl
            case c3 => unfold maxLen; omega
            case c4 => omega
            case c5 => have := S5.B.size; omega
            intro v' w6 hown' hgrow
            obtain ⟨gn, capn, rfl⟩ := ownSuccK hown'
            have B6 : Below w.heap.size w w6 := S5.B.grown hgrow S5.B.size (fun r e => (HNe.out r e).1)
            have z6 := hgrow.size
            have S6 : C4 w ⟨G9, 0, none⟩ ⟨G9, 1, none⟩ ⟨G9, 0, none⟩ ⟨G9, 1, none⟩ (.int .i64 x1) (.int .i64 x2) (.int .i64 x1) (.int .i64 x2) w6 := ⟨B6, Nat.lt_of_lt_of_le S5.z1 z6, Nat.lt_of_lt_of_le S5.z2 z6, Nat.lt_of_lt_of_le S5.z3 z6, Nat.lt_of_lt_of_le S5.z4 z6, cellGS hgrow S5.z1 (fun e => (HNe.out _ e.symm).2 rfl) S5.x1, cellGS hgrow S5.z2 (fun e => (HNe.out _ e.symm).2 rfl) S5.x2, cellGS hgrow S5.z3 (fun e => (HNe.out _ e.symm).2 rfl) S5.x3, cellGS hgrow S5.z4 (fun e => (HNe.out _ e.symm).2 rfl) S5.x4⟩
            have HO6 : Hid (w6.ownsRow w.heap.size 62 4 (.slice (some ⟨gn, 0, none⟩) (len' + 1) capn) (len' + 1) (flatL (arcK ls k (j + 1)))) := Lib.hid (by rw [HSt.out, flatL_app]; exact hown')
            have HL6 : Hid ((arcK ls k (j + 1)).length = len' + 1) := Lib.hid (by rw [HSt.out, List.length_append, HLo.out]; rfl)
            have HB6 := Lib.hid B6
            refine hK.out _ _ ?_ (fun hHeld => ?_)
            · exact S6
            clear hK K hown' hgrow
            refine wpAnyH_take (i := 8) (v := ?_) rfl (by kernel_rfl) (by kernel_rfl) (by kernel_rfl) (fun _ _ _ h => h) (Or.inl ⟨by kernel_rfl, ?_⟩) hHeld ?_
            rotate_left
            · intro w hSw; obtain ⟨B, z1, z2, z3, z4, x1', x2', x3', x4'⟩ := hSw; first | (go_simp; done) | (go_simp; with_reducible rfl)
            refine wpAnyH_done (by kernel_rfl) ?_ _
            clear S0 S4 S5 S6 O4 HB HW HO0 e0 e1
            go_wp2
            go_roundg g2
            case measure => omega
            case rel => exact ⟨j + 1, len' + 1, _, _, by have := HJG.out; omega, by go_num, rfl, HL6, HO6, HB6⟩

set_option maxRecDepth 100000 in
set_option maxHeartbeats 2000000 in
theorem toSetsF (A : Option Addr) (n cap : Nat) (ls : List (List (Int × Int))) (w : World) (hr : SetsRow w w.heap.size A ls) (hn : ls.length = n) (hm : n + totL ls ≤ 1048576) :
    Calls Try.prog 11 #[.slice A n cap] w fun e w' => e = .returned (.slice (some ⟨w.heap.size, 0, none⟩) n n) ∧ FillS w w.heap.size n ls n w' := by
  obtain ⟨i0, hi, hz0, hz1, hz2⟩ := infoAg_parts infoSA
  have HR := Lib.hid hr
  have HN := Lib.hid hn
  have HTm := Lib.hid hm
  have hm' : n ≤ 1048576 := by omega
  clear hr hn hm
  obtain ⟨G, hG⟩ : ∃ G, w.heap.size = G := ⟨_, rfl⟩
  have HGe := Lib.hid hG
  go_enter Try.func11, Try.ntmps11
  go_wp2_with (at_make; refine wpList_make_full _ rfl _ _ 26 rfl w.heap.size 36 i0 (.slice none 0 0) 1 Try.underlying26 hi hz0 hz1 .i64 .i64 _ _ n rfl rfl rfl rfl (by rw [hz2]; omega) (by unfold maxLen; omega) (by omega) ?_; intro w2 hown2 hgrow2)
  have hst : FillS w G n ls 0 w2 := by
    rw [← hG]
    refine ⟨belowGrownA hgrow2, Nat.le_refl _, ?_, fun i h => absurd h (by omega), fun o ho => ?_, fun o => hown2.frozenAt o⟩
    · rcases hown2.2 with ⟨hv, _⟩ | ⟨g0, c0, cur, hv, _, hh, _⟩
      · cases hv
      · injection hv with hv
        injection hv with hv
        injection hv with hv
        rw [← hv] at hh
        rcases Nat.lt_or_ge w.heap.size w2.heap.size with h1 | h1
        · exact h1
        · rw [Array.getElem?_eq_none h1] at hh; cases hh
    · have hx := hown2.1
      exact ⟨_, (hown2.cellAt o (by omega)).trans (List.getElem?_eq_getElem (by omega))⟩
  have HS := Lib.hid hst
  try rw [hG]
  clear hst hown2 hgrow2 hG
  go_wp2_with fail
  go_loopg [4] n (fun g ix wr => ∃ k : Nat, k + g = n ∧ ix = .int .i64 k ∧ Hid (FillS w G n ls k wr))
  case atStart => exact ⟨0, by omega, rfl, HS⟩
  case round =>
    clear HS
    obtain ⟨k, hkg, rfl, H⟩ := hrel
    cases gk with
    | zero =>
      obtain rfl : k = n := by omega
      clear hkg
      go_wp2
      go_ret
      exact ⟨by rw [HGe.out]; rfl, by rw [HGe.out]; exact H.out⟩
    | succ g =>
      have hkl : k < ls.length := by have := HN.out; omega
      have hkn : k < n := by omega
      obtain ⟨b, off, rfl, hbb, hc⟩ := HR.out.form hkl
      obtain ⟨Ai, ci, x0, hrow⟩ := hc k hkl
      have x0 := cellThru H.out.B hbb x0
      have hbw : b < wr.heap.size := Nat.lt_of_lt_of_le hbb H.out.B.size
      have hle := len_tot hkl
      have hTm := HTm.out
      have HTo := Lib.hid (toAngSX Ai (gA ls k).length ci (gA ls k) wr ((hrow.below H.out.B).more H.out.B.size) rfl (by omega))
      have HPut := Lib.hid (fun W A' c' (F : FillS w G n ls k W) (ho : AngOwn W (G + 1) A' (gA ls k)) => F.put (c := c') hkn ho)
      obtain ⟨len, hlen⟩ : ∃ len, (gA ls k).length = len := ⟨_, rfl⟩
      rw [hlen] at x0 HTo
      have HPut2 : Hid (∀ W A' c', FillS w G n ls k W → AngOwn W (G + 1) A' (gA ls k) → FillS w G n ls (k + 1) (W.setCell ⟨G, k, none⟩ (.slice A' len c'))) := Lib.hid (fun W A' c' F ho => by
        have := HPut.out W A' c' F ho
        rw [hlen] at this
        exact this)
      have HKG := Lib.hid hkg
      clear hc hrow hlen hle hTm hkg HPut
      have hzG := H.out.z
      obtain ⟨G2, hG2⟩ : ∃ g, wr.heap.size = g := ⟨_, rfl⟩
      rw [hG2] at HTo
      have HG2 := Lib.hid hG2
      clear hG2
      go_wp2_with fail
      refine HTo.out.mono ?_
      rintro e w3 ⟨rfl, ho3, hb3, -⟩
      rw [← HG2.out] at hb3
      have H3 := Lib.hid (H.out.on hb3)
      have HO3 := Lib.hid (ho3.loS (lo' := G + 1) (by have := HG2.out; omega))
      obtain ⟨u0, y0⟩ := H3.out.there k hkn
      have f0 := H3.out.free k
      have H4 := Lib.hid (HPut2.out _ _ len H3.out HO3.out)
      have hz3 := H3.out.z
      clear ho3 hb3 HTo x0 H H3 HO3 hbw
      go_wp2
      go_roundg g
      case measure => omega
      case rel => exact ⟨k + 1, by have := HKG.out; omega, by go_num, H4⟩


theorem FillS.row {w W : World} {G n : Nat} {ls : List (List (Int × Int))} (H : FillS w G n ls n W) (hn : ls.length = n) : SetsRow W W.heap.size (some ⟨G, 0, none⟩) ls := fun _ => ⟨G, 0, rfl, H.z, fun i hi => by
  obtain ⟨Ai, ci, h1, h2⟩ := H.got i (by omega)
  rw [Nat.zero_add]
  exact ⟨Ai, ci, h1, h2.row⟩⟩

/-- Nothing has changed but in blocks from G on and below L. -/
def MidB (G L : Nat) (w w' : World) : Prop := Below G w w' ∧ w'.heap.size = w.heap.size ∧ ∀ i, L ≤ i → w'.heap[i]? = w.heap[i]?
theorem MidB.refl (G L : Nat) (w : World) : MidB G L w w := ⟨Below.refl _ _, rfl, fun _ _ => rfl⟩
theorem MidB.set {G L b : Nat} {w w' : World} (h : MidB G L w w') (hG : G ≤ b) (hL : b < L) (o : Nat) (v : Value) : MidB G L w (w'.setCell ⟨b, o, none⟩ v) := by
  refine ⟨h.1.setCell hG _, ?_, fun i hi => ?_⟩
  · rw [← h.2.1]; simp [World.setCell]
  · rw [← h.2.2 i hi]
    unfold World.setCell
    simp only [Array.getElem?_modify]
    rw [if_neg (by omega)]
theorem MidB.trans {G L : Nat} {w w' w'' : World} (h : MidB G L w w') (g : MidB G L w' w'') : MidB G L w w'' := ⟨h.1.trans g.1, g.2.1.trans h.2.1, fun i hi => (g.2.2 i hi).trans (h.2.2 i hi)⟩
theorem AngOwn.mid {G L lo : Nat} {w w' : World} {A : Option Addr} {l : List (Int × Int)} (h : MidB G L w w') (hl : AngOwn w lo A l) (hlo : L ≤ lo) : AngOwn w' lo A l := by
  intro hne
  obtain ⟨g, off, e, h1, h2, hc⟩ := hl hne
  have hb : w'.heap[g]? = w.heap[g]? := h.2.2 g (by omega)
  have hcell : ∀ o, w'.cell? ⟨g, o, none⟩ = w.cell? ⟨g, o, none⟩ := fun o => World.cell?_of_block hb
  have hfr : ∀ o, w'.frozen? ⟨g, o, none⟩ = w.frozen? ⟨g, o, none⟩ := fun o => by unfold World.frozen?; rw [hb]
  refine ⟨g, off, e, h1, by rw [h.2.1]; exact h2, fun i n d hi => ?_⟩
  obtain ⟨a0, a1, f0, f1⟩ := hc i n d hi
  exact ⟨(hcell _).trans a0, (hcell _).trans a1, (hfr _).trans f0, (hfr _).trans f1⟩
/-- A row of n angles that may be written, in a block from G on and below L. -/
def WrA (w : World) (G L : Nat) (A : Option Addr) (n : Nat) : Prop := 0 < n → ∃ b off, A = some ⟨b, off, none⟩ ∧ G ≤ b ∧ b < L ∧ ∀ i, i < n → (∃ v, w.cell? ⟨b, off + i * 2, none⟩ = some v) ∧ (∃ v, w.cell? ⟨b, off + i * 2 + 1, none⟩ = some v) ∧ w.frozen? ⟨b, off + i * 2, none⟩ = false ∧ w.frozen? ⟨b, off + i * 2 + 1, none⟩ = false
theorem ex_set {w : World} {p q : Addr} {x : Value} (h : ∃ v, w.cell? p = some v) : ∃ v, (w.setCell q x).cell? p = some v := by
  obtain ⟨v, hv⟩ := h
  by_cases e : p = q
  · subst e; exact ⟨x, World.cell?_setCell_same _ _ _ hv⟩
  · exact ⟨v, by rw [World.cell?_setCell_other _ _ _ _ (fun h => e h.symm)]; exact hv⟩
theorem WrA.set {w : World} {G L : Nat} {A : Option Addr} {n : Nat} (h : WrA w G L A n) (q : Addr) (x : Value) : WrA (w.setCell q x) G L A n := by
  intro hn
  obtain ⟨b, off, e, h1, h2, hc⟩ := h hn
  refine ⟨b, off, e, h1, h2, fun i hi => ?_⟩
  obtain ⟨a0, a1, f0, f1⟩ := hc i hi
  exact ⟨ex_set a0, ex_set a1, by simpa using f0, by simpa using f1⟩
theorem WrA.on {w W : World} {G L : Nat} {A : Option Addr} {n : Nat} (h : WrA w G L A n) (hL : L ≤ w.heap.size) (hb : Below w.heap.size w W) : WrA W G L A n := by
  intro hn
  obtain ⟨b, off, e, h1, h2, hc⟩ := h hn
  refine ⟨b, off, e, h1, h2, fun i hi => ?_⟩
  obtain ⟨a0, a1, f0, f1⟩ := hc i hi
  exact ⟨a0.imp fun _ g => cellThru hb (by omega) g, a1.imp fun _ g => cellThru hb (by omega) g, frozThru hb (by omega) f0, frozThru hb (by omega) f1⟩
/-- What marking does to worlds. -/
def MkW (G L : Nat) (w w' : World) : Prop := MidB G L w w' ∧ ∀ A n, WrA w G L A n → WrA w' G L A n

set_option maxHeartbeats 2000000 in
theorem markW (G L : Nat) (A : Option Addr) (len cap : Nat) (k0 : Int) (w : World) (hr : WrA w G L A len) (hk0 : 0 ≤ k0) (hk1 : k0 ≤ 1000000000) (hm : len ≤ 1100000) :
    Calls Try.prog 25 #[.slice A len cap, .int .i64 k0] w fun e w' => e = .returned (.int .i64 (k0 + 2 * (len : Int))) ∧ Hid (MkW G L w w') := by
  have HR := Lib.hid hr
  clear hr
  go_enter Try.func25, Try.ntmps25
  go_wp2
  go_loopw [1, 5] (fun q i wr => ∃ k : Nat, k ≤ len ∧ i = .int .i64 k ∧ q = .int .i64 (k0 + 2 * (k : Int)) ∧ Hid (MkW G L w wr)) (fun _ i _ => len - (intOf i).toNat)
  case atStart => exact ⟨0, by omega, rfl, by simp, Lib.hid ⟨MidB.refl _ _ _, fun _ _ h => h⟩⟩
  case round =>
    obtain ⟨k, hk, rfl, rfl, H⟩ := hrel
    by_cases hlt : k < len
    · obtain ⟨b, off, rfl, hG, hL, hc⟩ := H.out.2 _ _ HR.out (by omega)
      obtain ⟨⟨v0, x0⟩, ⟨v1, x1⟩, f0, f1⟩ := hc k hlt
      have HG := Lib.hid hG
      have HL := Lib.hid hL
      clear hc hG hL
      go_wp2
      go_roundw
      case rel =>
        refine ⟨k + 1, by omega, by go_num, by go_num, Lib.hid ⟨?_, fun A n h => ?_⟩⟩
        · exact (H.out.1.set HG.out HL.out _ _).set HG.out HL.out _ _
        · exact ((H.out.2 A n h).set _ _).set _ _
      case measure => simp [intOf]; omega
    · obtain rfl : k = len := by omega
      go_wp2
      go_ret
      exact ⟨rfl, H⟩
/-- The sets as they can be marked. -/
structure SetW (G L n : Nat) (ls : List (List (Int × Int))) (W : World) : Prop where
  z : L ≤ W.heap.size
  gl : G < L
  got : ∀ i, i < n → ∃ Ai ci, W.cell? ⟨G, i, none⟩ = some (.slice Ai (gA ls i).length ci) ∧ WrA W (G + 1) L Ai (gA ls i).length
theorem SetW.on {G L n : Nat} {ls : List (List (Int × Int))} {W W1 : World} (H : SetW G L n ls W) (hb : Below W.heap.size W W1) : SetW G L n ls W1 :=
  ⟨Nat.le_trans H.z hb.size, H.gl, fun i hi => by
    obtain ⟨Ai, ci, h1, h2⟩ := H.got i hi
    exact ⟨Ai, ci, cellThru hb (Nat.lt_of_lt_of_le H.gl H.z) h1, h2.on H.z hb⟩⟩
theorem FillS.setW {w W : World} {G n : Nat} {ls : List (List (Int × Int))} (H : FillS w G n ls n W) : SetW G W.heap.size n ls W := ⟨Nat.le_refl _, H.z, fun i hi => by
  obtain ⟨Ai, ci, h1, h2⟩ := H.got i hi
  refine ⟨Ai, ci, h1, fun hn => ?_⟩
  obtain ⟨b, off, e, g1, g2, hc⟩ := h2 (by intro z; rw [z] at hn; simp at hn)
  refine ⟨b, off, e, g1, g2, fun j hj => ?_⟩
  obtain ⟨a0, a1, f0, f1⟩ := hc j _ _ (cA_some hj)
  exact ⟨⟨_, a0⟩, ⟨_, a1⟩, f0, f1⟩⟩

set_option maxHeartbeats 2000000 in
theorem markSets (G L n : Nat) (ls : List (List (Int × Int))) (w : World) (hr : SetW G L n ls w) (hn : ls.length = n) (hm : n + totL ls ≤ 1048576) :
    Calls Try.prog 24 #[.slice (some ⟨G, 0, none⟩) n n, .int .i64 1] w fun e w' => e = .returned (.int .i64 (1 + 2 * (totL ls : Int))) ∧ Hid (MidB (G + 1) L w w') := by
  have HR := Lib.hid hr
  have HN := Lib.hid hn
  have HTm := Lib.hid hm
  have hm' : n ≤ 1048576 := by omega
  clear hr hn hm
  go_enter Try.func24, Try.ntmps24
  go_wp2
  go_loopg [1, 5] n (fun g s1 ix wr => ∃ k : Nat, k + g = n ∧ ix = .int .i64 k ∧ s1 = .int .i64 (1 + 2 * (totL (ls.take k) : Int)) ∧ Hid (MkW (G + 1) L w wr))
  case atStart => exact ⟨0, by omega, rfl, by simp [totL], Lib.hid ⟨MidB.refl _ _ _, fun _ _ h => h⟩⟩
  case round =>
    obtain ⟨k, hkg, rfl, rfl, H⟩ := hrel
    cases gk with
    | zero =>
      obtain rfl : k = n := by omega
      have e : ls.take k = ls := List.take_of_length_le (by have := HN.out; omega)
      rw [e]
      have HQ := Lib.hid H.out.1
      clear hkg e
      go_wp2
      go_ret
      exact ⟨rfl, HQ⟩
    | succ g =>
      have hkl : k < ls.length := by have := HN.out; omega
      have hkn : k < n := by omega
      obtain ⟨Ai, ci, x0, hw⟩ := HR.out.got k hkn
      have hbw : G < wr.heap.size := by rw [H.out.1.2.1]; exact Nat.lt_of_lt_of_le HR.out.gl HR.out.z
      have y0 : wr.cell? ⟨G, k, none⟩ = some (.slice Ai (gA ls k).length ci) := (H.out.1.1.cell (p := ⟨G, k, none⟩) (by show G < G + 1; omega)).trans x0
      have hle := len_tot hkl
      have hTm := HTm.out
      have HT : Hid (totL (ls.take (k + 1)) = totL (ls.take k) + (gA ls k).length) := Lib.hid (totL_take hkl)
      have htk := totL_le ls k
      have HMk := Lib.hid (markW (G + 1) L Ai (gA ls k).length ci (1 + 2 * (totL (ls.take k) : Int)) wr (H.out.2 _ _ hw) (by omega) (by omega) (by omega))
      obtain ⟨len, hlen⟩ : ∃ len, (gA ls k).length = len := ⟨_, rfl⟩
      rw [hlen] at y0 HT HMk hle
      obtain ⟨T, hT⟩ : ∃ T, totL (ls.take k) = T := ⟨_, rfl⟩
      rw [hT] at HT HMk htk ⊢
      have HKG := Lib.hid hkg
      clear hw x0 hlen hT hkg hkl
      go_wp2_with fail
      refine HMk.out.mono ?_
      rintro e w3 ⟨rfl, H3⟩
      have H4 : Hid (MkW (G + 1) L w w3) := Lib.hid ⟨H.out.1.trans H3.out.1, fun A n h => H3.out.2 A n (H.out.2 A n h)⟩
      have HE : Hid ((1 : Int) + 2 * (T : Int) + 2 * (len : Int) = 1 + 2 * (totL (ls.take (k + 1)) : Int)) := Lib.hid (by rw [HT.out]; omega)
      clear H H3 y0 HMk hbw
      go_wp2
      go_roundg g
      case measure => omega
      case rel => exact ⟨k + 1, by have := HKG.out; omega, by go_num, by rw [HE.out], H4⟩

set_option maxRecDepth 100000 in
set_option maxHeartbeats 4000000 in
theorem lawCharacteristicArc (A : Option Addr) (n cap : Nat) (ls : List (List (Int × Int))) (w : World) (hr : SetsRow w w.heap.size A ls ∧ ∀ l ∈ ls, l.length ≤ 9223372036854775807) (hn : ls.length = n) (hm : n ≤ 9223372036854775807) :
    Calls Try.prog 7 #[.slice A n cap] w fun e w' => e = .returned (.bool true) ∧ Below w.heap.size w w' := by
  by_cases h : 1048576 < n + totL ls
  · have HZ := Lib.hid (szSets A n cap ls w hr hn hm (-1) (.inl ⟨h, rfl⟩))
    clear hr h hn
    go_enter Try.func7, Try.ntmps7
    go_wp2_with fail
    refine HZ.out.mono ?_
    rintro e w1 ⟨rfl, rfl⟩
    go_wp2
    go_ret
    exact ⟨rfl, Below.refl _ _⟩
  · have HZ := Lib.hid (szSets A n cap ls w hr hn hm _ (.inr ⟨by omega, rfl⟩))
    have nn : ¬ ((1048576 : Int) - (n : Int) - (totL ls : Int) < 0) := by omega
    obtain ⟨R, C, hIs⟩ := ca_ex ls
    have hRl : R.length ≤ 1048576 := Nat.le_trans (ca_len hIs) (by omega)
    have HNn := Lib.hid hn
    have HT := Lib.hid (fun W (hB : Below w.heap.size w W) => toSetsF A n cap ls W (hr.1.next hB) hn (by omega))
    have HA := Lib.hid (fun (g : Nat) (W : World) (hr' : SetsRow W W.heap.size (some ⟨g, 0, none⟩) ls) => (⟨hr', hn, by omega, Nat.le_refl _, by omega⟩ : ArgS W (some ⟨g, 0, none⟩) n n ls))
    have HSp := Lib.hid (fun (g : Nat) (W : World) (hr' : SetsRow W W.heap.size (some ⟨g, 0, none⟩) ls) => specCa (some ⟨g, 0, none⟩) n n ls W (HA.out g W hr') R C hIs)
    have HIm := Lib.hid (fun (g : Nat) (W : World) (hr' : SetsRow W W.heap.size (some ⟨g, 0, none⟩) ls) => implCa (some ⟨g, 0, none⟩) n n ls W (HA.out g W hr') R C hIs)
    have HEq := Lib.hid (fun (g g' : Nat) (W : World) (hr' : SetsRow W W.heap.size (some ⟨g, 0, none⟩) ls) (hr'' : SetsRow W W.heap.size (some ⟨g', 0, none⟩) ls) => eqSets (some ⟨g, 0, none⟩) n n (some ⟨g', 0, none⟩) n ls W hr' hr'' hn (by omega))
    have HMk := Lib.hid (fun (g L : Nat) (W : World) (hs : SetW g L n ls W) => markSets g L n ls W hs hn (by omega))
    obtain ⟨T, hT⟩ : ∃ T, totL ls = T := ⟨_, rfl⟩
    rw [hT] at HMk
    have hTl : T ≤ 1048576 := by omega
    clear hr hIs hn
    generalize hleft : (1048576 : Int) - (n : Int) - (totL ls : Int) = left at *
    clear hleft h hT
    go_enter Try.func7, Try.ntmps7
    go_wp2_with fail
    refine HZ.out.mono ?_
    rintro e w1 ⟨rfl, rfl⟩
    go_wp2_with fail
    refine (HT.out _ (Below.refl _ _)).mono ?_
    rintro e w2 ⟨rfl, F2⟩
    have hb2 := F2.B
    have R2 := Lib.hid (F2.row HNn.out)
    clear F2
    go_wp2_with fail
    refine (HSp.out _ _ R2.out).mono ?_
    rintro e w3 ⟨Aw, cw, rfl, how, hb3⟩
    have K3 : Below w.heap.size w w3 := belowNext hb2 hb3
    obtain ⟨G, hG⟩ : ∃ G, w3.heap.size = G := ⟨_, rfl⟩
    have RwG : Hid (AngRow w3 G Aw R) := Lib.hid (by rw [← hG]; exact how.row)
    have hwG : w.heap.size ≤ G := by rw [← hG]; exact K3.size
    clear how hb2 hb3 R2
    go_wp2_with fail
    refine (HT.out _ K3).mono ?_
    rintro e w4 ⟨rfl, F4⟩
    have hb4 := F4.B
    have z4 := F4.z
    have S4 := Lib.hid F4.setW
    have X4 := Lib.hid (F4.row HNn.out)
    rw [hG] at X4 S4 z4
    try rw [hG]
    have BG4 : Below G w3 w4 := by rw [← hG]; exact hb4
    have K4 : Below w.heap.size w w4 := K3.trans (BG4.mono hwG)
    clear F4 hb4 hG
    go_wp2_with fail
    refine (HIm.out _ _ X4.out).mono ?_
    rintro e w6 ⟨Ag, cg, rfl, hog, hb6⟩
    obtain ⟨L5, hL5⟩ : ∃ L, w4.heap.size = L := ⟨_, rfl⟩
    have S6 := Lib.hid (S4.out.on hb6)
    rw [hL5] at S6
    have X6 := Lib.hid (X4.out.next hb6)
    have BG6 : Below G w3 w6 := BG4.trans (hb6.mono (Nat.le_of_lt z4))
    have Q6 : Hid (AngOwn w6 L5 Ag R) := Lib.hid (by rw [← hL5]; exact hog)
    have zG5 : G < L5 := by rw [← hL5]; exact z4
    have zL6 : L5 ≤ w6.heap.size := by rw [← hL5]; exact hb6.size
    have zG6 : G ≤ w6.heap.size := by omega
    clear hb6 hog X4 S4 BG4 z4 hL5
    go_wp2_with fail
    refine (eqAngS _ _ _ _ _ R _ Q6.out.row ((RwG.out.below BG6).more zG6) rfl (by omega)).mono ?_
    rintro e w7 ⟨rfl, hb7⟩
    have X7 := Lib.hid (X6.out.next hb7)
    have S7 := Lib.hid (S6.out.on hb7)
    have Q7 := Lib.hid (Q6.out.next hb7)
    have BG7 : Below G w3 w7 := BG6.trans (hb7.mono zG6)
    have zG7 : G ≤ w7.heap.size := Nat.le_trans zG6 hb7.size
    have zL7 : L5 ≤ w7.heap.size := Nat.le_trans zL6 hb7.size
    have K7 : Below w.heap.size w w7 := K3.trans (BG7.mono hwG)
    clear hb7 X6 S6 Q6 BG6 zG6 zL6 K4
    go_wp2_with fail
    refine (HT.out _ K7).mono ?_
    rintro e w8 ⟨rfl, F8⟩
    have hb8 := F8.B
    have X8 := Lib.hid (X7.out.next hb8)
    have S8 := Lib.hid (S7.out.on hb8)
    have Q8 := Lib.hid (Q7.out.next hb8)
    have BG8 : Below G w3 w8 := BG7.trans (hb8.mono zG7)
    have zG8 : G ≤ w8.heap.size := Nat.le_trans zG7 hb8.size
    have zL8 : L5 ≤ w8.heap.size := Nat.le_trans zL7 hb8.size
    have Y8 := Lib.hid (F8.row HNn.out)
    clear hb8 X7 S7 Q7 BG7 zG7 F8 zL7 K7
    go_wp2_with fail
    refine (HEq.out _ _ _ X8.out Y8.out).mono ?_
    rintro e w9 ⟨rfl, hb9⟩
    have S9 := Lib.hid (S8.out.on hb9)
    have Q9 := Lib.hid (Q8.out.next hb9)
    have BG9 : Below G w3 w9 := BG8.trans (hb9.mono zG8)
    have zG9 : G ≤ w9.heap.size := Nat.le_trans zG8 hb9.size
    have zL9 : L5 ≤ w9.heap.size := Nat.le_trans zL8 hb9.size
    clear hb9 X8 S8 Q8 BG8 zG8 Y8 zL8
    go_wp2_with fail
    refine (HMk.out _ _ _ S9.out).mono ?_
    rintro e w10 ⟨rfl, H10⟩
    have hs10 : w10.heap.size = w9.heap.size := H10.out.2.1
    have Q10 := Lib.hid (AngOwn.mid H10.out Q9.out (Nat.le_refl _))
    have BG10 : Below G w3 w10 := BG9.trans (H10.out.1.mono (Nat.le_succ _))
    have zG10 : G ≤ w10.heap.size := by rw [hs10]; exact zG9
    have zL10 : L5 ≤ w10.heap.size := by rw [hs10]; exact zL9
    have nk : (1 + 2 * (T : Int) < 0) = False := by simp; omega
    clear H10 S9 Q9 BG9 zG9 hs10 zL9
    go_wp2_with fail
    refine (eqAngS _ _ _ _ _ R _ Q10.out.row ((RwG.out.below BG10).more zG10) rfl (by omega)).mono ?_
    rintro e w11 ⟨rfl, hb11⟩
    have Q11 := Lib.hid (Q10.out.next hb11)
    have BG11 : Below G w3 w11 := BG10.trans (hb11.mono zG10)
    have zL11 : L5 ≤ w11.heap.size := Nat.le_trans zL10 hb11.size
    clear hb11 Q10 BG10 zG10 zL10
    go_wp2_with fail
    refine (markAng _ _ _ R L5 1 _ Q11.out rfl (by omega) (by omega) (by omega)).mono ?_
    rintro e w12 ⟨rfl, H12⟩
    have s12 : w11.heap.size ≤ w12.heap.size := H12.out.2.size
    have Q12 := Lib.hid H12.out.1
    have BG12 : Below G w3 w12 := BG11.trans (H12.out.2.mono (Nat.le_of_lt zG5))
    have R12 : Hid (AngRow w12 G Aw R) := Lib.hid (RwG.out.below BG12)
    have K12 : Below w.heap.size w w12 := K3.trans (BG12.mono hwG)
    have nq : (1 + 2 * (R.length : Int) < 0) = False := by simp; omega
    have zG12 : G ≤ w12.heap.size := Nat.le_trans (Nat.le_of_lt zG5) (Nat.le_trans zL11 s12)
    clear H12 Q11 BG11 RwG zL11 s12 BG12
    go_wp2_with fail
    refine (heldAng _ _ _ _ _ Q12.out.row (by omega) (by omega) (by omega)).mono ?_
    rintro e w13 ⟨rfl, rfl⟩
    go_wp2_with fail
    refine (HT.out _ K12).mono ?_
    rintro e w14 ⟨rfl, F14⟩
    have hb14 := F14.B
    have R14 := Lib.hid (F14.row HNn.out)
    clear F14
    go_wp2_with fail
    refine (HIm.out _ _ R14.out).mono ?_
    rintro e w15 ⟨Ah, ch, rfl, hoh, hb15⟩
    have B15 : Below w12.heap.size w12 w15 := belowNext hb14 hb15
    have RH := Lib.hid hoh.row
    have R15 := Lib.hid ((R12.out.more zG12).next B15)
    have Q15 := Lib.hid (Q12.out.next B15)
    have K15 : Below w.heap.size w w15 := belowNext K12 B15
    clear hb14 hb15 hoh R14 R12 Q12 K12 B15
    go_wp2_with fail
    refine (eqAngS _ _ _ _ _ R _ RH.out R15.out rfl (by omega)).mono ?_
    rintro e w16 ⟨rfl, hb16⟩
    have Q16 := Lib.hid (Q15.out.next hb16)
    have K16 : Below w.heap.size w w16 := belowNext K15 hb16
    clear Q15 R15 RH hb16 K15
    go_wp2_with fail
    refine (heldAng _ _ _ _ _ Q16.out.row (by omega) (by omega) (by omega)).mono ?_
    rintro e w17 ⟨rfl, rfl⟩
    go_wp2
    go_ret
    exact ⟨rfl, K16⟩
end Go.Proofs.Ytfdjoolhmianjaa

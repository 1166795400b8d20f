/-
  Contracts: the conditions for a minor leaf, on the model's side.
-/
import Derived.Test.YtlmgpecfbpcgaaaM12
import Derived.Test.YtlmgpecfbpcgaaaV5
namespace Go.Proofs.Ytlmgpecfbpcgaaa
open Go.RowKit

theorem keepFl {wb W w1 : World} {q b1 o1 : Nat} {u v x0 x1 x2 x3 : Int} (hb : Below W.heap.size W w1)
    (H : q < W.heap.size ∧ b1 < W.heap.size ∧ Below wb.heap.size wb W ∧ W.cell? ⟨q, 0, none⟩ = some (.int .i64 u) ∧ W.cell? ⟨q, 1, none⟩ = some (.int .i64 v) ∧ W.cell? ⟨b1, o1, none⟩ = some (.int .i64 x0) ∧ W.cell? ⟨b1, o1 + 1, none⟩ = some (.int .i64 x1) ∧ W.cell? ⟨b1, o1 + 2, none⟩ = some (.int .i64 x2) ∧ W.cell? ⟨b1, o1 + 2 + 1, none⟩ = some (.int .i64 x3)) :
    q < w1.heap.size ∧ b1 < w1.heap.size ∧ Below wb.heap.size wb w1 ∧ w1.cell? ⟨q, 0, none⟩ = some (.int .i64 u) ∧ w1.cell? ⟨q, 1, none⟩ = some (.int .i64 v) ∧ w1.cell? ⟨b1, o1, none⟩ = some (.int .i64 x0) ∧ w1.cell? ⟨b1, o1 + 1, none⟩ = some (.int .i64 x1) ∧ w1.cell? ⟨b1, o1 + 2, none⟩ = some (.int .i64 x2) ∧ w1.cell? ⟨b1, o1 + 2 + 1, none⟩ = some (.int .i64 x3) := by
  obtain ⟨z0, z1, hB, h0, h1, h2, h3, h4, h5⟩ := H
  have hs := hb.size
  exact ⟨by omega, by omega, belowNext hB hb, cellThru hb z0 h0, cellThru hb z0 h1, cellThru hb z1 h2, cellThru hb z1 h3, cellThru hb z1 h4, cellThru hb z1 h5⟩
theorem cross_two {y j1 j2 : Lf4} : CrossOne y [j1, j2] ↔ crossX y j1 = true ∨ crossX y j2 = true := by
  constructor
  · rintro ⟨k, z, hz, hc⟩
    match k, hz with
    | 0, hz => simp at hz; subst hz; exact .inl hc
    | 1, hz => simp at hz; subst hz; exact .inr hc
  · rintro (h | h)
    · exact ⟨0, j1, rfl, h⟩
    · exact ⟨1, j2, rfl, h⟩
/-- What the region of the two crossings tells. -/
def RegC (w : World) (P : Prop) (v : Value) (W : World) : Prop := ∃ r : Bool, v = .bool r ∧ Hid (r = true ↔ P) ∧ Below w.heap.size w W
def ResFs (w : World) (x : Lf4) (r J : List Lf4) (e : Ending) (w' : World) : Prop := (∃ v : Int, e = .returned (.tuple #[.int .i64 v, .bool true]) ∧ Hid (FailIs x r J v)) ∧ Below w.heap.size w w'

set_option maxRecDepth 8000 in
set_option maxHeartbeats 8000000 in
theorem specFails (a b c d : Int) (w : World) (h : isLf a b c d = true) (h2 : shortB a b c d = true) (r : List Lf4) (hf : imF 64 (a, b, c, d) [] = some r) (h4 : pbHal a b c d = true) :
    Calls Try.prog 61 #[leafV a b c d] w (ResFs w (a, b, c, d) r (wayX a b c d)) := by
  obtain ⟨r1, r2, -⟩ := isLf_yes h
  have HL0 := Lib.hid (fun w => specLong a b c d w (okOf r1) (okOf r2))
  rw [h2] at HL0
  have HI := Lib.hid (fun w => specImages a b c d w h)
  unfold ResIm at HI
  rw [hf] at HI
  dsimp only at HI
  have HM := Lib.hid (fun w => specMj a b c d w h h4)
  have HD : Hid (∀ w, Calls Try.prog 46 #[ang a b, ang c d] w fun e w' => e = .returned (ang (dsN a b c d) (dsD a b c d)) ∧ Below w.heap.size w w') := Lib.hid (fun w => specDist1 a b c d w (okOf r1) (okOf r2))
  have HA := Lib.hid (imF_lf _ _ _ _ (show isLfX (a, b, c, d) = true from h) rfl hf)
  have HJL := Lib.hid (way_lf h h4)
  have hlen := imF_len 64 (a, b, c, d) [] r hf
  simp at hlen
  have HLs : Hid (∀ (n d' m c' : Int), isLf n d' m c' = true → ∀ w, Calls Try.prog 53 #[ang (dsN n d' m c') (dsD n d' m c'), ang (dsN a b c d) (dsD a b c d)] w fun e w' => e = .returned (.bool (lngB (n, d', m, c') (a, b, c, d))) ∧ Below w.heap.size w w') := Lib.hid (fun n d' m c' hy w => by
    obtain ⟨r3, r4, -⟩ := isLf_yes hy
    exact specLessW _ _ _ _ w (ds_W (okOf r3) (okOf r4)) (ds_W (okOf r1) (okOf r2)))
  obtain ⟨⟨p1, p2, p3, p4⟩, ⟨q1, q2, q3, q4⟩, hJ⟩ : ∃ J0 J1 : Lf4, wayX a b c d = [J0, J1] := ⟨_, _, rfl⟩
  rw [hJ] at HM HJL ⊢
  clear hJ h h2 hf h4 r1 r2
  generalize dsN a b c d = X at *
  generalize dsD a b c d = Y at *
  obtain ⟨len, hl⟩ : ∃ len, r.length = len := ⟨_, rfl⟩
  have HL := Lib.hid hl
  rw [hl] at hlen HI
  clear hl
  have hjl1 : isLf p1 p2 p3 p4 = true := allLf_at (k := 0) HJL.out rfl
  have hjl2 : isLf q1 q2 q3 q4 = true := allLf_at (k := 1) HJL.out rfl
  have HJ1 := Lib.hid hjl1
  have HJ2 := Lib.hid hjl2
  clear hjl1 hjl2 HJL
  go_enter Try.func61, Try.ntmps61
  go_wp2_with fail
  refine (HL0.out _).mono ?_
  rintro e w1 ⟨rfl, hb1⟩
  obtain ⟨hc1, hf1⟩ := bcell hb1
  have hz1_0 : w.heap.size < w1.heap.size := by have := hb1.size; first | omega | (simp at this; omega)
  have q1_0_0 : w1.cell? ⟨w.heap.size, 0, none⟩ = some (.int .i64 a) := cellThru hb1 (by simp <;> omega) (by simp [go_sem])
  have q1_0_1 : w1.cell? ⟨w.heap.size, 1, none⟩ = some (.int .i64 b) := cellThru hb1 (by simp <;> omega) (by simp [go_sem])
  have q1_0_2 : w1.cell? ⟨w.heap.size, 2, none⟩ = some (.int .i64 c) := cellThru hb1 (by simp <;> omega) (by simp [go_sem])
  have q1_0_3 : w1.cell? ⟨w.heap.size, 3, none⟩ = some (.int .i64 d) := cellThru hb1 (by simp <;> omega) (by simp [go_sem])
  go_wp2_with fail
  refine (HI.out _).mono ?_
  rintro e w2 ⟨A, cap, rfl, ho, hb2⟩
  obtain ⟨hc2, hf2⟩ := bcell hb2
  have hz2_0 : w.heap.size < w2.heap.size := by have := hb2.size; first | omega | (simp at this; omega)
  have q2_0_0 : w2.cell? ⟨w.heap.size, 0, none⟩ = some (.int .i64 a) := by first | exact cellThru hb2 hz1_0 q1_0_0 | (refine cellThru hb2 ?_ (cellThru (belowAlloc (Below.refl _ _) _) hz1_0 q1_0_0); first | omega | (simp; omega)) | (refine cellThru hb2 ?_ (cellThru (belowAlloc (belowAlloc (Below.refl _ _) _) _) hz1_0 q1_0_0); first | omega | (simp; omega)) | (refine cellThru hb2 ?_ ?_; (first | omega | (simp; omega) | go_size); simp [go_sem, q1_0_0])
  have q2_0_1 : w2.cell? ⟨w.heap.size, 1, none⟩ = some (.int .i64 b) := by first | exact cellThru hb2 hz1_0 q1_0_1 | (refine cellThru hb2 ?_ (cellThru (belowAlloc (Below.refl _ _) _) hz1_0 q1_0_1); first | omega | (simp; omega)) | (refine cellThru hb2 ?_ (cellThru (belowAlloc (belowAlloc (Below.refl _ _) _) _) hz1_0 q1_0_1); first | omega | (simp; omega)) | (refine cellThru hb2 ?_ ?_; (first | omega | (simp; omega) | go_size); simp [go_sem, q1_0_1])
  have q2_0_2 : w2.cell? ⟨w.heap.size, 2, none⟩ = some (.int .i64 c) := by first | exact cellThru hb2 hz1_0 q1_0_2 | (refine cellThru hb2 ?_ (cellThru (belowAlloc (Below.refl _ _) _) hz1_0 q1_0_2); first | omega | (simp; omega)) | (refine cellThru hb2 ?_ (cellThru (belowAlloc (belowAlloc (Below.refl _ _) _) _) hz1_0 q1_0_2); first | omega | (simp; omega)) | (refine cellThru hb2 ?_ ?_; (first | omega | (simp; omega) | go_size); simp [go_sem, q1_0_2])
  have q2_0_3 : w2.cell? ⟨w.heap.size, 3, none⟩ = some (.int .i64 d) := by first | exact cellThru hb2 hz1_0 q1_0_3 | (refine cellThru hb2 ?_ (cellThru (belowAlloc (Below.refl _ _) _) hz1_0 q1_0_3); first | omega | (simp; omega)) | (refine cellThru hb2 ?_ (cellThru (belowAlloc (belowAlloc (Below.refl _ _) _) _) hz1_0 q1_0_3); first | omega | (simp; omega)) | (refine cellThru hb2 ?_ ?_; (first | omega | (simp; omega) | go_size); simp [go_sem, q1_0_3])
  have RO := Lib.hid ho
  clear ho
  go_wp2_with fail
  refine (HM.out _).mono ?_
  rintro e w3 ⟨B, rfl, ho3, hb3⟩
  obtain ⟨hc3, hf3⟩ := bcell hb3
  have hz3_0 : w.heap.size < w3.heap.size := by have := hb3.size; first | omega | (simp at this; omega)
  have q3_0_0 : w3.cell? ⟨w.heap.size, 0, none⟩ = some (.int .i64 a) := by first | exact cellThru hb3 hz2_0 q2_0_0 | (refine cellThru hb3 ?_ (cellThru (belowAlloc (Below.refl _ _) _) hz2_0 q2_0_0); first | omega | (simp; omega)) | (refine cellThru hb3 ?_ (cellThru (belowAlloc (belowAlloc (Below.refl _ _) _) _) hz2_0 q2_0_0); first | omega | (simp; omega)) | (refine cellThru hb3 ?_ ?_; (first | omega | (simp; omega) | go_size); simp [go_sem, q2_0_0])
  have q3_0_1 : w3.cell? ⟨w.heap.size, 1, none⟩ = some (.int .i64 b) := by first | exact cellThru hb3 hz2_0 q2_0_1 | (refine cellThru hb3 ?_ (cellThru (belowAlloc (Below.refl _ _) _) hz2_0 q2_0_1); first | omega | (simp; omega)) | (refine cellThru hb3 ?_ (cellThru (belowAlloc (belowAlloc (Below.refl _ _) _) _) hz2_0 q2_0_1); first | omega | (simp; omega)) | (refine cellThru hb3 ?_ ?_; (first | omega | (simp; omega) | go_size); simp [go_sem, q2_0_1])
  have q3_0_2 : w3.cell? ⟨w.heap.size, 2, none⟩ = some (.int .i64 c) := by first | exact cellThru hb3 hz2_0 q2_0_2 | (refine cellThru hb3 ?_ (cellThru (belowAlloc (Below.refl _ _) _) hz2_0 q2_0_2); first | omega | (simp; omega)) | (refine cellThru hb3 ?_ (cellThru (belowAlloc (belowAlloc (Below.refl _ _) _) _) hz2_0 q2_0_2); first | omega | (simp; omega)) | (refine cellThru hb3 ?_ ?_; (first | omega | (simp; omega) | go_size); simp [go_sem, q2_0_2])
  have q3_0_3 : w3.cell? ⟨w.heap.size, 3, none⟩ = some (.int .i64 d) := by first | exact cellThru hb3 hz2_0 q2_0_3 | (refine cellThru hb3 ?_ (cellThru (belowAlloc (Below.refl _ _) _) hz2_0 q2_0_3); first | omega | (simp; omega)) | (refine cellThru hb3 ?_ (cellThru (belowAlloc (belowAlloc (Below.refl _ _) _) _) hz2_0 q2_0_3); first | omega | (simp; omega)) | (refine cellThru hb3 ?_ ?_; (first | omega | (simp; omega) | go_size); simp [go_sem, q2_0_3])
  have B3 : Below w.heap.size w w3 := by
    (repeat' (first | (with_reducible exact Below.refl _ _) | (with_reducible assumption) | (with_reducible refine belowNext ?_ (by with_reducible assumption)) | (with_reducible refine belowAlloc ?_ _) | (with_reducible refine Below.drew ?_) | (with_reducible refine below_drewN ?_ _) | (with_reducible refine Below.setCell ?_ ?_ _) | go_size | (with_reducible refine sizeOf' ?_) | (with_reducible refine sizeAdd ?_) | (dsimp only; first | (with_reducible refine sizeOf' ?_) | (with_reducible refine sizeAdd ?_))))
  have RA := Lib.hid (RO.out.next hb3).row
  have RJ := Lib.hid ho3.row
  have L3 := Lib.hid (⟨q3_0_0, q3_0_1, q3_0_2, q3_0_3⟩ : Cells4 w3 w.heap.size 0 a b c d)
  have hz3 := hz3_0
  clear ho3 RO hb1 hb2 hb3 hc1 hf1 hc2 hf2 hc3 hf3 hz1_0 hz2_0 hz3_0 q1_0_0 q1_0_1 q1_0_2 q1_0_3 q2_0_0 q2_0_1 q2_0_2 q2_0_3 q3_0_0 q3_0_1 q3_0_2 q3_0_3 HL0 HI HM
  obtain ⟨bj, oj, rfl, hbj, hcj⟩ := row_at RJ.out (by simp)
  have HCJ0 := Lib.hid (hcj 0 p1 p2 p3 p4 rfl)
  have HCJ1 := Lib.hid (hcj 1 q1 q2 q3 q4 rfl)
  simp only [Nat.zero_mul, Nat.one_mul, Nat.add_zero] at HCJ0 HCJ1
  clear hcj RJ
  have HROW : Hid (∀ k, k < len → ∃ b' off, A = some ⟨b', off, none⟩ ∧ b' < w3.heap.size ∧ ∀ i n d m c, r[i]? = some (n, d, m, c) → Cells4 w3 b' (off + i * 4) n d m c) := Lib.hid (fun k hk => by
    have hne : r ≠ [] := by
      intro h
      have := HL.out
      rw [h] at this
      simp at this
      omega
    exact row_at RA.out hne)
  clear RA
  go_wp2
  go_loopw [8] (fun i wr => ∃ k : Nat, k ≤ len ∧ i = .int .i64 k ∧ Hid (∀ (j t : Nat) (x y : Lf4), j < k → t < j → r[j]? = some x → r[t]? = some y → crossX x y = false) ∧ Below w3.heap.size w3 wr) (fun i _ => len - (intOf i).toNat)
  case atStart => exact ⟨0, by omega, rfl, Lib.hid (fun j t x y hj => absurd hj (by omega)), Below.refl _ _⟩
  case round =>
    obtain ⟨k, hk, rfl, HY, hbe⟩ := hrel
    by_cases hlt : k < len
    · obtain ⟨n, d', m, c', hx⟩ := lfAt (l := r) (k := k) (by have := HL.out; omega)
      obtain ⟨b', off, rfl, hbb, hcells⟩ := HROW.out k hlt
      have HCe := Lib.hid hcells
      have HX := Lib.hid hx
      clear hcells hx
      go_wp2
      go_loopw [9] (fun i wi => ∃ t : Nat, t ≤ k ∧ i = .int .i64 t ∧ Hid (∀ (u : Nat) (y : Lf4), u < t → r[u]? = some y → crossX (n, d', m, c') y = false) ∧ Below w3.heap.size w3 wi) (fun i _ => k - (intOf i).toNat)
      case atStart => exact ⟨0, by omega, rfl, Lib.hid (fun u y h => absurd h (by omega)), hbe⟩
      case round =>
        obtain ⟨t, ht, rfl, HT, hbi⟩ := hrel
        by_cases htk : t < k
        · obtain ⟨p, p', s, s', hy⟩ := lfAt (l := r) (k := t) (by have := HL.out; omega)
          have htl : t < len := by omega
          obtain ⟨x0, x1, x2, x3⟩ := (HCe.out k n d' m c' HX.out).next hbi hbb
          obtain ⟨y0, y1, y2, y3⟩ := (HCe.out t p p' s s' hy).next hbi hbb
          have HCr := Lib.hid (fun w => specCross n d' m c' p p' s s' w (allLf_at HA.out HX.out) (allLf_at HA.out hy))
          have HW := Lib.hid hy
          have HE : Hid (crossB n d' m c' p p' s s' = crossX (n, d', m, c') (p, p', s, s')) := Lib.hid rfl
          clear hy
          cases hq : crossB n d' m c' p p' s s'
          · rw [hq] at HCr
            have HZ := Lib.hid (HE.out.symm.trans hq)
            clear hq HE
            go_wp2_with fail
            go_region_with (first | (go_at_call 92; (with_reducible refine (HCr.out _).mono ?_); rintro e w4 ⟨rfl, hb4⟩))
            all_goals
              have B4 : Below w3.heap.size w3 w4 := by
                (repeat' (first | (with_reducible exact Below.refl _ _) | (with_reducible assumption) | (with_reducible refine belowNext ?_ (by with_reducible assumption)) | (with_reducible refine belowAlloc ?_ _) | (with_reducible refine Below.drew ?_) | (with_reducible refine below_drewN ?_ _) | (with_reducible refine Below.setCell ?_ ?_ _) | go_size | (with_reducible refine sizeOf' ?_) | (with_reducible refine sizeAdd ?_) | (dsimp only; first | (with_reducible refine sizeOf' ?_) | (with_reducible refine sizeAdd ?_))))
              clear x0 x1 x2 x3 y0 y1 y2 y3 hb4 hbi
              go_wp2
              go_roundw
              case rel =>
                refine ⟨t + 1, by omega, by go_num, Lib.hid (fun u y hu hyu => ?_), B4⟩
                by_cases hut : u = t
                · subst hut
                  have := HW.out
                  rw [this] at hyu
                  injection hyu with hyu
                  rw [← hyu]; exact HZ.out
                · exact HT.out u y (by omega) hyu
              case measure => simp [intOf]; omega
          · rw [hq] at HCr
            have HN : Hid (¬ NoCross r) := Lib.hid (fun h => by
              have := h k t _ _ htk HX.out HW.out
              rw [← HE.out, hq] at this; cases this)
            clear hq HE
            go_wp2_with fail
            go_region_with (first | (go_at_call 92; (with_reducible refine (HCr.out _).mono ?_); rintro e w4 ⟨rfl, hb4⟩))
            all_goals
              have B4 : Below w3.heap.size w3 w4 := by
                (repeat' (first | (with_reducible exact Below.refl _ _) | (with_reducible assumption) | (with_reducible refine belowNext ?_ (by with_reducible assumption)) | (with_reducible refine belowAlloc ?_ _) | (with_reducible refine Below.drew ?_) | (with_reducible refine below_drewN ?_ _) | (with_reducible refine Below.setCell ?_ ?_ _) | go_size | (with_reducible refine sizeOf' ?_) | (with_reducible refine sizeAdd ?_) | (dsimp only; first | (with_reducible refine sizeOf' ?_) | (with_reducible refine sizeAdd ?_))))
              clear x0 x1 x2 x3 y0 y1 y2 y3 hb4 hbi
              have B0 : Below w.heap.size w w4 := belowNext B3 B4
              go_wp2
              go_ret2
              exact ⟨⟨_, rfl, Lib.hid (.inl ⟨HN.out, rfl⟩)⟩, B0⟩
        · obtain rfl : t = k := by omega
          go_wp2
          go_roundw
          case rel =>
            refine ⟨t + 1, by omega, by go_num, Lib.hid (fun j u x y hj hu hx hy => ?_), hbi⟩
            by_cases hjt : j = t
            · subst hjt
              have := HX.out
              rw [this] at hx
              injection hx with hx
              rw [← hx]; exact HT.out u y hu hy
            · exact HY.out j u x y (by omega) hu hx hy
          case measure => simp [intOf]; omega
    · have H1 : Hid (NoCross r) := Lib.hid (fun i t x y ht hx hy => HY.out i t x y (by
        rcases Nat.lt_or_ge i r.length with h1 | h1
        · have := HL.out; omega
        · rw [List.getElem?_eq_none h1] at hx; cases hx) ht hx hy)
      obtain ⟨x0, x1, x2, x3⟩ := L3.out.next hbe hz3
      simp only [Nat.zero_add] at x0 x1 x2 x3
      go_wp2_with fail
      refine (HD.out _).mono ?_
      rintro e w5 ⟨rfl, hb5⟩
      have B5 : Below w3.heap.size w3 w5 := belowNext hbe hb5
      have B36 : Below w3.heap.size w3 (w5.alloc (.cells #[.int .i64 X, .int .i64 Y] 24)) := belowAlloc B5 _
      have L6 : Hid ((w5.alloc (.cells #[.int .i64 X, .int .i64 Y] 24)).cell? ⟨w5.heap.size, 0, none⟩ = some (.int .i64 X) ∧ (w5.alloc (.cells #[.int .i64 X, .int .i64 Y] 24)).cell? ⟨w5.heap.size, 1, none⟩ = some (.int .i64 Y) ∧ w5.heap.size < (w5.alloc (.cells #[.int .i64 X, .int .i64 Y] 24)).heap.size) := Lib.hid ⟨by simp [go_sem], by simp [go_sem], by simp⟩
      clear x0 x1 x2 x3 HY hlt hk hbe hb5 B5 HD L3
      go_wp2
      generalize (w5.alloc (.cells #[.int .i64 X, .int .i64 Y] 24)) = w6 at *
      go_loopw [11] (fun i wr => ∃ k : Nat, k ≤ len ∧ i = .int .i64 k ∧ Hid (∀ (j : Nat) (y : Lf4), j < k → r[j]? = some y → lngB y (a, b, c, d) = false) ∧ Below w6.heap.size w6 wr) (fun i _ => len - (intOf i).toNat)
      case atStart => exact ⟨0, by omega, rfl, Lib.hid (fun j y hj => absurd hj (by omega)), Below.refl _ _⟩
      case round =>
        obtain ⟨k, hk, rfl, HY, hbe⟩ := hrel
        have hbe3 : Below w3.heap.size w3 wr := belowNext B36 hbe
        by_cases hlt : k < len
        · obtain ⟨n, d', m, c', hx⟩ := lfAt (l := r) (k := k) (by have := HL.out; omega)
          obtain ⟨b', off, rfl, hbb, hcells⟩ := HROW.out k hlt
          obtain ⟨y0, y1, y2, y3⟩ := (hcells k n d' m c' hx).next hbe3 hbb
          obtain ⟨l0, l1, hz5⟩ := id L6.out
          have l0 := cellThru hbe hz5 l0
          have l1 := cellThru hbe hz5 l1
          have hz5r : w5.heap.size < wr.heap.size := Nat.lt_of_lt_of_le hz5 hbe.size
          have hbr : b' < wr.heap.size := Nat.lt_of_lt_of_le hbb hbe3.size
          have hyl := allLf_at HA.out hx
          obtain ⟨r3, r4, -⟩ := isLf_yes hyl
          have HDy : Hid (∀ w, Calls Try.prog 46 #[ang n d', ang m c'] w fun e w' => e = .returned (ang (dsN n d' m c') (dsD n d' m c')) ∧ Below w.heap.size w w') := Lib.hid (fun w => specDist1 n d' m c' w (okOf r3) (okOf r4))
          have HLy := Lib.hid (HLs.out n d' m c' hyl)
          have HX := Lib.hid hx
          clear hcells hx r3 r4 hyl
          generalize dsN n d' m c' = u1 at *
          generalize dsD n d' m c' = u2 at *
          cases hq : lngB (n, d', m, c') (a, b, c, d)
          · rw [hq] at HLy
            have HZ := Lib.hid hq
            clear hq
            have H0 : w5.heap.size < wr.drew.heap.size ∧ b' < wr.drew.heap.size ∧ Below wr.heap.size wr wr.drew ∧ wr.drew.cell? ⟨w5.heap.size, 0, none⟩ = some (.int .i64 X) ∧ wr.drew.cell? ⟨w5.heap.size, 1, none⟩ = some (.int .i64 Y) ∧ wr.drew.cell? ⟨b', off + k * 4, none⟩ = some (.int .i64 n) ∧ wr.drew.cell? ⟨b', off + k * 4 + 1, none⟩ = some (.int .i64 d') ∧ wr.drew.cell? ⟨b', off + k * 4 + 2, none⟩ = some (.int .i64 m) ∧ wr.drew.cell? ⟨b', off + k * 4 + 2 + 1, none⟩ = some (.int .i64 c') := ⟨hz5r, hbr, (Below.refl _ _).drew, l0, l1, y0, y1, y2, y3⟩
            clear y0 y1 y2 y3
            go_wp2_with fail
            go_region_held3 (fun W' => w5.heap.size < W'.heap.size ∧ b' < W'.heap.size ∧ Below wr.heap.size wr W' ∧ W'.cell? ⟨w5.heap.size, 0, none⟩ = some (.int .i64 X) ∧ W'.cell? ⟨w5.heap.size, 1, none⟩ = some (.int .i64 Y) ∧ W'.cell? ⟨b', off + k * 4, none⟩ = some (.int .i64 n) ∧ W'.cell? ⟨b', off + k * 4 + 1, none⟩ = some (.int .i64 d') ∧ W'.cell? ⟨b', off + k * 4 + 2, none⟩ = some (.int .i64 m) ∧ W'.cell? ⟨b', off + k * 4 + 2 + 1, none⟩ = some (.int .i64 c'))
              (first | with_reducible exact keepFl (by with_reducible assumption) (by with_reducible assumption) | with_reducible exact H0)
              (first
              | (go_at_call 46; (with_reducible refine (HDy.out _).mono ?_); rintro e' w7 ⟨rfl, hb7⟩)
              | (go_at_call 53; (with_reducible refine (HLy.out _).mono ?_); rintro e' w8 ⟨rfl, hb8⟩))
            all_goals
              rename_i hHeld
              have B8 : Below w6.heap.size w6 w8 := belowNext hbe hHeld.2.2.1
              clear hHeld H0
              go_wp2
              go_roundw
              case rel =>
                refine ⟨k + 1, by omega, by go_num, Lib.hid (fun j y hj hy => ?_), B8⟩
                by_cases hjk : j = k
                · subst hjk
                  have p := HX.out
                  rw [p] at hy
                  injection hy with hy
                  rw [← hy]
                  exact HZ.out
                · exact HY.out j y (by omega) hy
              case measure => simp [intOf]; omega
          · rw [hq] at HLy
            have HN : Hid (AnyL r (fun y => lngB y (a, b, c, d) = true)) := Lib.hid ⟨k, _, HX.out, hq⟩
            clear hq
            have H0 : w5.heap.size < wr.drew.heap.size ∧ b' < wr.drew.heap.size ∧ Below wr.heap.size wr wr.drew ∧ wr.drew.cell? ⟨w5.heap.size, 0, none⟩ = some (.int .i64 X) ∧ wr.drew.cell? ⟨w5.heap.size, 1, none⟩ = some (.int .i64 Y) ∧ wr.drew.cell? ⟨b', off + k * 4, none⟩ = some (.int .i64 n) ∧ wr.drew.cell? ⟨b', off + k * 4 + 1, none⟩ = some (.int .i64 d') ∧ wr.drew.cell? ⟨b', off + k * 4 + 2, none⟩ = some (.int .i64 m) ∧ wr.drew.cell? ⟨b', off + k * 4 + 2 + 1, none⟩ = some (.int .i64 c') := ⟨hz5r, hbr, (Below.refl _ _).drew, l0, l1, y0, y1, y2, y3⟩
            clear y0 y1 y2 y3
            go_wp2_with fail
            go_region_held3 (fun W' => w5.heap.size < W'.heap.size ∧ b' < W'.heap.size ∧ Below wr.heap.size wr W' ∧ W'.cell? ⟨w5.heap.size, 0, none⟩ = some (.int .i64 X) ∧ W'.cell? ⟨w5.heap.size, 1, none⟩ = some (.int .i64 Y) ∧ W'.cell? ⟨b', off + k * 4, none⟩ = some (.int .i64 n) ∧ W'.cell? ⟨b', off + k * 4 + 1, none⟩ = some (.int .i64 d') ∧ W'.cell? ⟨b', off + k * 4 + 2, none⟩ = some (.int .i64 m) ∧ W'.cell? ⟨b', off + k * 4 + 2 + 1, none⟩ = some (.int .i64 c'))
              (first | with_reducible exact keepFl (by with_reducible assumption) (by with_reducible assumption) | with_reducible exact H0)
              (first
              | (go_at_call 46; (with_reducible refine (HDy.out _).mono ?_); rintro e' w7 ⟨rfl, hb7⟩)
              | (go_at_call 53; (with_reducible refine (HLy.out _).mono ?_); rintro e' w8 ⟨rfl, hb8⟩))
            all_goals
              rename_i hHeld
              have B8 : Below w6.heap.size w6 w8 := belowNext hbe hHeld.2.2.1
              clear hHeld H0
              have B0 : Below w.heap.size w w8 := belowNext B3 (belowNext B36 B8)
              go_wp2
              go_ret2
              exact ⟨⟨_, rfl, Lib.hid (.inr (.inl ⟨H1.out, HN.out, rfl⟩))⟩, B0⟩
        · have H2 : Hid (¬ AnyL r (fun y => lngB y (a, b, c, d) = true)) := Lib.hid (fun ⟨i, y, hy, hc⟩ => by
            have := HY.out i y (by
              rcases Nat.lt_or_ge i r.length with h1 | h1
              · have := HL.out; omega
              · rw [List.getElem?_eq_none h1] at hy; cases hy) hy
            have hc' : lngB y (a, b, c, d) = true := hc
            rw [this] at hc'; cases hc')
          have HB6 := Lib.hid hbe
          go_wp2
          clear HY hlt hk HLs L6
          go_loopw [12] (fun i wr => ∃ k : Nat, k ≤ len ∧ i = .int .i64 k ∧ Hid (∀ (j : Nat) (y : Lf4), j < k → r[j]? = some y → ¬ CrossOne y [(p1, p2, p3, p4), (q1, q2, q3, q4)]) ∧ Below w6.heap.size w6 wr) (fun i _ => len - (intOf i).toNat)
          case atStart => exact ⟨0, by omega, rfl, Lib.hid (fun j y hj => absurd hj (by omega)), HB6.out⟩
          case round =>
            clear hbe hbe3
            rename_i wr _
            obtain ⟨k, hk, rfl, HY, hbe⟩ := hrel
            have hbe3 : Below w3.heap.size w3 wr := belowNext B36 hbe
            by_cases hlt : k < len
            · obtain ⟨n, d', m, c', hx⟩ := lfAt (l := r) (k := k) (by have := HL.out; omega)
              obtain ⟨b', off, rfl, hbb, hcells⟩ := HROW.out k hlt
              have HCe := Lib.hid hcells
              have HX := Lib.hid hx
              obtain ⟨y0, y1, y2, y3⟩ := (hcells k n d' m c' hx).next hbe3 hbb
              obtain ⟨z0, z1, z2, z3⟩ := HCJ0.out.next hbe3 hbj
              obtain ⟨s0, s1, s2, s3⟩ := HCJ1.out.next hbe3 hbj
              have HX1 := Lib.hid (fun w => specCross n d' m c' p1 p2 p3 p4 w (allLf_at HA.out hx) HJ1.out)
              have HX2 := Lib.hid (fun w => specCross n d' m c' q1 q2 q3 q4 w (allLf_at HA.out hx) HJ2.out)
              have HE : Hid (CrossOne (n, d', m, c') [(p1, p2, p3, p4), (q1, q2, q3, q4)] ↔ crossB n d' m c' p1 p2 p3 p4 = true ∨ crossB n d' m c' q1 q2 q3 q4 = true) := Lib.hid cross_two
              clear hcells hx
              go_upto_region 24 with fail
              go_cut [98] (fun s wx => RegC wr (CrossOne (n, d', m, c') [(p1, p2, p3, p4), (q1, q2, q3, q4)]) s wx)
              case first =>
                cases hq1 : crossB n d' m c' p1 p2 p3 p4
                · rw [hq1] at HX1
                  cases hq2 : crossB n d' m c' q1 q2 q3 q4
                  all_goals
                    rw [hq2] at HX2
                  · have HG : Hid (false = true ↔ CrossOne (n, d', m, c') [(p1, p2, p3, p4), (q1, q2, q3, q4)]) := Lib.hid (by rw [HE.out, hq1, hq2]; simp)
                    clear hq1 hq2 HE
                    refine wp_region_any (by kernel_rfl) ?_
                    try (change wpAny _ _ _ _ _ _ _ (World.drew _))
                    refine wpAny_take (i := 0) (v := ?_) rfl (by kernel_rfl) (by kernel_rfl) (by kernel_rfl) (fun _ _ _ h => h) (Or.inl ⟨by kernel_rfl, ?_⟩) ?_
                    rotate_left
                    · intro w; first | (go_simp; done) | (go_simp; with_reducible rfl)
                    refine wpAny_take (i := 1) (v := ?_) rfl (by kernel_rfl) (by kernel_rfl) (by kernel_rfl) (fun _ _ _ h => h) (Or.inl ⟨by kernel_rfl, ?_⟩) ?_
                    rotate_left
                    · intro w; first | (go_simp; done) | (go_simp; with_reducible rfl)
                    refine wpAny_take (i := 2) (v := ?_) rfl (by kernel_rfl) (by kernel_rfl) (by kernel_rfl) (fun _ _ _ h => h) (Or.inl ⟨by kernel_rfl, ?_⟩) ?_
                    rotate_left
                    · intro w; first | (go_simp; done) | (go_simp; with_reducible rfl)
                    refine wpAny_take (i := 4) (v := ?_) rfl (by kernel_rfl) (by kernel_rfl) (by kernel_rfl) (fun _ _ _ h => h) (Or.inl ⟨by kernel_rfl, ?_⟩) ?_
                    rotate_left
                    · intro w; first | (go_simp; done) | (go_simp; with_reducible rfl)
                    refine wpAny_take (i := 5) (v := ?_) rfl (by kernel_rfl) (by kernel_rfl) (by kernel_rfl) (fun _ _ _ h => h) (Or.inl ⟨by kernel_rfl, ?_⟩) ?_
                    rotate_left
                    · intro w; first | (go_simp; done) | (go_simp; with_reducible rfl)
                    refine wpAny_ready (rs := [3, 6]) (by kernel_rfl) (by simp) ?_
                    refine AllReady.cons rfl (fun K hK => ?_) (AllReady.cons rfl (fun K hK => ?_) AllReady.nil)
                    · go_simp
                      refine hK _ _ ?_
                      clear hK K
                      refine wpAny_ready (rs := [6]) (by kernel_rfl) (by simp) ?_
                      refine AllReady.cons rfl (fun K hK => ?_) AllReady.nil
                      go_simp
                      refine hK _ _ ?_
                      clear hK K
                      refine wpAny_ready (rs := [7]) (by kernel_rfl) (by simp) ?_
                      refine AllReady.cons rfl (fun K hK => ?_) AllReady.nil
                      go_simp
                      go_wp2_with (go_at_call 92; (with_reducible refine (HX1.out _).mono ?_); rintro e w7 ⟨rfl, hb7⟩)
                      have B7 : Below wr.heap.size wr w7 := (by (repeat' (first | (with_reducible exact Below.refl _ _) | (with_reducible assumption) | (with_reducible refine belowNext ?_ (by with_reducible assumption)) | (with_reducible refine belowAlloc ?_ _) | (with_reducible refine Below.drew ?_) | (with_reducible refine below_drewN ?_ _) | (with_reducible refine Below.setCell ?_ ?_ _) | go_size | (with_reducible refine sizeOf' ?_) | (with_reducible refine sizeAdd ?_) | (dsimp only; first | (with_reducible refine sizeOf' ?_) | (with_reducible refine sizeAdd ?_)))))
                      clear y0 y1 y2 y3 z0 z1 z2 z3 s0 s1 s2 s3
                      obtain ⟨y0, y1, y2, y3⟩ := (HCe.out k n d' m c' HX.out).next (belowNext hbe3 B7) hbb
                      obtain ⟨s0, s1, s2, s3⟩ := HCJ1.out.next (belowNext hbe3 B7) hbj
                      refine wpAny_take (i := 8) (v := ?_) rfl (by kernel_rfl) (by kernel_rfl) (by kernel_rfl) (fun _ _ _ h => h) (Or.inl ⟨by kernel_rfl, ?_⟩) ?_
                      rotate_left
                      · intro w; first | (go_simp; done) | (go_simp; with_reducible rfl)
                      refine wpAny_take (i := 9) (v := ?_) rfl (by kernel_rfl) (by kernel_rfl) (by kernel_rfl) (fun _ _ _ h => h) (Or.inl ⟨by kernel_rfl, ?_⟩) ?_
                      rotate_left
                      · intro w; first | (go_simp; done) | (go_simp; with_reducible rfl)
                      refine wpAny_take (i := 10) (v := ?_) rfl (by kernel_rfl) (by kernel_rfl) (by kernel_rfl) (fun _ _ _ h => h) (Or.inl ⟨by kernel_rfl, ?_⟩) ?_
                      rotate_left
                      · intro w; first | (go_simp; done) | (go_simp; with_reducible rfl)
                      refine wpAny_take (i := 11) (v := ?_) rfl (by kernel_rfl) (by kernel_rfl) (by kernel_rfl) (fun _ _ _ h => h) (Or.inl ⟨by kernel_rfl, ?_⟩) ?_
                      rotate_left
                      · intro w; first | (go_simp; done) | (go_simp; with_reducible rfl)
                      refine wpAny_take (i := 13) (v := ?_) rfl (by kernel_rfl) (by kernel_rfl) (by kernel_rfl) (fun _ _ _ h => h) (Or.inl ⟨by kernel_rfl, ?_⟩) ?_
                      rotate_left
                      · intro w; first | (go_simp; done) | (go_simp; with_reducible rfl)
                      refine wpAny_take (i := 14) (v := ?_) rfl (by kernel_rfl) (by kernel_rfl) (by kernel_rfl) (fun _ _ _ h => h) (Or.inl ⟨by kernel_rfl, ?_⟩) ?_
                      rotate_left
                      · intro w; first | (go_simp; done) | (go_simp; with_reducible rfl)
                      refine wpAny_ready (rs := [12, 15]) (by kernel_rfl) (by simp) ?_
                      refine AllReady.cons rfl (fun K hK => ?_) (AllReady.cons rfl (fun K hK => ?_) AllReady.nil)
                      · go_simp
                        refine hK _ _ ?_
                        clear hK K
                        refine wpAny_ready (rs := [15]) (by kernel_rfl) (by simp) ?_
                        refine AllReady.cons rfl (fun K hK => ?_) AllReady.nil
                        go_simp
                        refine hK _ _ ?_
                        clear hK K
                        refine wpAny_ready (rs := [16]) (by kernel_rfl) (by simp) ?_
                        refine AllReady.cons rfl (fun K hK => ?_) AllReady.nil
                        go_simp
                        go_wp2_with (go_at_call 92; (with_reducible refine (HX2.out _).mono ?_); rintro e w8 ⟨rfl, hb8⟩)
                        refine wpAny_take (i := 17) (v := ?_) rfl (by kernel_rfl) (by kernel_rfl) (by kernel_rfl) (fun _ _ _ h => h) (Or.inl ⟨by kernel_rfl, ?_⟩) ?_
                        rotate_left
                        · intro w; first | (go_simp; done) | (go_simp; with_reducible rfl)
                        refine wpAny_done (by kernel_rfl) ?_ _
                        have B8 : Below wr.heap.size wr w8 := (by (repeat' (first | (with_reducible exact Below.refl _ _) | (with_reducible assumption) | (with_reducible refine belowNext ?_ (by with_reducible assumption)) | (with_reducible refine belowAlloc ?_ _) | (with_reducible refine Below.drew ?_) | (with_reducible refine below_drewN ?_ _) | (with_reducible refine Below.setCell ?_ ?_ _) | go_size | (with_reducible refine sizeOf' ?_) | (with_reducible refine sizeAdd ?_) | (dsimp only; first | (with_reducible refine sizeOf' ?_) | (with_reducible refine sizeAdd ?_)))))
                        go_wp2_with fail
                        go_meet
                        exact ⟨_, rfl, Lib.hid (by first | exact HG.out | simpa using HG.out), B8⟩
                      · go_simp
                        refine hK _ _ ?_
                        clear hK K
                        refine wpAny_ready (rs := [12]) (by kernel_rfl) (by simp) ?_
                        refine AllReady.cons rfl (fun K hK => ?_) AllReady.nil
                        go_simp
                        refine hK _ _ ?_
                        clear hK K
                        refine wpAny_ready (rs := [16]) (by kernel_rfl) (by simp) ?_
                        refine AllReady.cons rfl (fun K hK => ?_) AllReady.nil
                        go_simp
                        go_wp2_with (go_at_call 92; (with_reducible refine (HX2.out _).mono ?_); rintro e w8 ⟨rfl, hb8⟩)
                        refine wpAny_take (i := 17) (v := ?_) rfl (by kernel_rfl) (by kernel_rfl) (by kernel_rfl) (fun _ _ _ h => h) (Or.inl ⟨by kernel_rfl, ?_⟩) ?_
                        rotate_left
                        · intro w; first | (go_simp; done) | (go_simp; with_reducible rfl)
                        refine wpAny_done (by kernel_rfl) ?_ _
                        have B8 : Below wr.heap.size wr w8 := (by (repeat' (first | (with_reducible exact Below.refl _ _) | (with_reducible assumption) | (with_reducible refine belowNext ?_ (by with_reducible assumption)) | (with_reducible refine belowAlloc ?_ _) | (with_reducible refine Below.drew ?_) | (with_reducible refine below_drewN ?_ _) | (with_reducible refine Below.setCell ?_ ?_ _) | go_size | (with_reducible refine sizeOf' ?_) | (with_reducible refine sizeAdd ?_) | (dsimp only; first | (with_reducible refine sizeOf' ?_) | (with_reducible refine sizeAdd ?_)))))
                        go_wp2_with fail
                        go_meet
                        exact ⟨_, rfl, Lib.hid (by first | exact HG.out | simpa using HG.out), B8⟩
                    · go_simp
                      refine hK _ _ ?_
                      clear hK K
                      refine wpAny_ready (rs := [3]) (by kernel_rfl) (by simp) ?_
                      refine AllReady.cons rfl (fun K hK => ?_) AllReady.nil
                      go_simp
                      refine hK _ _ ?_
                      clear hK K
                      refine wpAny_ready (rs := [7]) (by kernel_rfl) (by simp) ?_
                      refine AllReady.cons rfl (fun K hK => ?_) AllReady.nil
                      go_simp
                      go_wp2_with (go_at_call 92; (with_reducible refine (HX1.out _).mono ?_); rintro e w7 ⟨rfl, hb7⟩)
                      have B7 : Below wr.heap.size wr w7 := (by (repeat' (first | (with_reducible exact Below.refl _ _) | (with_reducible assumption) | (with_reducible refine belowNext ?_ (by with_reducible assumption)) | (with_reducible refine belowAlloc ?_ _) | (with_reducible refine Below.drew ?_) | (with_reducible refine below_drewN ?_ _) | (with_reducible refine Below.setCell ?_ ?_ _) | go_size | (with_reducible refine sizeOf' ?_) | (with_reducible refine sizeAdd ?_) | (dsimp only; first | (with_reducible refine sizeOf' ?_) | (with_reducible refine sizeAdd ?_)))))
                      clear y0 y1 y2 y3 z0 z1 z2 z3 s0 s1 s2 s3
                      obtain ⟨y0, y1, y2, y3⟩ := (HCe.out k n d' m c' HX.out).next (belowNext hbe3 B7) hbb
                      obtain ⟨s0, s1, s2, s3⟩ := HCJ1.out.next (belowNext hbe3 B7) hbj
                      refine wpAny_take (i := 8) (v := ?_) rfl (by kernel_rfl) (by kernel_rfl) (by kernel_rfl) (fun _ _ _ h => h) (Or.inl ⟨by kernel_rfl, ?_⟩) ?_
                      rotate_left
                      · intro w; first | (go_simp; done) | (go_simp; with_reducible rfl)
                      refine wpAny_take (i := 9) (v := ?_) rfl (by kernel_rfl) (by kernel_rfl) (by kernel_rfl) (fun _ _ _ h => h) (Or.inl ⟨by kernel_rfl, ?_⟩) ?_
                      rotate_left
                      · intro w; first | (go_simp; done) | (go_simp; with_reducible rfl)
                      refine wpAny_take (i := 10) (v := ?_) rfl (by kernel_rfl) (by kernel_rfl) (by kernel_rfl) (fun _ _ _ h => h) (Or.inl ⟨by kernel_rfl, ?_⟩) ?_
                      rotate_left
                      · intro w; first | (go_simp; done) | (go_simp; with_reducible rfl)
                      refine wpAny_take (i := 11) (v := ?_) rfl (by kernel_rfl) (by kernel_rfl) (by kernel_rfl) (fun _ _ _ h => h) (Or.inl ⟨by kernel_rfl, ?_⟩) ?_
                      rotate_left
                      · intro w; first | (go_simp; done) | (go_simp; with_reducible rfl)
                      refine wpAny_take (i := 13) (v := ?_) rfl (by kernel_rfl) (by kernel_rfl) (by kernel_rfl) (fun _ _ _ h => h) (Or.inl ⟨by kernel_rfl, ?_⟩) ?_
                      rotate_left
                      · intro w; first | (go_simp; done) | (go_simp; with_reducible rfl)
                      refine wpAny_take (i := 14) (v := ?_) rfl (by kernel_rfl) (by kernel_rfl) (by kernel_rfl) (fun _ _ _ h => h) (Or.inl ⟨by kernel_rfl, ?_⟩) ?_
                      rotate_left
                      · intro w; first | (go_simp; done) | (go_simp; with_reducible rfl)
                      refine wpAny_ready (rs := [12, 15]) (by kernel_rfl) (by simp) ?_
                      refine AllReady.cons rfl (fun K hK => ?_) (AllReady.cons rfl (fun K hK => ?_) AllReady.nil)
                      · go_simp
                        refine hK _ _ ?_
                        clear hK K
                        refine wpAny_ready (rs := [15]) (by kernel_rfl) (by simp) ?_
                        refine AllReady.cons rfl (fun K hK => ?_) AllReady.nil
                        go_simp
                        refine hK _ _ ?_
                        clear hK K
                        refine wpAny_ready (rs := [16]) (by kernel_rfl) (by simp) ?_
                        refine AllReady.cons rfl (fun K hK => ?_) AllReady.nil
                        go_simp
                        go_wp2_with (go_at_call 92; (with_reducible refine (HX2.out _).mono ?_); rintro e w8 ⟨rfl, hb8⟩)
                        refine wpAny_take (i := 17) (v := ?_) rfl (by kernel_rfl) (by kernel_rfl) (by kernel_rfl) (fun _ _ _ h => h) (Or.inl ⟨by kernel_rfl, ?_⟩) ?_
                        rotate_left
                        · intro w; first | (go_simp; done) | (go_simp; with_reducible rfl)
                        refine wpAny_done (by kernel_rfl) ?_ _
                        have B8 : Below wr.heap.size wr w8 := (by (repeat' (first | (with_reducible exact Below.refl _ _) | (with_reducible assumption) | (with_reducible refine belowNext ?_ (by with_reducible assumption)) | (with_reducible refine belowAlloc ?_ _) | (with_reducible refine Below.drew ?_) | (with_reducible refine below_drewN ?_ _) | (with_reducible refine Below.setCell ?_ ?_ _) | go_size | (with_reducible refine sizeOf' ?_) | (with_reducible refine sizeAdd ?_) | (dsimp only; first | (with_reducible refine sizeOf' ?_) | (with_reducible refine sizeAdd ?_)))))
                        go_wp2_with fail
                        go_meet
                        exact ⟨_, rfl, Lib.hid (by first | exact HG.out | simpa using HG.out), B8⟩
                      · go_simp
                        refine hK _ _ ?_
                        clear hK K
                        refine wpAny_ready (rs := [12]) (by kernel_rfl) (by simp) ?_
                        refine AllReady.cons rfl (fun K hK => ?_) AllReady.nil
                        go_simp
                        refine hK _ _ ?_
                        clear hK K
                        refine wpAny_ready (rs := [16]) (by kernel_rfl) (by simp) ?_
                        refine AllReady.cons rfl (fun K hK => ?_) AllReady.nil
                        go_simp
                        go_wp2_with (go_at_call 92; (with_reducible refine (HX2.out _).mono ?_); rintro e w8 ⟨rfl, hb8⟩)
                        refine wpAny_take (i := 17) (v := ?_) rfl (by kernel_rfl) (by kernel_rfl) (by kernel_rfl) (fun _ _ _ h => h) (Or.inl ⟨by kernel_rfl, ?_⟩) ?_
                        rotate_left
                        · intro w; first | (go_simp; done) | (go_simp; with_reducible rfl)
                        refine wpAny_done (by kernel_rfl) ?_ _
                        have B8 : Below wr.heap.size wr w8 := (by (repeat' (first | (with_reducible exact Below.refl _ _) | (with_reducible assumption) | (with_reducible refine belowNext ?_ (by with_reducible assumption)) | (with_reducible refine belowAlloc ?_ _) | (with_reducible refine Below.drew ?_) | (with_reducible refine below_drewN ?_ _) | (with_reducible refine Below.setCell ?_ ?_ _) | go_size | (with_reducible refine sizeOf' ?_) | (with_reducible refine sizeAdd ?_) | (dsimp only; first | (with_reducible refine sizeOf' ?_) | (with_reducible refine sizeAdd ?_)))))
                        go_wp2_with fail
                        go_meet
                        exact ⟨_, rfl, Lib.hid (by first | exact HG.out | simpa using HG.out), B8⟩
                  · have HG : Hid (true = true ↔ CrossOne (n, d', m, c') [(p1, p2, p3, p4), (q1, q2, q3, q4)]) := Lib.hid (by rw [HE.out, hq1, hq2]; simp)
                    clear hq1 hq2 HE
                    refine wp_region_any (by kernel_rfl) ?_
                    try (change wpAny _ _ _ _ _ _ _ (World.drew _))
                    refine wpAny_take (i := 0) (v := ?_) rfl (by kernel_rfl) (by kernel_rfl) (by kernel_rfl) (fun _ _ _ h => h) (Or.inl ⟨by kernel_rfl, ?_⟩) ?_
                    rotate_left
                    · intro w; first | (go_simp; done) | (go_simp; with_reducible rfl)
                    refine wpAny_take (i := 1) (v := ?_) rfl (by kernel_rfl) (by kernel_rfl) (by kernel_rfl) (fun _ _ _ h => h) (Or.inl ⟨by kernel_rfl, ?_⟩) ?_
                    rotate_left
                    · intro w; first | (go_simp; done) | (go_simp; with_reducible rfl)
                    refine wpAny_take (i := 2) (v := ?_) rfl (by kernel_rfl) (by kernel_rfl) (by kernel_rfl) (fun _ _ _ h => h) (Or.inl ⟨by kernel_rfl, ?_⟩) ?_
                    rotate_left
                    · intro w; first | (go_simp; done) | (go_simp; with_reducible rfl)
                    refine wpAny_take (i := 4) (v := ?_) rfl (by kernel_rfl) (by kernel_rfl) (by kernel_rfl) (fun _ _ _ h => h) (Or.inl ⟨by kernel_rfl, ?_⟩) ?_
                    rotate_left
                    · intro w; first | (go_simp; done) | (go_simp; with_reducible rfl)
                    refine wpAny_take (i := 5) (v := ?_) rfl (by kernel_rfl) (by kernel_rfl) (by kernel_rfl) (fun _ _ _ h => h) (Or.inl ⟨by kernel_rfl, ?_⟩) ?_
                    rotate_left
                    · intro w; first | (go_simp; done) | (go_simp; with_reducible rfl)
                    refine wpAny_ready (rs := [3, 6]) (by kernel_rfl) (by simp) ?_
                    refine AllReady.cons rfl (fun K hK => ?_) (AllReady.cons rfl (fun K hK => ?_) AllReady.nil)
                    · go_simp
                      refine hK _ _ ?_
                      clear hK K
                      refine wpAny_ready (rs := [6]) (by kernel_rfl) (by simp) ?_
                      refine AllReady.cons rfl (fun K hK => ?_) AllReady.nil
                      go_simp
                      refine hK _ _ ?_
                      clear hK K
                      refine wpAny_ready (rs := [7]) (by kernel_rfl) (by simp) ?_
                      refine AllReady.cons rfl (fun K hK => ?_) AllReady.nil
                      go_simp
                      go_wp2_with (go_at_call 92; (with_reducible refine (HX1.out _).mono ?_); rintro e w7 ⟨rfl, hb7⟩)
                      have B7 : Below wr.heap.size wr w7 := (by (repeat' (first | (with_reducible exact Below.refl _ _) | (with_reducible assumption) | (with_reducible refine belowNext ?_ (by with_reducible assumption)) | (with_reducible refine belowAlloc ?_ _) | (with_reducible refine Below.drew ?_) | (with_reducible refine below_drewN ?_ _) | (with_reducible refine Below.setCell ?_ ?_ _) | go_size | (with_reducible refine sizeOf' ?_) | (with_reducible refine sizeAdd ?_) | (dsimp only; first | (with_reducible refine sizeOf' ?_) | (with_reducible refine sizeAdd ?_)))))
                      clear y0 y1 y2 y3 z0 z1 z2 z3 s0 s1 s2 s3
                      obtain ⟨y0, y1, y2, y3⟩ := (HCe.out k n d' m c' HX.out).next (belowNext hbe3 B7) hbb
                      obtain ⟨s0, s1, s2, s3⟩ := HCJ1.out.next (belowNext hbe3 B7) hbj
                      refine wpAny_take (i := 8) (v := ?_) rfl (by kernel_rfl) (by kernel_rfl) (by kernel_rfl) (fun _ _ _ h => h) (Or.inl ⟨by kernel_rfl, ?_⟩) ?_
                      rotate_left
                      · intro w; first | (go_simp; done) | (go_simp; with_reducible rfl)
                      refine wpAny_take (i := 9) (v := ?_) rfl (by kernel_rfl) (by kernel_rfl) (by kernel_rfl) (fun _ _ _ h => h) (Or.inl ⟨by kernel_rfl, ?_⟩) ?_
                      rotate_left
                      · intro w; first | (go_simp; done) | (go_simp; with_reducible rfl)
                      refine wpAny_take (i := 10) (v := ?_) rfl (by kernel_rfl) (by kernel_rfl) (by kernel_rfl) (fun _ _ _ h => h) (Or.inl ⟨by kernel_rfl, ?_⟩) ?_
                      rotate_left
                      · intro w; first | (go_simp; done) | (go_simp; with_reducible rfl)
                      refine wpAny_take (i := 11) (v := ?_) rfl (by kernel_rfl) (by kernel_rfl) (by kernel_rfl) (fun _ _ _ h => h) (Or.inl ⟨by kernel_rfl, ?_⟩) ?_
                      rotate_left
                      · intro w; first | (go_simp; done) | (go_simp; with_reducible rfl)
                      refine wpAny_take (i := 13) (v := ?_) rfl (by kernel_rfl) (by kernel_rfl) (by kernel_rfl) (fun _ _ _ h => h) (Or.inl ⟨by kernel_rfl, ?_⟩) ?_
                      rotate_left
                      · intro w; first | (go_simp; done) | (go_simp; with_reducible rfl)
                      refine wpAny_take (i := 14) (v := ?_) rfl (by kernel_rfl) (by kernel_rfl) (by kernel_rfl) (fun _ _ _ h => h) (Or.inl ⟨by kernel_rfl, ?_⟩) ?_
                      rotate_left
                      · intro w; first | (go_simp; done) | (go_simp; with_reducible rfl)
                      refine wpAny_ready (rs := [12, 15]) (by kernel_rfl) (by simp) ?_
                      refine AllReady.cons rfl (fun K hK => ?_) (AllReady.cons rfl (fun K hK => ?_) AllReady.nil)
                      · go_simp
                        refine hK _ _ ?_
                        clear hK K
                        refine wpAny_ready (rs := [15]) (by kernel_rfl) (by simp) ?_
                        refine AllReady.cons rfl (fun K hK => ?_) AllReady.nil
                        go_simp
                        refine hK _ _ ?_
                        clear hK K
                        refine wpAny_ready (rs := [16]) (by kernel_rfl) (by simp) ?_
                        refine AllReady.cons rfl (fun K hK => ?_) AllReady.nil
                        go_simp
                        go_wp2_with (go_at_call 92; (with_reducible refine (HX2.out _).mono ?_); rintro e w8 ⟨rfl, hb8⟩)
                        refine wpAny_take (i := 17) (v := ?_) rfl (by kernel_rfl) (by kernel_rfl) (by kernel_rfl) (fun _ _ _ h => h) (Or.inl ⟨by kernel_rfl, ?_⟩) ?_
                        rotate_left
                        · intro w; first | (go_simp; done) | (go_simp; with_reducible rfl)
                        refine wpAny_done (by kernel_rfl) ?_ _
                        have B8 : Below wr.heap.size wr w8 := (by (repeat' (first | (with_reducible exact Below.refl _ _) | (with_reducible assumption) | (with_reducible refine belowNext ?_ (by with_reducible assumption)) | (with_reducible refine belowAlloc ?_ _) | (with_reducible refine Below.drew ?_) | (with_reducible refine below_drewN ?_ _) | (with_reducible refine Below.setCell ?_ ?_ _) | go_size | (with_reducible refine sizeOf' ?_) | (with_reducible refine sizeAdd ?_) | (dsimp only; first | (with_reducible refine sizeOf' ?_) | (with_reducible refine sizeAdd ?_)))))
                        go_wp2_with fail
                        go_meet
                        exact ⟨_, rfl, Lib.hid (by first | exact HG.out | simpa using HG.out), B8⟩
                      · go_simp
                        refine hK _ _ ?_
                        clear hK K
                        refine wpAny_ready (rs := [12]) (by kernel_rfl) (by simp) ?_
                        refine AllReady.cons rfl (fun K hK => ?_) AllReady.nil
                        go_simp
                        refine hK _ _ ?_
                        clear hK K
                        refine wpAny_ready (rs := [16]) (by kernel_rfl) (by simp) ?_
                        refine AllReady.cons rfl (fun K hK => ?_) AllReady.nil
                        go_simp
                        go_wp2_with (go_at_call 92; (with_reducible refine (HX2.out _).mono ?_); rintro e w8 ⟨rfl, hb8⟩)
                        refine wpAny_take (i := 17) (v := ?_) rfl (by kernel_rfl) (by kernel_rfl) (by kernel_rfl) (fun _ _ _ h => h) (Or.inl ⟨by kernel_rfl, ?_⟩) ?_
                        rotate_left
                        · intro w; first | (go_simp; done) | (go_simp; with_reducible rfl)
                        refine wpAny_done (by kernel_rfl) ?_ _
                        have B8 : Below wr.heap.size wr w8 := (by (repeat' (first | (with_reducible exact Below.refl _ _) | (with_reducible assumption) | (with_reducible refine belowNext ?_ (by with_reducible assumption)) | (with_reducible refine belowAlloc ?_ _) | (with_reducible refine Below.drew ?_) | (with_reducible refine below_drewN ?_ _) | (with_reducible refine Below.setCell ?_ ?_ _) | go_size | (with_reducible refine sizeOf' ?_) | (with_reducible refine sizeAdd ?_) | (dsimp only; first | (with_reducible refine sizeOf' ?_) | (with_reducible refine sizeAdd ?_)))))
                        go_wp2_with fail
                        go_meet
                        exact ⟨_, rfl, Lib.hid (by first | exact HG.out | simpa using HG.out), B8⟩
                    · go_simp
                      refine hK _ _ ?_
                      clear hK K
                      refine wpAny_ready (rs := [3]) (by kernel_rfl) (by simp) ?_
                      refine AllReady.cons rfl (fun K hK => ?_) AllReady.nil
                      go_simp
                      refine hK _ _ ?_
                      clear hK K
                      refine wpAny_ready (rs := [7]) (by kernel_rfl) (by simp) ?_
                      refine AllReady.cons rfl (fun K hK => ?_) AllReady.nil
                      go_simp
                      go_wp2_with (go_at_call 92; (with_reducible refine (HX1.out _).mono ?_); rintro e w7 ⟨rfl, hb7⟩)
                      have B7 : Below wr.heap.size wr w7 := (by (repeat' (first | (with_reducible exact Below.refl _ _) | (with_reducible assumption) | (with_reducible refine belowNext ?_ (by with_reducible assumption)) | (with_reducible refine belowAlloc ?_ _) | (with_reducible refine Below.drew ?_) | (with_reducible refine below_drewN ?_ _) | (with_reducible refine Below.setCell ?_ ?_ _) | go_size | (with_reducible refine sizeOf' ?_) | (with_reducible refine sizeAdd ?_) | (dsimp only; first | (with_reducible refine sizeOf' ?_) | (with_reducible refine sizeAdd ?_)))))
                      clear y0 y1 y2 y3 z0 z1 z2 z3 s0 s1 s2 s3
                      obtain ⟨y0, y1, y2, y3⟩ := (HCe.out k n d' m c' HX.out).next (belowNext hbe3 B7) hbb
                      obtain ⟨s0, s1, s2, s3⟩ := HCJ1.out.next (belowNext hbe3 B7) hbj
                      refine wpAny_take (i := 8) (v := ?_) rfl (by kernel_rfl) (by kernel_rfl) (by kernel_rfl) (fun _ _ _ h => h) (Or.inl ⟨by kernel_rfl, ?_⟩) ?_
                      rotate_left
                      · intro w; first | (go_simp; done) | (go_simp; with_reducible rfl)
                      refine wpAny_take (i := 9) (v := ?_) rfl (by kernel_rfl) (by kernel_rfl) (by kernel_rfl) (fun _ _ _ h => h) (Or.inl ⟨by kernel_rfl, ?_⟩) ?_
                      rotate_left
                      · intro w; first | (go_simp; done) | (go_simp; with_reducible rfl)
                      refine wpAny_take (i := 10) (v := ?_) rfl (by kernel_rfl) (by kernel_rfl) (by kernel_rfl) (fun _ _ _ h => h) (Or.inl ⟨by kernel_rfl, ?_⟩) ?_
                      rotate_left
                      · intro w; first | (go_simp; done) | (go_simp; with_reducible rfl)
                      refine wpAny_take (i := 11) (v := ?_) rfl (by kernel_rfl) (by kernel_rfl) (by kernel_rfl) (fun _ _ _ h => h) (Or.inl ⟨by kernel_rfl, ?_⟩) ?_
                      rotate_left
                      · intro w; first | (go_simp; done) | (go_simp; with_reducible rfl)
                      refine wpAny_take (i := 13) (v := ?_) rfl (by kernel_rfl) (by kernel_rfl) (by kernel_rfl) (fun _ _ _ h => h) (Or.inl ⟨by kernel_rfl, ?_⟩) ?_
                      rotate_left
                      · intro w; first | (go_simp; done) | (go_simp; with_reducible rfl)
                      refine wpAny_take (i := 14) (v := ?_) rfl (by kernel_rfl) (by kernel_rfl) (by kernel_rfl) (fun _ _ _ h => h) (Or.inl ⟨by kernel_rfl, ?_⟩) ?_
                      rotate_left
                      · intro w; first | (go_simp; done) | (go_simp; with_reducible rfl)
                      refine wpAny_ready (rs := [12, 15]) (by kernel_rfl) (by simp) ?_
                      refine AllReady.cons rfl (fun K hK => ?_) (AllReady.cons rfl (fun K hK => ?_) AllReady.nil)
                      · go_simp
                        refine hK _ _ ?_
                        clear hK K
                        refine wpAny_ready (rs := [15]) (by kernel_rfl) (by simp) ?_
                        refine AllReady.cons rfl (fun K hK => ?_) AllReady.nil
                        go_simp
                        refine hK _ _ ?_
                        clear hK K
                        refine wpAny_ready (rs := [16]) (by kernel_rfl) (by simp) ?_
                        refine AllReady.cons rfl (fun K hK => ?_) AllReady.nil
                        go_simp
                        go_wp2_with (go_at_call 92; (with_reducible refine (HX2.out _).mono ?_); rintro e w8 ⟨rfl, hb8⟩)
                        refine wpAny_take (i := 17) (v := ?_) rfl (by kernel_rfl) (by kernel_rfl) (by kernel_rfl) (fun _ _ _ h => h) (Or.inl ⟨by kernel_rfl, ?_⟩) ?_
                        rotate_left
                        · intro w; first | (go_simp; done) | (go_simp; with_reducible rfl)
                        refine wpAny_done (by kernel_rfl) ?_ _
                        have B8 : Below wr.heap.size wr w8 := (by (repeat' (first | (with_reducible exact Below.refl _ _) | (with_reducible assumption) | (with_reducible refine belowNext ?_ (by with_reducible assumption)) | (with_reducible refine belowAlloc ?_ _) | (with_reducible refine Below.drew ?_) | (with_reducible refine below_drewN ?_ _) | (with_reducible refine Below.setCell ?_ ?_ _) | go_size | (with_reducible refine sizeOf' ?_) | (with_reducible refine sizeAdd ?_) | (dsimp only; first | (with_reducible refine sizeOf' ?_) | (with_reducible refine sizeAdd ?_)))))
                        go_wp2_with fail
                        go_meet
                        exact ⟨_, rfl, Lib.hid (by first | exact HG.out | simpa using HG.out), B8⟩
                      · go_simp
                        refine hK _ _ ?_
                        clear hK K
                        refine wpAny_ready (rs := [12]) (by kernel_rfl) (by simp) ?_
                        refine AllReady.cons rfl (fun K hK => ?_) AllReady.nil
                        go_simp
                        refine hK _ _ ?_
                        clear hK K
                        refine wpAny_ready (rs := [16]) (by kernel_rfl) (by simp) ?_
                        refine AllReady.cons rfl (fun K hK => ?_) AllReady.nil
                        go_simp
                        go_wp2_with (go_at_call 92; (with_reducible refine (HX2.out _).mono ?_); rintro e w8 ⟨rfl, hb8⟩)
                        refine wpAny_take (i := 17) (v := ?_) rfl (by kernel_rfl) (by kernel_rfl) (by kernel_rfl) (fun _ _ _ h => h) (Or.inl ⟨by kernel_rfl, ?_⟩) ?_
                        rotate_left
                        · intro w; first | (go_simp; done) | (go_simp; with_reducible rfl)
                        refine wpAny_done (by kernel_rfl) ?_ _
                        have B8 : Below wr.heap.size wr w8 := (by (repeat' (first | (with_reducible exact Below.refl _ _) | (with_reducible assumption) | (with_reducible refine belowNext ?_ (by with_reducible assumption)) | (with_reducible refine belowAlloc ?_ _) | (with_reducible refine Below.drew ?_) | (with_reducible refine below_drewN ?_ _) | (with_reducible refine Below.setCell ?_ ?_ _) | go_size | (with_reducible refine sizeOf' ?_) | (with_reducible refine sizeAdd ?_) | (dsimp only; first | (with_reducible refine sizeOf' ?_) | (with_reducible refine sizeAdd ?_)))))
                        go_wp2_with fail
                        go_meet
                        exact ⟨_, rfl, Lib.hid (by first | exact HG.out | simpa using HG.out), B8⟩
                · rw [hq1] at HX1
                  have HG : Hid (true = true ↔ CrossOne (n, d', m, c') [(p1, p2, p3, p4), (q1, q2, q3, q4)]) := Lib.hid (by rw [HE.out, hq1]; simp)
                  clear hq1 HE HX2
                  refine wp_region_any (by kernel_rfl) ?_
                  try (change wpAny _ _ _ _ _ _ _ (World.drew _))
                  refine wpAny_take (i := 0) (v := ?_) rfl (by kernel_rfl) (by kernel_rfl) (by kernel_rfl) (fun _ _ _ h => h) (Or.inl ⟨by kernel_rfl, ?_⟩) ?_
                  rotate_left
                  · intro w; first | (go_simp; done) | (go_simp; with_reducible rfl)
                  refine wpAny_take (i := 1) (v := ?_) rfl (by kernel_rfl) (by kernel_rfl) (by kernel_rfl) (fun _ _ _ h => h) (Or.inl ⟨by kernel_rfl, ?_⟩) ?_
                  rotate_left
                  · intro w; first | (go_simp; done) | (go_simp; with_reducible rfl)
                  refine wpAny_take (i := 2) (v := ?_) rfl (by kernel_rfl) (by kernel_rfl) (by kernel_rfl) (fun _ _ _ h => h) (Or.inl ⟨by kernel_rfl, ?_⟩) ?_
                  rotate_left
                  · intro w; first | (go_simp; done) | (go_simp; with_reducible rfl)
                  refine wpAny_take (i := 4) (v := ?_) rfl (by kernel_rfl) (by kernel_rfl) (by kernel_rfl) (fun _ _ _ h => h) (Or.inl ⟨by kernel_rfl, ?_⟩) ?_
                  rotate_left
                  · intro w; first | (go_simp; done) | (go_simp; with_reducible rfl)
                  refine wpAny_take (i := 5) (v := ?_) rfl (by kernel_rfl) (by kernel_rfl) (by kernel_rfl) (fun _ _ _ h => h) (Or.inl ⟨by kernel_rfl, ?_⟩) ?_
                  rotate_left
                  · intro w; first | (go_simp; done) | (go_simp; with_reducible rfl)
                  refine wpAny_ready (rs := [3, 6]) (by kernel_rfl) (by simp) ?_
                  refine AllReady.cons rfl (fun K hK => ?_) (AllReady.cons rfl (fun K hK => ?_) AllReady.nil)
                  · go_simp
                    refine hK _ _ ?_
                    clear hK K
                    refine wpAny_ready (rs := [6]) (by kernel_rfl) (by simp) ?_
                    refine AllReady.cons rfl (fun K hK => ?_) AllReady.nil
                    go_simp
                    refine hK _ _ ?_
                    clear hK K
                    refine wpAny_ready (rs := [7]) (by kernel_rfl) (by simp) ?_
                    refine AllReady.cons rfl (fun K hK => ?_) AllReady.nil
                    go_simp
                    go_wp2_with (go_at_call 92; (with_reducible refine (HX1.out _).mono ?_); rintro e w7 ⟨rfl, hb7⟩)
                    refine wpAny_take (i := 8) (v := ?_) rfl (by kernel_rfl) (by kernel_rfl) (by kernel_rfl) (fun _ _ _ h => h) (Or.inl ⟨by kernel_rfl, ?_⟩) ?_
                    rotate_left
                    · intro w; first | (go_simp; done) | (go_simp; with_reducible rfl)
                    refine wpAny_take (i := 9) (v := undef) rfl (by kernel_rfl) (by kernel_rfl) (by kernel_rfl) (fun _ _ _ h => h) (Or.inr ⟨by kernel_rfl, rfl⟩) ?_
                    go_simp
                    refine wpAny_take (i := 10) (v := undef) rfl (by kernel_rfl) (by kernel_rfl) (by kernel_rfl) (fun _ _ _ h => h) (Or.inr ⟨by kernel_rfl, rfl⟩) ?_
                    go_simp
                    refine wpAny_take (i := 11) (v := undef) rfl (by kernel_rfl) (by kernel_rfl) (by kernel_rfl) (fun _ _ _ h => h) (Or.inr ⟨by kernel_rfl, rfl⟩) ?_
                    go_simp
                    refine wpAny_take (i := 12) (v := undef) rfl (by kernel_rfl) (by kernel_rfl) (by kernel_rfl) (fun _ _ _ h => h) (Or.inr ⟨by kernel_rfl, rfl⟩) ?_
                    go_simp
                    refine wpAny_take (i := 13) (v := undef) rfl (by kernel_rfl) (by kernel_rfl) (by kernel_rfl) (fun _ _ _ h => h) (Or.inr ⟨by kernel_rfl, rfl⟩) ?_
                    go_simp
                    refine wpAny_take (i := 14) (v := undef) rfl (by kernel_rfl) (by kernel_rfl) (by kernel_rfl) (fun _ _ _ h => h) (Or.inr ⟨by kernel_rfl, rfl⟩) ?_
                    go_simp
                    refine wpAny_take (i := 15) (v := undef) rfl (by kernel_rfl) (by kernel_rfl) (by kernel_rfl) (fun _ _ _ h => h) (Or.inr ⟨by kernel_rfl, rfl⟩) ?_
                    go_simp
                    refine wpAny_take (i := 16) (v := undef) rfl (by kernel_rfl) (by kernel_rfl) (by kernel_rfl) (fun _ _ _ h => h) (Or.inr ⟨by kernel_rfl, rfl⟩) ?_
                    go_simp
                    refine wpAny_take (i := 17) (v := ?_) rfl (by kernel_rfl) (by kernel_rfl) (by kernel_rfl) (fun _ _ _ h => h) (Or.inl ⟨by kernel_rfl, ?_⟩) ?_
                    rotate_left
                    · intro w; first | (go_simp; done) | (go_simp; with_reducible rfl)
                    refine wpAny_done (by kernel_rfl) ?_ _
                    have B8 : Below wr.heap.size wr w7 := (by (repeat' (first | (with_reducible exact Below.refl _ _) | (with_reducible assumption) | (with_reducible refine belowNext ?_ (by with_reducible assumption)) | (with_reducible refine belowAlloc ?_ _) | (with_reducible refine Below.drew ?_) | (with_reducible refine below_drewN ?_ _) | (with_reducible refine Below.setCell ?_ ?_ _) | go_size | (with_reducible refine sizeOf' ?_) | (with_reducible refine sizeAdd ?_) | (dsimp only; first | (with_reducible refine sizeOf' ?_) | (with_reducible refine sizeAdd ?_)))))
                    go_wp2_with fail
                    go_meet
                    exact ⟨_, rfl, Lib.hid (by first | exact HG.out | simpa using HG.out), B8⟩
                  · go_simp
                    refine hK _ _ ?_
                    clear hK K
                    refine wpAny_ready (rs := [3]) (by kernel_rfl) (by simp) ?_
                    refine AllReady.cons rfl (fun K hK => ?_) AllReady.nil
                    go_simp
                    refine hK _ _ ?_
                    clear hK K
                    refine wpAny_ready (rs := [7]) (by kernel_rfl) (by simp) ?_
                    refine AllReady.cons rfl (fun K hK => ?_) AllReady.nil
                    go_simp
                    go_wp2_with (go_at_call 92; (with_reducible refine (HX1.out _).mono ?_); rintro e w7 ⟨rfl, hb7⟩)
                    refine wpAny_take (i := 8) (v := ?_) rfl (by kernel_rfl) (by kernel_rfl) (by kernel_rfl) (fun _ _ _ h => h) (Or.inl ⟨by kernel_rfl, ?_⟩) ?_
                    rotate_left
                    · intro w; first | (go_simp; done) | (go_simp; with_reducible rfl)
                    refine wpAny_take (i := 9) (v := undef) rfl (by kernel_rfl) (by kernel_rfl) (by kernel_rfl) (fun _ _ _ h => h) (Or.inr ⟨by kernel_rfl, rfl⟩) ?_
                    go_simp
                    refine wpAny_take (i := 10) (v := undef) rfl (by kernel_rfl) (by kernel_rfl) (by kernel_rfl) (fun _ _ _ h => h) (Or.inr ⟨by kernel_rfl, rfl⟩) ?_
                    go_simp
                    refine wpAny_take (i := 11) (v := undef) rfl (by kernel_rfl) (by kernel_rfl) (by kernel_rfl) (fun _ _ _ h => h) (Or.inr ⟨by kernel_rfl, rfl⟩) ?_
                    go_simp
                    refine wpAny_take (i := 12) (v := undef) rfl (by kernel_rfl) (by kernel_rfl) (by kernel_rfl) (fun _ _ _ h => h) (Or.inr ⟨by kernel_rfl, rfl⟩) ?_
                    go_simp
                    refine wpAny_take (i := 13) (v := undef) rfl (by kernel_rfl) (by kernel_rfl) (by kernel_rfl) (fun _ _ _ h => h) (Or.inr ⟨by kernel_rfl, rfl⟩) ?_
                    go_simp
                    refine wpAny_take (i := 14) (v := undef) rfl (by kernel_rfl) (by kernel_rfl) (by kernel_rfl) (fun _ _ _ h => h) (Or.inr ⟨by kernel_rfl, rfl⟩) ?_
                    go_simp
                    refine wpAny_take (i := 15) (v := undef) rfl (by kernel_rfl) (by kernel_rfl) (by kernel_rfl) (fun _ _ _ h => h) (Or.inr ⟨by kernel_rfl, rfl⟩) ?_
                    go_simp
                    refine wpAny_take (i := 16) (v := undef) rfl (by kernel_rfl) (by kernel_rfl) (by kernel_rfl) (fun _ _ _ h => h) (Or.inr ⟨by kernel_rfl, rfl⟩) ?_
                    go_simp
                    refine wpAny_take (i := 17) (v := ?_) rfl (by kernel_rfl) (by kernel_rfl) (by kernel_rfl) (fun _ _ _ h => h) (Or.inl ⟨by kernel_rfl, ?_⟩) ?_
                    rotate_left
                    · intro w; first | (go_simp; done) | (go_simp; with_reducible rfl)
                    refine wpAny_done (by kernel_rfl) ?_ _
                    have B8 : Below wr.heap.size wr w7 := (by (repeat' (first | (with_reducible exact Below.refl _ _) | (with_reducible assumption) | (with_reducible refine belowNext ?_ (by with_reducible assumption)) | (with_reducible refine belowAlloc ?_ _) | (with_reducible refine Below.drew ?_) | (with_reducible refine below_drewN ?_ _) | (with_reducible refine Below.setCell ?_ ?_ _) | go_size | (with_reducible refine sizeOf' ?_) | (with_reducible refine sizeAdd ?_) | (dsimp only; first | (with_reducible refine sizeOf' ?_) | (with_reducible refine sizeAdd ?_)))))
                    go_wp2_with fail
                    go_meet
                    exact ⟨_, rfl, Lib.hid (by first | exact HG.out | simpa using HG.out), B8⟩
              case rest =>
                obtain ⟨q, hqv, HQ, hB⟩ := hcut
                subst hqv
                have B8 : Below w6.heap.size w6 wc := belowNext hbe hB
                clear HX1 HX2 HE y0 y1 y2 y3 z0 z1 z2 z3 s0 s1 s2 s3 hB hbe hbe3
                cases q
                · go_wp2
                  go_roundw
                  case rel =>
                    refine ⟨k + 1, by omega, by go_num, Lib.hid (fun j y hj hy => ?_), B8⟩
                    by_cases hjk : j = k
                    · subst hjk
                      have p := HX.out
                      rw [p] at hy
                      injection hy with hy
                      rw [← hy]
                      exact fun h => by have := HQ.out.2 h; cases this
                    · exact HY.out j y (by omega) hy
                  case measure => simp [intOf]; omega
                · have HN : Hid (AnyL r (fun y => CrossOne y [(p1, p2, p3, p4), (q1, q2, q3, q4)])) := Lib.hid ⟨k, _, HX.out, HQ.out.1 rfl⟩
                  have B0 : Below w.heap.size w wc := belowNext B3 (belowNext B36 B8)
                  go_wp2
                  go_ret2
                  exact ⟨⟨_, rfl, Lib.hid (.inr (.inr (.inl ⟨H1.out, H2.out, HN.out, rfl⟩)))⟩, B0⟩
            · have HN : Hid (¬ AnyL r (fun y => CrossOne y [(p1, p2, p3, p4), (q1, q2, q3, q4)])) := Lib.hid (fun ⟨i, y, hy, hc⟩ => HY.out i y (by
                rcases Nat.lt_or_ge i r.length with h1 | h1
                · have := HL.out; omega
                · rw [List.getElem?_eq_none h1] at hy; cases hy) hy hc)
              have B0 : Below w.heap.size w wr := belowNext B3 hbe3
              go_wp2
              go_ret2
              exact ⟨⟨_, rfl, Lib.hid (.inr (.inr (.inr ⟨H1.out, H2.out, HN.out, rfl⟩)))⟩, B0⟩
end Go.Proofs.Ytlmgpecfbpcgaaa

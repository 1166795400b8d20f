/-
  Contracts: minor leaves, on the model's side; told by a relation.
  Contracts: pairs of leaves that cross no major; the shorter pair; on the model's side.
  Contracts: a leaf pulled back by a minor leaf, on the model's side.
-/
import Derived.Test.YtlmgpecfbpcgaaaM14
import Derived.Test.YtlmgpecfbpcgaaaM9
import Derived.Test.YtlmgpecfbpcgaaaM10
import Derived.Test.YtlmgpecfbpcgaaaM7
import Derived.Test.YtlmgpecfbpcgaaaV5
import Derived.Test.YtlmgpecfbpcgaaaV17
namespace Go.Proofs.Ytlmgpecfbpcgaaa
open Go.RowKit

/-- Whether a leaf is minor: 0, or the code with which it is refused. -/
def MinIs (x : Lf4) (k : Int) : Prop :=
  (shortX x = false ∧ k = 5) ∨ (shortX x = true ∧ (imF 64 x [] = none ∨ halX x = false) ∧ k = 3) ∨
    (shortX x = true ∧ halX x = true ∧ ∃ r v, imF 64 x [] = some r ∧ FailIs x r (wayXX x) v ∧ ((v ≠ 0 ∧ k = 5) ∨ (v = 0 ∧ k = 0)))
theorem min_one {x : Lf4} {k k' : Int} (h : MinIs x k) (h' : MinIs x k') : k = k' := by
  rcases h with ⟨a, rfl⟩ | ⟨a, b, rfl⟩ | ⟨a, b, r, v, c, d, e⟩ <;> rcases h' with ⟨a', rfl⟩ | ⟨a', b', rfl⟩ | ⟨a', b', r', v', c', d', e'⟩
  · rfl
  · rw [a] at a'; cases a'
  · rw [a] at a'; cases a'
  · rw [a] at a'; cases a'
  · rfl
  · rcases b with b | b
    · rw [b] at c'; cases c'
    · rw [b] at b'; cases b'
  · rw [a] at a'; cases a'
  · rcases b' with b' | b'
    · rw [b'] at c; cases c
    · rw [b] at b'; cases b'
  · rw [c] at c'
    injection c' with c'
    subst c'
    have hv := fail_one d d'
    subst hv
    omega
/-- Which leaves are minor, in three cases. -/
theorem min_cases (x : Lf4) : shortX x = false ∨ (shortX x = true ∧ (imF 64 x [] = none ∨ halX x = false)) ∨ (shortX x = true ∧ halX x = true ∧ ∃ r, imF 64 x [] = some r) := by
  cases h : shortX x
  · exact .inl rfl
  · cases h2 : halX x
    · exact .inr (.inl ⟨rfl, .inr rfl⟩)
    · cases h3 : imF 64 x [] with
      | none => exact .inr (.inl ⟨rfl, .inl rfl⟩)
      | some r => exact .inr (.inr ⟨rfl, rfl, r, rfl⟩)
/-- The majors of a minor leaf, or the code. -/
def ResMin (w : World) (x : Lf4) (e : Ending) (w' : World) : Prop :=
  (∃ k : Int, e = .returned (.tuple #[.slice none 0 0, .int .i64 k]) ∧ k ≠ 0 ∧ Hid (MinIs x k) ∧ Below w.heap.size w w') ∨
    (∃ A, e = .returned (.tuple #[.slice A 2 2, .int .i64 0]) ∧ Hid (MinIs x 0) ∧ LfOwn w' w.heap.size A (wayXX x) ∧ halX x = true ∧ Below w.heap.size w w')

set_option maxHeartbeats 1000000 in
theorem specMinor (a b c d : Int) (w : World) (h : isLf a b c d = true) : Calls Try.prog 64 #[leafV a b c d] w (ResMin w (a, b, c, d)) := by
  rcases min_cases (a, b, c, d) with h2 | ⟨h2, h3⟩ | ⟨h2, h4, r, hf⟩
  · have HV : Hid (MinIs (a, b, c, d) 5) := Lib.hid (.inl ⟨h2, rfl⟩)
    have H2 := Lib.hid (fun w => specFailsLong a b c d w h h2)
    clear h h2
    go_enter Try.func64, Try.ntmps64
    go_wp2_with fail
    refine (H2.out _).mono ?_
    rintro e w1 ⟨rfl, hb1⟩
    obtain ⟨hc1, hf1⟩ := bcell hb1
    have hz1_0 : w.heap.size < w1.heap.size := by have := hb1.size; first | omega | (simp at this; omega)
    go_wp2
    go_ret2
    refine .inl ⟨5, rfl, by omega, HV, ?_⟩
    (repeat' (first | (with_reducible exact Below.refl _ _) | (with_reducible assumption) | (with_reducible refine belowNext ?_ (by with_reducible assumption)) | (with_reducible refine belowAlloc ?_ _) | (with_reducible refine Below.drew ?_) | (with_reducible refine below_drewN ?_ _) | (with_reducible refine Below.setCell ?_ ?_ _) | go_size | (with_reducible refine sizeOf' ?_) | (with_reducible refine sizeAdd ?_) | (dsimp only; first | (with_reducible refine sizeOf' ?_) | (with_reducible refine sizeAdd ?_))))
  · have HV : Hid (MinIs (a, b, c, d) 3) := Lib.hid (.inr (.inl ⟨h2, h3, rfl⟩))
    have H2 := Lib.hid (fun w => specFailsNo a b c d w h h2 h3)
    clear h h2 h3
    go_enter Try.func64, Try.ntmps64
    go_wp2_with fail
    refine (H2.out _).mono ?_
    rintro e w1 ⟨rfl, hb1⟩
    obtain ⟨hc1, hf1⟩ := bcell hb1
    have hz1_0 : w.heap.size < w1.heap.size := by have := hb1.size; first | omega | (simp at this; omega)
    go_wp2
    go_ret2
    refine .inl ⟨3, rfl, by omega, HV, ?_⟩
    (repeat' (first | (with_reducible exact Below.refl _ _) | (with_reducible assumption) | (with_reducible refine belowNext ?_ (by with_reducible assumption)) | (with_reducible refine belowAlloc ?_ _) | (with_reducible refine Below.drew ?_) | (with_reducible refine below_drewN ?_ _) | (with_reducible refine Below.setCell ?_ ?_ _) | go_size | (with_reducible refine sizeOf' ?_) | (with_reducible refine sizeAdd ?_) | (dsimp only; first | (with_reducible refine sizeOf' ?_) | (with_reducible refine sizeAdd ?_))))
  · have HV : Hid (∀ v, FailIs (a, b, c, d) r (wayX a b c d) v → (v ≠ 0 → MinIs (a, b, c, d) 5) ∧ (v = 0 → MinIs (a, b, c, d) 0)) := Lib.hid (fun v hv =>
      ⟨fun hn => .inr (.inr ⟨h2, h4, r, v, hf, hv, .inl ⟨hn, rfl⟩⟩), fun hn => .inr (.inr ⟨h2, h4, r, v, hf, hv, .inr ⟨hn, rfl⟩⟩)⟩)
    have H2 := Lib.hid (fun w => specFails a b c d w h h2 r hf h4)
    have HM := Lib.hid (fun w => specMj a b c d w h h4)
    have HH := Lib.hid h4
    clear h h2 h4 hf
    go_enter Try.func64, Try.ntmps64
    go_wp2_with fail
    refine (H2.out _).mono ?_
    rintro e w1 ⟨⟨v, rfl, HF⟩, hb1⟩
    obtain ⟨hc1, hf1⟩ := bcell hb1
    have hz1_0 : w.heap.size < w1.heap.size := by have := hb1.size; first | omega | (simp at this; omega)
    have q1_0_0 : w1.cell? ⟨w.heap.size, 0, none⟩ = some (.int .i64 a) := cellThru hb1 (by simp <;> omega) (by simp [go_sem])
    have q1_0_1 : w1.cell? ⟨w.heap.size, 1, none⟩ = some (.int .i64 b) := cellThru hb1 (by simp <;> omega) (by simp [go_sem])
    have q1_0_2 : w1.cell? ⟨w.heap.size, 2, none⟩ = some (.int .i64 c) := cellThru hb1 (by simp <;> omega) (by simp [go_sem])
    have q1_0_3 : w1.cell? ⟨w.heap.size, 3, none⟩ = some (.int .i64 d) := cellThru hb1 (by simp <;> omega) (by simp [go_sem])
    obtain ⟨HV1, HV2⟩ := HV.out v HF.out
    by_cases hv : v = 0
    · have HW := Lib.hid (HV2 hv)
      subst hv
      clear HV1 HV2 HF HV
      go_wp2_with fail
      refine (HM.out _).mono ?_
      rintro e w2 ⟨A, rfl, ho, hb2⟩
      obtain ⟨hc2, hf2⟩ := bcell hb2
      have hz2_0 : w.heap.size < w2.heap.size := by have := hb2.size; first | omega | (simp at this; omega)
      have HO := Lib.hid ho
      clear ho
      go_wp2
      go_ret2
      refine .inr ⟨A, rfl, HW, HO.out.loM (by have := hz1_0; omega), HH.out, ?_⟩
      (repeat' (first | (with_reducible exact Below.refl _ _) | (with_reducible assumption) | (with_reducible refine belowNext ?_ (by with_reducible assumption)) | (with_reducible refine belowAlloc ?_ _) | (with_reducible refine Below.drew ?_) | (with_reducible refine below_drewN ?_ _) | (with_reducible refine Below.setCell ?_ ?_ _) | go_size | (with_reducible refine sizeOf' ?_) | (with_reducible refine sizeAdd ?_) | (dsimp only; first | (with_reducible refine sizeOf' ?_) | (with_reducible refine sizeAdd ?_))))
    · have HW := Lib.hid (HV1 hv)
      clear HV1 HV2 HF HV
      go_wp2
      go_ret2
      refine .inl ⟨5, rfl, by omega, HW, ?_⟩
      (repeat' (first | (with_reducible exact Below.refl _ _) | (with_reducible assumption) | (with_reducible refine belowNext ?_ (by with_reducible assumption)) | (with_reducible refine belowAlloc ?_ _) | (with_reducible refine Below.drew ?_) | (with_reducible refine below_drewN ?_ _) | (with_reducible refine Below.setCell ?_ ?_ _) | go_size | (with_reducible refine sizeOf' ?_) | (with_reducible refine sizeAdd ?_) | (dsimp only; first | (with_reducible refine sizeOf' ?_) | (with_reducible refine sizeAdd ?_))))

/-- No leaf of P crosses one of J. -/
def freeB (P J : List Lf4) : Bool := P.all (fun x => J.all (fun y => !crossX x y))
theorem freeB_iff {P J : List Lf4} : freeB P J = true ↔ ∀ (u t : Nat) (x y : Lf4), P[u]? = some x → J[t]? = some y → crossX x y = false := by
  unfold freeB
  rw [List.all_eq_true]
  constructor
  · intro h u t x y hx hy
    have := h x (List.mem_of_getElem? hx)
    rw [List.all_eq_true] at this
    have := this y (List.mem_of_getElem? hy)
    simpa using this
  · intro h x hx
    rw [List.all_eq_true]
    intro y hy
    obtain ⟨u, hu⟩ := List.getElem?_of_mem hx
    obtain ⟨t, ht⟩ := List.getElem?_of_mem hy
    rw [h u t x y hu ht]
    rfl

set_option maxRecDepth 8000 in
set_option maxHeartbeats 4000000 in
theorem specFree (A B : Option Addr) (P J : List Lf4) (w : World) (hA : LfRow w w.heap.size A P) (hB : LfRow w w.heap.size B J) (hP : P.length = 2) (hJ : J.length = 2) (hp : allLf P = true) (hj : allLf J = true) :
    Calls Try.prog 108 #[.slice A 2 2, .slice B 2 2] w fun e w' => e = .returned (.bool (freeB P J)) ∧ Below w.heap.size w w' := by
  obtain ⟨bp, op, rfl, hbp, hcp⟩ := row_at hA (by intro h; rw [h] at hP; cases hP)
  obtain ⟨bj, oj, rfl, hbj, hcj⟩ := row_at hB (by intro h; rw [h] at hJ; cases hJ)
  have HLP := Lib.hid hP
  have HLJ := Lib.hid hJ
  have HP := Lib.hid hp
  have HJ := Lib.hid hj
  have HCP := Lib.hid hcp
  have HCJ := Lib.hid hcj
  have HF := Lib.hid (@freeB_iff P J)
  generalize freeB P J = R at *
  clear hA hB hP hJ hp hj hcp hcj
  go_enter Try.func108, Try.ntmps108
  go_wp2
  go_loopw [5] (fun i wr => ∃ k : Nat, k ≤ 2 ∧ i = .int .i64 k ∧ Hid (∀ (u t : Nat) (x y : Lf4), u < k → P[u]? = some x → J[t]? = some y → crossX x y = false) ∧ Below w.heap.size w wr) (fun i _ => 2 - (intOf i).toNat)
  case atStart => exact ⟨0, by omega, rfl, Lib.hid (fun u t x y hu => absurd hu (by omega)), Below.refl _ _⟩
  case round =>
    obtain ⟨k, hk, rfl, HY, hbe⟩ := hrel
    by_cases hlt : k < 2
    · obtain ⟨n, d', m, c', hx⟩ := lfAt (l := P) (k := k) (by have := HLP.out; omega)
      have HX := Lib.hid hx
      clear hx
      have hltI : (k : Int) < 2 := by omega
      go_wp2
      go_loopw [6] (fun i wi => ∃ t : Nat, t ≤ 2 ∧ i = .int .i64 t ∧ Hid (∀ (u : Nat) (y : Lf4), u < t → J[u]? = some y → crossX (n, d', m, c') y = false) ∧ Below w.heap.size w wi) (fun i _ => 2 - (intOf i).toNat)
      case atStart => exact ⟨0, by omega, rfl, Lib.hid (fun u y h => absurd h (by omega)), hbe⟩
      case round =>
        obtain ⟨t, ht, rfl, HT, hbi⟩ := hrel
        by_cases htk : t < 2
        · obtain ⟨p, p', s, s', hy⟩ := lfAt (l := J) (k := t) (by have := HLJ.out; omega)
          obtain ⟨x0, x1, x2, x3⟩ := (HCP.out k n d' m c' HX.out).next hbi hbp
          obtain ⟨y0, y1, y2, y3⟩ := (HCJ.out t p p' s s' hy).next hbi hbj
          have HCr := Lib.hid (fun w => specCross n d' m c' p p' s s' w (allLf_at HP.out HX.out) (allLf_at HJ.out hy))
          have HW := Lib.hid hy
          have HE : Hid (crossB n d' m c' p p' s s' = crossX (n, d', m, c') (p, p', s, s')) := Lib.hid rfl
          have htkI : (t : Int) < 2 := by omega
          clear hy
          cases hq : crossB n d' m c' p p' s s'
          · rw [hq] at HCr
            have HZ := Lib.hid (HE.out.symm.trans hq)
            clear hq HE
            go_wp2_with fail
            go_region_with (first | (go_at_call 92; (with_reducible refine (HCr.out _).mono ?_); rintro e w4 ⟨rfl, hb4⟩))
            all_goals
              have B4 : Below w.heap.size w w4 := by
                (repeat' (first | (with_reducible exact Below.refl _ _) | (with_reducible assumption) | (with_reducible refine belowNext ?_ (by with_reducible assumption)) | (with_reducible refine belowAlloc ?_ _) | (with_reducible refine Below.drew ?_) | (with_reducible refine below_drewN ?_ _) | (with_reducible refine Below.setCell ?_ ?_ _) | go_size | (with_reducible refine sizeOf' ?_) | (with_reducible refine sizeAdd ?_) | (dsimp only; first | (with_reducible refine sizeOf' ?_) | (with_reducible refine sizeAdd ?_))))
              clear x0 x1 x2 x3 y0 y1 y2 y3 hb4 hbi
              go_wp2
              go_roundw
              case rel =>
                refine ⟨t + 1, by omega, by go_num, Lib.hid (fun u y hu hyu => ?_), B4⟩
                by_cases hut : u = t
                · subst hut
                  have := HW.out
                  rw [this] at hyu
                  injection hyu with hyu
                  rw [← hyu]; exact HZ.out
                · exact HT.out u y (by omega) hyu
              case measure => simp [intOf]; omega
          · rw [hq] at HCr
            have HN : Hid (R = false) := Lib.hid (by
              cases hR : R
              · rfl
              · have := HF.out.1 hR k t _ _ HX.out HW.out
                rw [← HE.out, hq] at this; cases this)
            clear hq HE
            go_wp2_with fail
            go_region_with (first | (go_at_call 92; (with_reducible refine (HCr.out _).mono ?_); rintro e w4 ⟨rfl, hb4⟩))
            all_goals
              have B4 : Below w.heap.size w w4 := by
                (repeat' (first | (with_reducible exact Below.refl _ _) | (with_reducible assumption) | (with_reducible refine belowNext ?_ (by with_reducible assumption)) | (with_reducible refine belowAlloc ?_ _) | (with_reducible refine Below.drew ?_) | (with_reducible refine below_drewN ?_ _) | (with_reducible refine Below.setCell ?_ ?_ _) | go_size | (with_reducible refine sizeOf' ?_) | (with_reducible refine sizeAdd ?_) | (dsimp only; first | (with_reducible refine sizeOf' ?_) | (with_reducible refine sizeAdd ?_))))
              clear x0 x1 x2 x3 y0 y1 y2 y3 hb4 hbi
              go_wp2
              go_ret
              exact ⟨retB HN.out.symm, B4⟩
        · obtain rfl : t = 2 := by omega
          go_wp2
          go_roundw
          case rel =>
            refine ⟨k + 1, by omega, by go_num, Lib.hid (fun u t x y hu hx hy => ?_), hbi⟩
            by_cases huk : u = k
            · subst huk
              have := HX.out
              rw [this] at hx
              injection hx with hx
              rw [← hx]
              exact HT.out t y (by
                rcases Nat.lt_or_ge t J.length with h1 | h1
                · have := HLJ.out; omega
                · rw [List.getElem?_eq_none h1] at hy; cases hy) hy
            · exact HY.out u t x y (by omega) hx hy
          case measure => simp [intOf]; omega
    · have HR : Hid (R = true) := Lib.hid (HF.out.2 (fun u t x y hx hy => HY.out u t x y (by
        rcases Nat.lt_or_ge u P.length with h1 | h1
        · have := HLP.out; omega
        · rw [List.getElem?_eq_none h1] at hx; cases hx) hx hy))
      obtain rfl : k = 2 := by omega
      go_wp2
      go_ret
      exact ⟨retB HR.out.symm, hbe⟩

theorem keepL8 {wb W w1 : World} {b1 o1 b2 o2 : Nat} {x0 x1 x2 x3 y0 y1 y2 y3 : Int} (hb : Below W.heap.size W w1)
    (H : b1 < W.heap.size ∧ b2 < W.heap.size ∧ Below wb.heap.size wb W ∧ W.cell? ⟨b1, o1, none⟩ = some (.int .i64 x0) ∧ W.cell? ⟨b1, o1 + 1, none⟩ = some (.int .i64 x1) ∧ W.cell? ⟨b1, o1 + 2, none⟩ = some (.int .i64 x2) ∧ W.cell? ⟨b1, o1 + 2 + 1, none⟩ = some (.int .i64 x3) ∧ W.cell? ⟨b2, o2, none⟩ = some (.int .i64 y0) ∧ W.cell? ⟨b2, o2 + 1, none⟩ = some (.int .i64 y1) ∧ W.cell? ⟨b2, o2 + 2, none⟩ = some (.int .i64 y2) ∧ W.cell? ⟨b2, o2 + 2 + 1, none⟩ = some (.int .i64 y3)) :
    b1 < w1.heap.size ∧ b2 < w1.heap.size ∧ Below wb.heap.size wb w1 ∧ w1.cell? ⟨b1, o1, none⟩ = some (.int .i64 x0) ∧ w1.cell? ⟨b1, o1 + 1, none⟩ = some (.int .i64 x1) ∧ w1.cell? ⟨b1, o1 + 2, none⟩ = some (.int .i64 x2) ∧ w1.cell? ⟨b1, o1 + 2 + 1, none⟩ = some (.int .i64 x3) ∧ w1.cell? ⟨b2, o2, none⟩ = some (.int .i64 y0) ∧ w1.cell? ⟨b2, o2 + 1, none⟩ = some (.int .i64 y1) ∧ w1.cell? ⟨b2, o2 + 2, none⟩ = some (.int .i64 y2) ∧ w1.cell? ⟨b2, o2 + 2 + 1, none⟩ = some (.int .i64 y3) := by
  obtain ⟨z0, z1, hB, h0, h1, h2, h3, h4, h5, h6, h7⟩ := H
  have hs := hb.size
  exact ⟨by omega, by omega, belowNext hB hb, cellThru hb z0 h0, cellThru hb z0 h1, cellThru hb z0 h2, cellThru hb z0 h3, cellThru hb z1 h4, cellThru hb z1 h5, cellThru hb z1 h6, cellThru hb z1 h7⟩

set_option maxRecDepth 8000 in
set_option maxHeartbeats 4000000 in
theorem specLs (b1 o1 b2 o2 : Nat) (a b c d e f g h : Int) (w : World) (h1 : isLf a b c d = true) (h2 : isLf e f g h = true) (z1 : b1 < w.heap.size) (z2 : b2 < w.heap.size) (c1 : Cells4 w b1 o1 a b c d) (c2 : Cells4 w b2 o2 e f g h) :
    Calls Try.prog 109 #[.slice (some ⟨b1, o1, none⟩) 2 2, .slice (some ⟨b2, o2, none⟩) 2 2] w fun e' w' => e' = .returned (.bool (lngB (a, b, c, d) (e, f, g, h))) ∧ Below w.heap.size w w' := by
  obtain ⟨r1, r2, -⟩ := isLf_yes h1
  obtain ⟨r3, r4, -⟩ := isLf_yes h2
  have HD1 : Hid (∀ w, Calls Try.prog 46 #[ang a b, ang c d] w fun e w' => e = .returned (ang (dsN a b c d) (dsD a b c d)) ∧ Below w.heap.size w w') := Lib.hid (fun w => specDist1 a b c d w (okOf r1) (okOf r2))
  have HD2 : Hid (∀ w, Calls Try.prog 46 #[ang e f, ang g h] w fun e' w' => e' = .returned (ang (dsN e f g h) (dsD e f g h)) ∧ Below w.heap.size w w') := Lib.hid (fun w => specDist1 e f g h w (okOf r3) (okOf r4))
  have HLs : Hid (∀ w, Calls Try.prog 53 #[ang (dsN a b c d) (dsD a b c d), ang (dsN e f g h) (dsD e f g h)] w fun e' w' => e' = .returned (.bool (lngB (a, b, c, d) (e, f, g, h))) ∧ Below w.heap.size w w') := Lib.hid (fun w =>
    specLessW _ _ _ _ w (ds_W (okOf r1) (okOf r2)) (ds_W (okOf r3) (okOf r4)))
  generalize lngB (a, b, c, d) (e, f, g, h) = R at *
  generalize dsN a b c d = u1 at *
  generalize dsD a b c d = u2 at *
  generalize dsN e f g h = v1 at *
  generalize dsD e f g h = v2 at *
  obtain ⟨x0, x1, x2, x3⟩ := c1
  obtain ⟨y0, y1, y2, y3⟩ := c2
  have H0 : b1 < w.drew.heap.size ∧ b2 < w.drew.heap.size ∧ Below w.heap.size w w.drew ∧ w.drew.cell? ⟨b1, o1, none⟩ = some (.int .i64 a) ∧ w.drew.cell? ⟨b1, o1 + 1, none⟩ = some (.int .i64 b) ∧ w.drew.cell? ⟨b1, o1 + 2, none⟩ = some (.int .i64 c) ∧ w.drew.cell? ⟨b1, o1 + 2 + 1, none⟩ = some (.int .i64 d) ∧ w.drew.cell? ⟨b2, o2, none⟩ = some (.int .i64 e) ∧ w.drew.cell? ⟨b2, o2 + 1, none⟩ = some (.int .i64 f) ∧ w.drew.cell? ⟨b2, o2 + 2, none⟩ = some (.int .i64 g) ∧ w.drew.cell? ⟨b2, o2 + 2 + 1, none⟩ = some (.int .i64 h) := ⟨z1, z2, (Below.refl _ _).drew, x0, x1, x2, x3, y0, y1, y2, y3⟩
  clear r1 r2 r3 r4 h1 h2 x0 x1 x2 x3 y0 y1 y2 y3
  go_enter Try.func109, Try.ntmps109
  go_wp2_with fail
  go_region_held3 (fun W' => b1 < W'.heap.size ∧ b2 < W'.heap.size ∧ Below w.heap.size w W' ∧ W'.cell? ⟨b1, o1, none⟩ = some (.int .i64 a) ∧ W'.cell? ⟨b1, o1 + 1, none⟩ = some (.int .i64 b) ∧ W'.cell? ⟨b1, o1 + 2, none⟩ = some (.int .i64 c) ∧ W'.cell? ⟨b1, o1 + 2 + 1, none⟩ = some (.int .i64 d) ∧ W'.cell? ⟨b2, o2, none⟩ = some (.int .i64 e) ∧ W'.cell? ⟨b2, o2 + 1, none⟩ = some (.int .i64 f) ∧ W'.cell? ⟨b2, o2 + 2, none⟩ = some (.int .i64 g) ∧ W'.cell? ⟨b2, o2 + 2 + 1, none⟩ = some (.int .i64 h))
    (first | with_reducible exact keepL8 (by with_reducible assumption) (by with_reducible assumption) | with_reducible exact H0)
    (first
    | (go_at_call 46; (with_reducible refine (HD1.out _).mono ?_); rintro e' w7 ⟨rfl, hb7⟩)
    | (go_at_call 46; (with_reducible refine (HD2.out _).mono ?_); rintro e' w8 ⟨rfl, hb8⟩)
    | (go_at_call 53; (with_reducible refine (HLs.out _).mono ?_); rintro e' w9 ⟨rfl, hb9⟩))
  all_goals
    rename_i hHeld
    go_wp2
    go_ret
    exact ⟨rfl, hHeld.2.2.1⟩

def wayAA (x : Lf4) : List Lf4 := wayA x.1 x.2.1 x.2.2.1 x.2.2.2
def hdL (l : List Lf4) : Lf4 := l.headD (0, 1, 0, 1)
/-- The two leaves that arise, and the code: J the majors. -/
def backL (x m : Lf4) (J : List Lf4) : List Lf4 :=
  if x = m then J else if halX x then (if freeB (wayAA x) J then (if freeB (wayXX x) J then (if lngB (hdL (wayAA x)) (hdL (wayXX x)) then wayAA x else wayXX x) else wayAA x) else (if freeB (wayXX x) J then wayXX x else [])) else []
def backC (x m : Lf4) (J : List Lf4) : Int :=
  if x = m then 0 else if halX x then (if freeB (wayAA x) J then 0 else (if freeB (wayXX x) J then 0 else 5)) else 3
theorem back_same {x m : Lf4} {J : List Lf4} (h : x = m) : backL x m J = J ∧ backC x m J = 0 := by unfold backL backC; simp [h]
theorem back_far {x m : Lf4} {J : List Lf4} (h : ¬ x = m) (h2 : halX x = false) : backL x m J = [] ∧ backC x m J = 3 := by unfold backL backC; simp [h, h2]
theorem back_yn {x m : Lf4} {J : List Lf4} (h : ¬ x = m) (h2 : halX x = true) (h3 : freeB (wayAA x) J = true) (h4 : freeB (wayXX x) J = false) : backL x m J = wayAA x ∧ backC x m J = 0 := by unfold backL backC; simp [h, h2, h3, h4]
theorem back_ny {x m : Lf4} {J : List Lf4} (h : ¬ x = m) (h2 : halX x = true) (h3 : freeB (wayAA x) J = false) (h4 : freeB (wayXX x) J = true) : backL x m J = wayXX x ∧ backC x m J = 0 := by unfold backL backC; simp [h, h2, h3, h4]
theorem back_nn {x m : Lf4} {J : List Lf4} (h : ¬ x = m) (h2 : halX x = true) (h3 : freeB (wayAA x) J = false) (h4 : freeB (wayXX x) J = false) : backL x m J = [] ∧ backC x m J = 5 := by unfold backL backC; simp [h, h2, h3, h4]
theorem back_yyl {x m : Lf4} {J : List Lf4} (h : ¬ x = m) (h2 : halX x = true) (h3 : freeB (wayAA x) J = true) (h4 : freeB (wayXX x) J = true) (h5 : lngB (hdL (wayAA x)) (hdL (wayXX x)) = true) : backL x m J = wayAA x ∧ backC x m J = 0 := by unfold backL backC; simp [h, h2, h3, h4, h5]
theorem back_yyg {x m : Lf4} {J : List Lf4} (h : ¬ x = m) (h2 : halX x = true) (h3 : freeB (wayAA x) J = true) (h4 : freeB (wayXX x) J = true) (h5 : lngB (hdL (wayAA x)) (hdL (wayXX x)) = false) : backL x m J = wayXX x ∧ backC x m J = 0 := by unfold backL backC; simp [h, h2, h3, h4, h5]

theorem half_last {a b c d : Int} (r1 : Red (a, b)) (r2 : Red (c, d)) (h : ltA a b c d = true) : ltA (redN (a + b) (2 * b)) (redD (a + b) (2 * b)) (redN (c + d) (2 * d)) (redD (c + d) (2 * d)) = true := by
  obtain ⟨a1, -, a3, a4, -⟩ := r1
  obtain ⟨b1, -, b3, b4, -⟩ := r2
  dsimp only at *
  have h' := of_decide_eq_true h
  refine lt_halves (by omega) (by omega) (by omega) (by omega) ?_
  have e1 : (a + b) * (2 * d) = 2 * (a * d) + 2 * (b * d) := by rw [Int.add_mul]; congr 1 <;> ac_rfl
  have e2 : (c + d) * (2 * b) = 2 * (c * b) + 2 * (d * b) := by rw [Int.add_mul]; congr 1 <;> ac_rfl
  have e3 : d * b = b * d := Int.mul_comm ..
  omega
theorem wayA_lf {a b c d : Int} (h : isLf a b c d = true) (h3 : pbHal a b c d = true) : allLf (wayA a b c d) = true := by
  obtain ⟨r1, r2, hlt⟩ := isLf_yes h
  obtain ⟨t2, -, -⟩ := half_order r1 r2 hlt
  have t3 := half_last r1 r2 hlt
  have j1 : halOk a b = true := by unfold pbHal at h3; rw [Bool.and_eq_true] at h3; exact h3.1
  have j2 : halOk c d = true := by unfold pbHal at h3; rw [Bool.and_eq_true] at h3; exact h3.2
  have g1 : redD a (2 * b) ≤ 8191 ∧ redD (a + b) (2 * b) ≤ 8191 := by unfold halOk at j1; exact of_decide_eq_true j1
  have g2 : redD c (2 * d) ≤ 8191 ∧ redD (c + d) (2 * d) ≤ 8191 := by unfold halOk at j2; exact of_decide_eq_true j2
  have b1 := r1.1
  have b2 := r2.1
  dsimp only at b1 b2
  have k1 := angOf (red_is (show 0 < 2 * b by omega) g1.1)
  have k2 := angOf (red_is (show 0 < 2 * b by omega) g1.2)
  have k3 := angOf (red_is (show 0 < 2 * d by omega) g2.1)
  have k4 := angOf (red_is (show 0 < 2 * d by omega) g2.2)
  unfold allLf wayA
  simp only [List.all_cons, List.all_nil, Bool.and_true, Bool.and_eq_true]
  unfold isLf
  rw [k1, k2, k3, k4, t2, t3]
  exact ⟨rfl, rfl⟩

/-- Two leaves, or a code. -/
def ResBk (w : World) (L : List Lf4) (C : Int) (e : Ending) (w' : World) : Prop :=
  (C = 0 ∧ L.length = 2 ∧ ∃ A, e = .returned (.tuple #[.slice A 2 2, .int .i64 0]) ∧ LfRow w' w'.heap.size A L ∧ Below w.heap.size w w') ∨
    (C ≠ 0 ∧ L = [] ∧ e = .returned (.tuple #[.slice none 0 0, .int .i64 C]) ∧ Below w.heap.size w w')

set_option maxHeartbeats 2000000 in
theorem specBack0 (a b c d e f g h : Int) (JA : Option Addr) (J : List Lf4) (w : World) (h1 : isLf a b c d = true) (hJ : J.length = 2) (hr : LfRow w w.heap.size JA J) (hn : ((a, b, c, d) : Lf4) = (e, f, g, h) ∨ pbHal a b c d = false) :
    Calls Try.prog 65 #[leafV a b c d, leafV e f g h, .slice JA 2 2] w (ResBk w (backL (a, b, c, d) (e, f, g, h) J) (backC (a, b, c, d) (e, f, g, h) J)) := by
  have Q1 := fun W => eqlLf a b c d e f g h W
  cases hq : eqL a b c d e f g h
  · rw [hq] at Q1
    have hne : ¬ ((a, b, c, d) : Lf4) = (e, f, g, h) := fun hh => by
      injection hh with p1 hh
      injection hh with p2 hh
      injection hh with p3 p4
      have := (eqL_iff a b c d e f g h).2 ⟨p1, p2, p3, p4⟩
      rw [hq] at this; cases this
    have h3 : pbHal a b c d = false := hn.resolve_left hne
    obtain ⟨E1, E2⟩ := back_far (J := J) hne (show halX (a, b, c, d) = false from h3)
    rw [E1, E2]
    obtain ⟨r1, r2, -⟩ := isLf_yes h1
    have HX := Lib.hid (fun w => specHal3 a b w (okOf r1))
    have HY := Lib.hid (fun w => specHal3 c d w (okOf r2))
    unfold pbHal at h3
    clear r1 r2 E1 E2 hne hq h1 hn hr hJ
    generalize redN a (2 * b) = x0 at *
    generalize redD a (2 * b) = y0 at *
    generalize redN (a + b) (2 * b) = x1 at *
    generalize redD (a + b) (2 * b) = y1 at *
    generalize redN c (2 * d) = u0 at *
    generalize redD c (2 * d) = v0 at *
    generalize redN (c + d) (2 * d) = u1 at *
    generalize redD (c + d) (2 * d) = v1 at *
    generalize halOk a b = K1 at *
    generalize halOk c d = K2 at *
    cases K1 <;> cases K2
    case true.true => cases h3
    all_goals
      clear h3
      go_enter Try.func65, Try.ntmps65
      go_wp2_with fail
      refine (HX.out _).mono ?_
      rintro e w1 ⟨rfl, hb1⟩
      obtain ⟨hc1, hf1⟩ := bcell hb1
      have hz1_0 : w.heap.size < w1.heap.size := by have := hb1.size; first | omega | (simp at this; omega)
      have hz1_1 : w.heap.size + 1 < w1.heap.size := by have := hb1.size; first | omega | (simp at this; omega)
      go_wp2_with fail
      refine (HY.out _).mono ?_
      rintro e' w2 ⟨rfl, hb2⟩
      go_wp2
      go_ret2
      refine .inr ⟨by omega, rfl, rfl, ?_⟩
      (repeat' (first | (with_reducible exact Below.refl _ _) | (with_reducible assumption) | (with_reducible refine belowNext ?_ (by with_reducible assumption)) | (with_reducible refine belowAlloc ?_ _) | (with_reducible refine Below.drew ?_) | (with_reducible refine below_drewN ?_ _) | (with_reducible refine Below.setCell ?_ ?_ _) | go_size | (with_reducible refine sizeOf' ?_) | (with_reducible refine sizeAdd ?_) | (dsimp only; first | (with_reducible refine sizeOf' ?_) | (with_reducible refine sizeAdd ?_))))
  · rw [hq] at Q1
    obtain ⟨rfl, rfl, rfl, rfl⟩ := (eqL_iff ..).1 hq
    obtain ⟨E1, E2⟩ := back_same (J := J) (rfl : ((a, b, c, d) : Lf4) = (a, b, c, d))
    rw [E1, E2]
    have HR := Lib.hid hr
    have HLJ := Lib.hid hJ
    clear hr hJ E1 E2 h1 hn hq
    go_enter Try.func65, Try.ntmps65
    go_wp2
    go_ret2
    have B : Below w.heap.size w ((w.alloc (.cells #[.int .i64 a, .int .i64 b, .int .i64 c, .int .i64 d] 34)).alloc (.cells #[.int .i64 a, .int .i64 b, .int .i64 c, .int .i64 d] 34)) := by
      (repeat' (first | (with_reducible exact Below.refl _ _) | (with_reducible assumption) | (with_reducible refine belowNext ?_ (by with_reducible assumption)) | (with_reducible refine belowAlloc ?_ _) | (with_reducible refine Below.drew ?_) | (with_reducible refine below_drewN ?_ _) | (with_reducible refine Below.setCell ?_ ?_ _) | go_size | (with_reducible refine sizeOf' ?_) | (with_reducible refine sizeAdd ?_) | (dsimp only; first | (with_reducible refine sizeOf' ?_) | (with_reducible refine sizeAdd ?_))))
    exact .inl ⟨rfl, HLJ.out, JA, rfl, HR.out.next B, B⟩

theorem pairRows {w W : World} {A : Option Addr} {l : List Lf4} (h : LfOwn W w.heap.size A l) {W' : World} (hb : Below W.heap.size W W') : LfRow W' W'.heap.size A l := (h.next hb).row

set_option maxRecDepth 8000 in
set_option maxHeartbeats 8000000 in
theorem specBack1 (a b c d e f g h : Int) (JA : Option Addr) (J : List Lf4) (w : World) (h1 : isLf a b c d = true) (hJ : J.length = 2) (hj : allLf J = true) (hr : LfRow w w.heap.size JA J) (hn : ¬ ((a, b, c, d) : Lf4) = (e, f, g, h)) (h3 : pbHal a b c d = true) :
    Calls Try.prog 65 #[leafV a b c d, leafV e f g h, .slice JA 2 2] w (ResBk w (backL (a, b, c, d) (e, f, g, h) J) (backC (a, b, c, d) (e, f, g, h) J)) := by
  have Q1 := fun W => eqlLf a b c d e f g h W
  have hq : eqL a b c d e f g h = false := by
    cases hq : eqL a b c d e f g h
    · rfl
    · obtain ⟨rfl, rfl, rfl, rfl⟩ := (eqL_iff ..).1 hq
      exact absurd rfl hn
  rw [hq] at Q1
  obtain ⟨r1, r2, hlt⟩ := isLf_yes h1
  have HX := Lib.hid (fun w => specHal3 a b w (okOf r1))
  have HY := Lib.hid (fun w => specHal3 c d w (okOf r2))
  have j1 : halOk a b = true := by unfold pbHal at h3; rw [Bool.and_eq_true] at h3; exact h3.1
  have j2 : halOk c d = true := by unfold pbHal at h3; rw [Bool.and_eq_true] at h3; exact h3.2
  have g1 : redD a (2 * b) ≤ 8191 ∧ redD (a + b) (2 * b) ≤ 8191 := by unfold halOk at j1; exact of_decide_eq_true j1
  have g2 : redD c (2 * d) ≤ 8191 ∧ redD (c + d) (2 * d) ≤ 8191 := by unfold halOk at j2; exact of_decide_eq_true j2
  have ok : ∀ n m, 0 < m → redD n m ≤ 8191 → angOk (redN n m) (redD n m) := fun n m hm hr => by
    obtain ⟨t1, t2, t3, t4⟩ := redBd n m hm
    exact ⟨t3, hr, t1, t2⟩
  have o1 := ok a (2 * b) (by have := r1.1; dsimp only at this; omega) g1.1
  have o2 := ok (a + b) (2 * b) (by have := r1.1; dsimp only at this; omega) g1.2
  have o3 := ok c (2 * d) (by have := r2.1; dsimp only at this; omega) g2.1
  have o4 := ok (c + d) (2 * d) (by have := r2.1; dsimp only at this; omega) g2.2
  obtain ⟨t1, t2, t4⟩ := half_order r1 r2 hlt
  have t3 := half_turn r1 r2 hlt
  have t5 := half_last r1 r2 hlt
  rw [j1] at HX
  rw [j2] at HY
  have HP := Lib.hid (wayA_lf h1 h3)
  have HQ := Lib.hid (way_lf h1 h3)
  have E1 := @back_yn (a, b, c, d) (e, f, g, h) J hn h3
  have E2 := @back_ny (a, b, c, d) (e, f, g, h) J hn h3
  have E3 := @back_nn (a, b, c, d) (e, f, g, h) J hn h3
  have E4 := @back_yyl (a, b, c, d) (e, f, g, h) J hn h3
  have E5 := @back_yyg (a, b, c, d) (e, f, g, h) J hn h3
  change freeB (wayA a b c d) J = _ → freeB (wayX a b c d) J = _ → _ = wayA a b c d ∧ _ at E1
  change freeB (wayA a b c d) J = _ → freeB (wayX a b c d) J = _ → _ = wayX a b c d ∧ _ at E2
  change freeB (wayA a b c d) J = _ → freeB (wayX a b c d) J = _ → _ at E3
  change freeB (wayA a b c d) J = _ → freeB (wayX a b c d) J = _ → lngB (redN a (2 * b), redD a (2 * b), redN c (2 * d), redD c (2 * d)) (redN a (2 * b), redD a (2 * b), redN (c + d) (2 * d), redD (c + d) (2 * d)) = _ → _ = wayA a b c d ∧ _ at E4
  change freeB (wayA a b c d) J = _ → freeB (wayX a b c d) J = _ → lngB (redN a (2 * b), redD a (2 * b), redN c (2 * d), redD c (2 * d)) (redN a (2 * b), redD a (2 * b), redN (c + d) (2 * d), redD (c + d) (2 * d)) = _ → _ = wayX a b c d ∧ _ at E5
  unfold wayX at HQ E1 E2 E3 E4 E5
  unfold wayA at HP E1 E2 E3 E4 E5
  generalize backL (a, b, c, d) (e, f, g, h) J = RL at *
  generalize backC (a, b, c, d) (e, f, g, h) J = RC at *
  clear r1 r2 j1 j2 g1 g2 ok h3 h1 hlt hn hq
  generalize redN a (2 * b) = x0 at *
  generalize redD a (2 * b) = y0 at *
  generalize redN (a + b) (2 * b) = x1 at *
  generalize redD (a + b) (2 * b) = y1 at *
  generalize redN c (2 * d) = u0 at *
  generalize redD c (2 * d) = v0 at *
  generalize redN (c + d) (2 * d) = u1 at *
  generalize redD (c + d) (2 * d) = v1 at *
  have HE1 := Lib.hid E1
  have HE2 := Lib.hid E2
  have HE3 := Lib.hid E3
  have HE4 := Lib.hid E4
  have HE5 := Lib.hid E5
  clear E1 E2 E3 E4 E5
  have HA0 : Hid (∀ w, Calls Try.prog 100 #[ang x0 y0, ang u0 v0] w fun e w' => e = .returned (leafV x0 y0 u0 v0) ∧ Below w.heap.size w w') := Lib.hid (fun w => by
    have := specLB x0 y0 u0 v0 w o1 o3 (.inl (by have := of_decide_eq_true t1; omega))
    obtain ⟨d1, d2, d3, d4⟩ := lf_yes t1
    rw [d1, d2, d3, d4] at this
    exact this)
  have HA1 : Hid (∀ w, Calls Try.prog 100 #[ang x1 y1, ang u1 v1] w fun e w' => e = .returned (leafV x1 y1 u1 v1) ∧ Below w.heap.size w w') := Lib.hid (fun w => by
    have := specLB x1 y1 u1 v1 w o2 o4 (.inl (by have := of_decide_eq_true t5; omega))
    obtain ⟨d1, d2, d3, d4⟩ := lf_yes t5
    rw [d1, d2, d3, d4] at this
    exact this)
  have HX0 : Hid (∀ w, Calls Try.prog 100 #[ang x0 y0, ang u1 v1] w fun e w' => e = .returned (leafV x0 y0 u1 v1) ∧ Below w.heap.size w w') := Lib.hid (fun w => by
    have := specLB x0 y0 u1 v1 w o1 o4 (.inl (by have := of_decide_eq_true t2; omega))
    obtain ⟨d1, d2, d3, d4⟩ := lf_yes t2
    rw [d1, d2, d3, d4] at this
    exact this)
  have HX1 : Hid (∀ w, Calls Try.prog 100 #[ang x1 y1, ang u0 v0] w fun e w' => e = .returned (leafV u0 v0 x1 y1) ∧ Below w.heap.size w w') := Lib.hid (fun w => by
    have := specLB x1 y1 u0 v0 w o2 o3 (.inl (by have := of_decide_eq_true t3; omega))
    obtain ⟨d1, d2, d3, d4⟩ := lf_no (lt_anti t3)
    rw [d1, d2, d3, d4] at this
    exact this)
  have HP1 : Hid (∀ w, Calls Try.prog 99 #[leafV x0 y0 u0 v0, leafV x1 y1 u1 v1] w (ResPair w [(x0, y0, u0, v0), (x1, y1, u1, v1)])) := Lib.hid (fun w => by
    have := specPairL x0 y0 u0 v0 x1 y1 u1 v1 w o1 o3 o2 o4
    rw [(pairLess t4).2] at this
    exact this)
  have HP2 : Hid (∀ w, Calls Try.prog 99 #[leafV x0 y0 u1 v1, leafV u0 v0 x1 y1] w (ResPair w [(x0, y0, u1, v1), (u0, v0, x1, y1)])) := Lib.hid (fun w => by
    have := specPairL x0 y0 u1 v1 u0 v0 x1 y1 w o1 o4 o3 o2
    rw [(pairLess t1).2] at this
    exact this)
  have HR := Lib.hid hr
  have HLJ := Lib.hid hJ
  have HJ := Lib.hid hj
  clear o1 o2 o3 o4 t1 t2 t3 t4 t5 hr hJ hj
  go_enter Try.func65, Try.ntmps65
  go_wp2_with fail
  refine (HX.out _).mono ?_
  rintro e w1 ⟨rfl, hb1⟩
  obtain ⟨hc1, hf1⟩ := bcell hb1
  have hz1_0 : w.heap.size < w1.heap.size := by have := hb1.size; first | omega | (simp at this; omega)
  have hz1_1 : w.heap.size + 1 < w1.heap.size := by have := hb1.size; first | omega | (simp at this; omega)
  have B1 : Below w.heap.size w w1 := by
    (repeat' (first | (with_reducible exact Below.refl _ _) | (with_reducible assumption) | (with_reducible refine belowNext ?_ (by with_reducible assumption)) | (with_reducible refine belowAlloc ?_ _) | (with_reducible refine Below.drew ?_) | (with_reducible refine below_drewN ?_ _) | (with_reducible refine Below.setCell ?_ ?_ _) | go_size | (with_reducible refine sizeOf' ?_) | (with_reducible refine sizeAdd ?_) | (dsimp only; first | (with_reducible refine sizeOf' ?_) | (with_reducible refine sizeAdd ?_))))
  go_wp2_with fail
  refine (HY.out _).mono ?_
  rintro e' w2 ⟨rfl, hb2⟩
  have hz2 : w1.heap.size + 1 < w2.heap.size := by have := hb2.size; simp at this; omega
  have hz2' : w1.heap.size < w2.heap.size := by omega
  have B2 : Below w.heap.size w w2 := by
    (repeat' (first | (with_reducible exact Below.refl _ _) | (with_reducible assumption) | (with_reducible refine belowNext ?_ (by with_reducible assumption)) | (with_reducible refine belowAlloc ?_ _) | (with_reducible refine Below.drew ?_) | (with_reducible refine below_drewN ?_ _) | (with_reducible refine Below.setCell ?_ ?_ _) | go_size | (with_reducible refine sizeOf' ?_) | (with_reducible refine sizeAdd ?_) | (dsimp only; first | (with_reducible refine sizeOf' ?_) | (with_reducible refine sizeAdd ?_))))
  have p0 : w2.cell? ⟨w1.heap.size, 0, none⟩ = some (.int .i64 x0) := cellThru hb2 (by simp <;> omega) (by simp [go_sem])
  have p1 : w2.cell? ⟨w1.heap.size, 1, none⟩ = some (.int .i64 y0) := cellThru hb2 (by simp <;> omega) (by simp [go_sem])
  have p2 : w2.cell? ⟨w1.heap.size + 1, 0, none⟩ = some (.int .i64 x1) := cellThru hb2 (by simp <;> omega) (by simp [go_sem])
  have p3 : w2.cell? ⟨w1.heap.size + 1, 1, none⟩ = some (.int .i64 y1) := cellThru hb2 (by simp <;> omega) (by simp [go_sem])
  have B4 := (belowAlloc (belowAlloc (Below.refl w2.heap.size w2) (.cells #[.int .i64 u0, .int .i64 v0] 24)) (.cells #[.int .i64 u1, .int .i64 v1] 24)).drew
  have H0 : w1.heap.size + 1 < ((w2.alloc (.cells #[.int .i64 u0, .int .i64 v0] 24)).alloc (.cells #[.int .i64 u1, .int .i64 v1] 24)).drew.heap.size ∧ w2.heap.size + 1 < ((w2.alloc (.cells #[.int .i64 u0, .int .i64 v0] 24)).alloc (.cells #[.int .i64 u1, .int .i64 v1] 24)).drew.heap.size ∧ Below w.heap.size w ((w2.alloc (.cells #[.int .i64 u0, .int .i64 v0] 24)).alloc (.cells #[.int .i64 u1, .int .i64 v1] 24)).drew ∧ ((w2.alloc (.cells #[.int .i64 u0, .int .i64 v0] 24)).alloc (.cells #[.int .i64 u1, .int .i64 v1] 24)).drew.cell? ⟨w1.heap.size, 0, none⟩ = some (.int .i64 x0) ∧ ((w2.alloc (.cells #[.int .i64 u0, .int .i64 v0] 24)).alloc (.cells #[.int .i64 u1, .int .i64 v1] 24)).drew.cell? ⟨w1.heap.size, 1, none⟩ = some (.int .i64 y0) ∧ ((w2.alloc (.cells #[.int .i64 u0, .int .i64 v0] 24)).alloc (.cells #[.int .i64 u1, .int .i64 v1] 24)).drew.cell? ⟨w1.heap.size + 1, 0, none⟩ = some (.int .i64 x1) ∧ ((w2.alloc (.cells #[.int .i64 u0, .int .i64 v0] 24)).alloc (.cells #[.int .i64 u1, .int .i64 v1] 24)).drew.cell? ⟨w1.heap.size + 1, 1, none⟩ = some (.int .i64 y1) ∧
      ((w2.alloc (.cells #[.int .i64 u0, .int .i64 v0] 24)).alloc (.cells #[.int .i64 u1, .int .i64 v1] 24)).drew.cell? ⟨w2.heap.size, 0, none⟩ = some (.int .i64 u0) ∧ ((w2.alloc (.cells #[.int .i64 u0, .int .i64 v0] 24)).alloc (.cells #[.int .i64 u1, .int .i64 v1] 24)).drew.cell? ⟨w2.heap.size, 1, none⟩ = some (.int .i64 v0) ∧ ((w2.alloc (.cells #[.int .i64 u0, .int .i64 v0] 24)).alloc (.cells #[.int .i64 u1, .int .i64 v1] 24)).drew.cell? ⟨w2.heap.size + 1, 0, none⟩ = some (.int .i64 u1) ∧ ((w2.alloc (.cells #[.int .i64 u0, .int .i64 v0] 24)).alloc (.cells #[.int .i64 u1, .int .i64 v1] 24)).drew.cell? ⟨w2.heap.size + 1, 1, none⟩ = some (.int .i64 v1) :=
    ⟨by simp; omega, by simp, belowNext B2 B4, cellThru B4 hz2' p0, cellThru B4 hz2' p1, cellThru B4 hz2 p2, cellThru B4 hz2 p3, by simp [go_sem], by simp [go_sem], by simp [go_sem], by simp [go_sem]⟩
  clear p0 p1 p2 p3 B4 hb1 hb2 hc1 hf1 B2 hz2 hz2' B1
  go_wp2_with fail
  go_region_held3 (fun W' => w1.heap.size + 1 < W'.heap.size ∧ w2.heap.size + 1 < W'.heap.size ∧ Below w.heap.size w W' ∧ W'.cell? ⟨w1.heap.size, 0, none⟩ = some (.int .i64 x0) ∧ W'.cell? ⟨w1.heap.size, 1, none⟩ = some (.int .i64 y0) ∧ W'.cell? ⟨w1.heap.size + 1, 0, none⟩ = some (.int .i64 x1) ∧ W'.cell? ⟨w1.heap.size + 1, 1, none⟩ = some (.int .i64 y1) ∧
      W'.cell? ⟨w2.heap.size, 0, none⟩ = some (.int .i64 u0) ∧ W'.cell? ⟨w2.heap.size, 1, none⟩ = some (.int .i64 v0) ∧ W'.cell? ⟨w2.heap.size + 1, 0, none⟩ = some (.int .i64 u1) ∧ W'.cell? ⟨w2.heap.size + 1, 1, none⟩ = some (.int .i64 v1))
    (first | with_reducible exact keepM (by with_reducible assumption) (by with_reducible assumption) | with_reducible exact H0)
    (first
    | (go_at_call 100; (with_reducible refine (HA0.out _).mono ?_); rintro e' w4 ⟨rfl, hb4⟩)
    | (go_at_call 100; (with_reducible refine (HA1.out _).mono ?_); rintro e' w5 ⟨rfl, hb5⟩)
    | (go_at_call 99; (with_reducible refine (HP1.out _).mono ?_); rintro e' w6 ⟨A1, rfl, hO1, hb6⟩)
    | (go_at_call 100; (with_reducible refine (HX0.out _).mono ?_); rintro e' w7 ⟨rfl, hb7⟩)
    | (go_at_call 100; (with_reducible refine (HX1.out _).mono ?_); rintro e' w8 ⟨rfl, hb8⟩)
    | (go_at_call 99; (with_reducible refine (HP2.out _).mono ?_); rintro e' w9 ⟨A2, rfl, hO2, hb9⟩))
  all_goals
    rename_i hHeld
    have B69 : Below w6.heap.size w6 w9 := belowNext (belowNext hb7 hb8) hb9
    have B9 : Below w.heap.size w w9 := hHeld.2.2.1
    have R1 := pairRows hO1 B69
    have R2 := hO2.row
    have RJ := HR.out.next B9
    clear hHeld hb4 hb5 hb6 hb7 hb8 hb9 hO1 hO2 H0 B69 HX HY HA0 HA1 HX0 HX1 HP1 HP2 HR
    obtain ⟨b1, o1, rfl, z1, c1⟩ := row_at R1 (by simp)
    obtain ⟨b2, o2, rfl, z2, c2⟩ := row_at R2 (by simp)
    have k1 := c1 0 x0 y0 u0 v0 rfl
    have k2 := c2 0 x0 y0 u1 v1 rfl
    rw [Nat.zero_mul, Nat.add_zero] at k1 k2
    have hl1 : isLf x0 y0 u0 v0 = true := allLf_at (k := 0) HP.out rfl
    have hl2 : isLf x0 y0 u1 v1 = true := allLf_at (k := 0) HQ.out rfl
    have HL1 := Lib.hid R1
    have HL2 := Lib.hid R2
    have HK := Lib.hid (fun (W : World) (hB : Below w9.heap.size w9 W) => specLs b1 o1 b2 o2 x0 y0 u0 v0 x0 y0 u1 v1 W hl1 hl2 (Nat.lt_of_lt_of_le z1 hB.size) (Nat.lt_of_lt_of_le z2 hB.size) (k1.next hB z1) (k2.next hB z2))
    have HF1 := Lib.hid (fun (W : World) (hB : Below w9.heap.size w9 W) => specFree _ _ _ _ W (R1.next hB) (RJ.next hB) rfl HLJ.out HP.out HJ.out)
    have HF2 := Lib.hid (fun (W : World) (hB : Below w9.heap.size w9 W) => specFree _ _ _ _ W (R2.next hB) (RJ.next hB) rfl HLJ.out HQ.out HJ.out)
    clear R1 R2 RJ c1 c2 k1 k2 hl1 hl2 z1 z2
    generalize freeB [(x0, y0, u0, v0), (x1, y1, u1, v1)] J = s at *
    generalize freeB [(x0, y0, u1, v1), (u0, v0, x1, y1)] J = t at *
    generalize lngB (x0, y0, u0, v0) (x0, y0, u1, v1) = r at *
    go_wp2_with fail
    refine (HF1.out _ (by (repeat' (first | (with_reducible exact Below.refl _ _) | (with_reducible assumption) | (with_reducible refine belowNext ?_ (by with_reducible assumption)) | (with_reducible refine belowAlloc ?_ _) | (with_reducible refine Below.drew ?_) | (with_reducible refine below_drewN ?_ _) | (with_reducible refine Below.setCell ?_ ?_ _) | go_size | (with_reducible refine sizeOf' ?_) | (with_reducible refine sizeAdd ?_) | (dsimp only; first | (with_reducible refine sizeOf' ?_) | (with_reducible refine sizeAdd ?_)))))).mono ?_
    rintro e' w10 ⟨rfl, hb10⟩
    have B10 : Below w9.heap.size w9 w10 := by
      (repeat' (first | (with_reducible exact Below.refl _ _) | (with_reducible assumption) | (with_reducible refine belowNext ?_ (by with_reducible assumption)) | (with_reducible refine belowAlloc ?_ _) | (with_reducible refine Below.drew ?_) | (with_reducible refine below_drewN ?_ _) | (with_reducible refine Below.setCell ?_ ?_ _) | go_size | (with_reducible refine sizeOf' ?_) | (with_reducible refine sizeAdd ?_) | (dsimp only; first | (with_reducible refine sizeOf' ?_) | (with_reducible refine sizeAdd ?_))))
    go_wp2_with fail
    refine (HF2.out _ (by (repeat' (first | (with_reducible exact Below.refl _ _) | (with_reducible assumption) | (with_reducible refine belowNext ?_ (by with_reducible assumption)) | (with_reducible refine belowAlloc ?_ _) | (with_reducible refine Below.drew ?_) | (with_reducible refine below_drewN ?_ _) | (with_reducible refine Below.setCell ?_ ?_ _) | go_size | (with_reducible refine sizeOf' ?_) | (with_reducible refine sizeAdd ?_) | (dsimp only; first | (with_reducible refine sizeOf' ?_) | (with_reducible refine sizeAdd ?_)))))).mono ?_
    rintro e' w11 ⟨rfl, hb11⟩
    have B11 : Below w9.heap.size w9 w11 := by
      (repeat' (first | (with_reducible exact Below.refl _ _) | (with_reducible assumption) | (with_reducible refine belowNext ?_ (by with_reducible assumption)) | (with_reducible refine belowAlloc ?_ _) | (with_reducible refine Below.drew ?_) | (with_reducible refine below_drewN ?_ _) | (with_reducible refine Below.setCell ?_ ?_ _) | go_size | (with_reducible refine sizeOf' ?_) | (with_reducible refine sizeAdd ?_) | (dsimp only; first | (with_reducible refine sizeOf' ?_) | (with_reducible refine sizeAdd ?_))))
    clear hb10 hb11 HF1 HF2 B10
    cases s <;> cases t
    · obtain ⟨rfl, rfl⟩ := HE3.out rfl rfl
      go_wp2
      go_ret2
      exact .inr ⟨by omega, rfl, rfl, belowNext B9 B11⟩
    · obtain ⟨rfl, rfl⟩ := HE2.out rfl rfl
      go_wp2
      go_ret2
      exact .inl ⟨rfl, rfl, _, rfl, HL2.out.next B11, belowNext B9 B11⟩
    · obtain ⟨rfl, rfl⟩ := HE1.out rfl rfl
      go_wp2
      go_ret2
      exact .inl ⟨rfl, rfl, _, rfl, HL1.out.next B11, belowNext B9 B11⟩
    · have G4 := Lib.hid (HE4.out rfl rfl)
      have G5 := Lib.hid (HE5.out rfl rfl)
      have HG := HK.out w11 B11
      go_wp2_with fail
      refine HG.mono ?_
      rintro e' w12 ⟨rfl, hb12⟩
      have B12 : Below w9.heap.size w9 w12 := belowNext B11 hb12
      cases r
      · obtain ⟨rfl, rfl⟩ := G5.out (by trivial)
        go_wp2
        go_ret2
        exact .inl ⟨rfl, rfl, _, rfl, HL2.out.next B12, belowNext B9 B12⟩
      · obtain ⟨rfl, rfl⟩ := G4.out (by trivial)
        go_wp2
        go_ret2
        exact .inl ⟨rfl, rfl, _, rfl, HL1.out.next B12, belowNext B9 B12⟩
end Go.Proofs.Ytlmgpecfbpcgaaa

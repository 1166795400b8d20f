/-
  PairsOfOrbit on both sides; the walk of its law.
  Separated pairs, as the program and as the model find them.
  SeparatedPairs on both sides; the walk of its law.
-/
import Derived.Test.YtjomgbjiognmmaaHA
import Derived.Test.YtjomgbjiognmmaaW25
namespace Go.Proofs.Ytjomgbjiognmmaa
open Go.RowKit

theorem tot8 {n : Nat} (h : n ≤ 21) : totN (fun _ => 2) n ≤ 1000000 := by rw [totN_const]; omega
theorem o8_len (n d : Int) : (o8 n d).length ≤ 7 := by
  rcases o8_cases n d with ⟨_, _, _, e, _⟩ | ⟨_, _, _, e, _⟩ | ⟨_, _, _, e, _⟩ | ⟨_, b, _, _, e, _⟩
  · rw [e]; simp
  · rw [e]; simp
  · rw [e]; simp
  · rw [e]; exact b
theorem orbList_mem {p : Int × Int} {k : Nat} {q : Int × Int} (h : q ∈ orbList p k) : ∃ i, i < k ∧ q = orb p i := by
  obtain ⟨i, hi⟩ := List.getElem?_of_mem h
  obtain ⟨a, b⟩ := q
  obtain ⟨h1, h2⟩ := orbList_at hi
  exact ⟨i, h1, h2.symm⟩
theorem red_isAng8 {p : Int × Int} (h : Red p) : isAng p.1 p.2 = true := by
  obtain ⟨a, b, c, d, e⟩ := h
  unfold isAng
  exact decide_eq_true ⟨a, b, c, d, e⟩
theorem o8_ang (n d : Int) : allAng (o8 n d) = true := by
  rcases o8_cases n d with ⟨_, _, _, e, _⟩ | ⟨_, _, _, e, _⟩ | ⟨_, _, _, e, _⟩ | ⟨_, _, _, _, e, h1⟩
  · rw [e]; rfl
  · rw [e]; rfl
  · rw [e]; rfl
  · rw [e]
    cases hf : findOrb (n, d) 65 0 with
    | none => unfold oL; simp [h1, hf]; rfl
    | some k =>
      have e1 : oL n d = orbList (n, d) k := by unfold oL; simp [h1, hf]
      rw [e1]
      unfold allAng
      rw [List.all_eq_true]
      intro q hq
      obtain ⟨i, _, rfl⟩ := orbList_mem hq
      exact red_isAng8 (orb_red (ang_red h1) i)
/-- The first angle of an orbit is the angle. -/
theorem o8_first {n d : Int} (h : 0 < (o8 n d).length) : cA (o8 n d) 0 = (n, d) := by
  rcases o8_cases n d with ⟨_, _, _, e, _⟩ | ⟨_, _, _, e, _⟩ | ⟨_, _, _, e, _⟩ | ⟨_, _, h0, _, e, h1⟩
  · rw [e] at h; simp at h
  · rw [e] at h; simp at h
  · rw [e] at h; simp at h
  · rw [e]
    cases hf : findOrb (n, d) 65 0 with
    | none => unfold oL at h0; simp [h1, hf] at h0
    | some k =>
      have e1 : oL n d = orbList (n, d) k := by unfold oL; simp [h1, hf]
      rw [e1] at h0 ⊢
      rw [orbList_len] at h0
      refine cA_of ?_
      unfold orbList
      rw [List.getElem?_map, List.getElem?_range h0]; rfl
theorem o8_no {n d : Int} (h : c8 n d ≠ 0) : o8 n d = [] := by unfold o8; rw [if_neg h]

set_option maxRecDepth 8000 in
set_option maxHeartbeats 1000000 in
theorem specPO (n d : Int) (w : World) : Calls Try.prog 12 #[ang n d] w (ResTabR w (prL (o8 n d).length).length (fun _ => 2) (pF (prL (o8 n d).length)) (c8 n d)) := by
  have HO := Lib.hid (fun w => specOrb8 n d w)
  have hl := o8_len n d
  by_cases h : c8 n d = 0
  · rw [h] at HO ⊢
    clear h
    generalize o8 n d = L at *
    obtain ⟨m, hm⟩ : ∃ m, L.length = m := ⟨_, rfl⟩
    rw [hm] at hl ⊢
    have HP := Lib.hid (fun w => specPairs8 m hl w)
    have HLm := Lib.hid hm
    obtain ⟨N, hN⟩ : ∃ N, (prL m).length = N := ⟨_, rfl⟩
    rw [hN] at HP ⊢
    clear hm hN
    go_enter Try.func12, Try.ntmps12
    go_wp2_with fail
    refine (HO.out _).mono ?_
    rintro e w1 ⟨A, cap, rfl, ha, hb1⟩
    rw [HLm.out]
    go_wp2_with fail
    refine (HP.out _).mono ?_
    rintro e w2 ⟨A2, cap2, rfl, H2, hb2⟩
    clear ha
    go_wp2
    go_ret2
    refine ⟨A2, cap2, rfl, H2.out.rd, ?_⟩
    (repeat' (first | (with_reducible exact Below.refl _ _) | (with_reducible assumption) | (with_reducible refine belowNext ?_ (by with_reducible assumption)) | (with_reducible refine belowAlloc ?_ _) | (with_reducible refine Below.drew ?_) | (with_reducible refine below_drewN ?_ _) | (with_reducible refine Below.setCell ?_ ?_ _) | go_size | (with_reducible refine sizeOf' ?_) | (with_reducible refine sizeAdd ?_) | (dsimp only; first | (with_reducible refine sizeOf' ?_) | (with_reducible refine sizeAdd ?_))))
  · rw [o8_no h] at HO ⊢
    have hC : (c8 n d == 0) = false := beq_eq_false_iff_ne.2 h
    generalize c8 n d = C at *
    clear h
    go_enter Try.func12, Try.ntmps12
    go_wp2_with fail
    refine (HO.out _).mono ?_
    rintro e w1 ⟨A, cap, rfl, ha, hb1⟩
    clear ha
    go_wp2
    go_ret2
    refine ⟨none, 0, rfl, tabRd_nil, ?_⟩
    (repeat' (first | (with_reducible exact Below.refl _ _) | (with_reducible assumption) | (with_reducible refine belowNext ?_ (by with_reducible assumption)) | (with_reducible refine belowAlloc ?_ _) | (with_reducible refine Below.drew ?_) | (with_reducible refine below_drewN ?_ _) | (with_reducible refine Below.setCell ?_ ?_ _) | go_size | (with_reducible refine sizeOf' ?_) | (with_reducible refine sizeAdd ?_) | (dsimp only; first | (with_reducible refine sizeOf' ?_) | (with_reducible refine sizeAdd ?_))))

set_option maxRecDepth 8000 in
set_option maxHeartbeats 1000000 in
theorem implPO (n d : Int) (w : World) : Calls Try.prog 14 #[ang n d] w (ResTab w (prL (o8 n d).length).length (fun _ => 2) (pF (prL (o8 n d).length)) (c8 n d)) := by
  have HO := Lib.hid (fun w => implPT n d w)
  generalize o8 n d = L at *
  generalize c8 n d = C at *
  obtain ⟨N, hN⟩ : ∃ N, (prL L.length).length = N := ⟨_, rfl⟩
  have HNn := Lib.hid hN
  obtain ⟨f, hf⟩ : ∃ f, pF (prL L.length) = f := ⟨_, rfl⟩
  have HF := Lib.hid hf
  rw [hN, hf]
  clear hN hf
  go_enter Try.func14, Try.ntmps14
  go_wp2_with fail
  refine (HO.out _).mono ?_
  rintro e w1 ⟨A, cap, A2, cap2, rfl, ha, ht, hb1⟩
  rw [HNn.out] at ht ⊢
  rw [HF.out] at ht
  have HT := Lib.hid (ht.low (lo' := w.heap.size) (by simp))
  clear ha ht
  have hz1 : w.heap.size < w1.heap.size := by have := hb1.size; simp at this; omega
  go_wp2
  all_goals
    go_ret2
    refine ⟨A2, cap2, rfl, ?_, ?_⟩
    · refine TabOwn.next HT.out ?_
      (repeat' (first | (with_reducible exact Below.refl _ _) | (with_reducible assumption) | (with_reducible refine belowNext ?_ (by with_reducible assumption)) | (with_reducible refine belowAlloc ?_ _) | (with_reducible refine Below.drew ?_) | (with_reducible refine below_drewN ?_ _) | (with_reducible refine Below.setCell ?_ ?_ _) | go_size | (with_reducible refine sizeOf' ?_) | (with_reducible refine sizeAdd ?_) | (dsimp only; first | (with_reducible refine sizeOf' ?_) | (with_reducible refine sizeAdd ?_))))
    · (repeat' (first | (with_reducible exact Below.refl _ _) | (with_reducible assumption) | (with_reducible refine belowNext ?_ (by with_reducible assumption)) | (with_reducible refine belowAlloc ?_ _) | (with_reducible refine Below.drew ?_) | (with_reducible refine below_drewN ?_ _) | (with_reducible refine Below.setCell ?_ ?_ _) | go_size | (with_reducible refine sizeOf' ?_) | (with_reducible refine sizeAdd ?_) | (dsimp only; first | (with_reducible refine sizeOf' ?_) | (with_reducible refine sizeAdd ?_))))

set_option maxHeartbeats 4000000 in
theorem lawPairsOfOrbit (n d : Int) (_ : (Lit.int .i64 n).wf = true) (_ : (Lit.int .i64 d).wf = true) (w : World) :
    Calls Try.prog 3 #[ang n d] w fun e w' => e = .returned (.bool true) ∧ Below w.heap.size w w' := by
  have HA := Lib.hid (fun w => specPO n d w)
  have HB := Lib.hid (fun w => implPO n d w)
  have hN : (prL (o8 n d).length).length ≤ 1000000 := Nat.le_trans (prL_len (o8_len n d)) (by omega)
  have hT : totN (fun _ => 2) ((prL (o8 n d).length).length) ≤ 1000000 := tot8 (prL_len (o8_len n d))
  generalize (prL (o8 n d).length).length = N at *
  generalize pF (prL (o8 n d).length) = F at *
  generalize c8 n d = C at *
  obtain ⟨LN, hLN⟩ : ∃ LN : Nat → Nat, (fun _ => 2) = LN := ⟨_, rfl⟩
  rw [hLN] at HA HB hT
  clear hLN
  obtain ⟨T, hTe⟩ : ∃ T, totN LN N = T := ⟨_, rfl⟩
  have HTe := Lib.hid hTe
  have HT2 := Lib.hid hT
  rw [hTe] at hT
  clear hTe
  go_enter Try.func3, Try.ntmps3
  go_wp2_with fail
  refine (toAngX _ _ _).mono ?_
  rintro e w1 ⟨rfl, rfl⟩
  go_wp2_with fail
  refine (HA.out _).mono ?_
  rintro e w2 ⟨A, cap, rfl, ha, hb2⟩
  have hc2 := bcell hb2
  have c0 : w2.cell? ⟨w.heap.size, 0, none⟩ = some (.int .i64 n) := cellThru hb2 (by simp <;> omega) (by simp [go_sem])
  have c1 : w2.cell? ⟨w.heap.size, 1, none⟩ = some (.int .i64 d) := cellThru hb2 (by simp <;> omega) (by simp [go_sem])
  have z2 : w.heap.size < w2.heap.size := by have := hb2.size; simp at this; omega
  have B2 : Below w.heap.size w w2 := by
    (repeat' (first | (with_reducible exact Below.refl _ _) | (with_reducible assumption) | (with_reducible refine belowNext ?_ (by with_reducible assumption)) | (with_reducible refine belowAlloc ?_ _) | (with_reducible refine Below.drew ?_) | (with_reducible refine below_drewN ?_ _) | (with_reducible refine Below.setCell ?_ ?_ _) | go_size | (with_reducible refine sizeOf' ?_) | (with_reducible refine sizeAdd ?_) | (dsimp only; first | (with_reducible refine sizeOf' ?_) | (with_reducible refine sizeAdd ?_))))
  clear hc2 hb2
  have R := Lib.hid ha
  clear ha
  go_wp2_with fail
  refine (toAngX _ _ _).mono ?_
  rintro e w3 ⟨rfl, rfl⟩
  go_wp2_with fail
  refine (HB.out _).mono ?_
  rintro e w4 ⟨A', cap', rfl, ha', hb4⟩
  have s4 := hb4.size
  simp at s4
  have z4 : w.heap.size < w4.heap.size := by omega
  have B24 : Below w2.heap.size w2 w4 := by
    (repeat' (first | (with_reducible exact Below.refl _ _) | (with_reducible assumption) | (with_reducible refine belowNext ?_ (by with_reducible assumption)) | (with_reducible refine belowAlloc ?_ _) | (with_reducible refine Below.drew ?_) | (with_reducible refine below_drewN ?_ _) | (with_reducible refine Below.setCell ?_ ?_ _) | go_size | (with_reducible refine sizeOf' ?_) | (with_reducible refine sizeAdd ?_) | (dsimp only; first | (with_reducible refine sizeOf' ?_) | (with_reducible refine sizeAdd ?_))))
  have c0 : w4.cell? ⟨w.heap.size, 0, none⟩ = some (.int .i64 n) := cellThru B24 z2 c0
  have c1 : w4.cell? ⟨w.heap.size, 1, none⟩ = some (.int .i64 d) := cellThru B24 z2 c1
  have R4 := Lib.hid (R.out.below B24)
  have Rs4 := Lib.hid (R4.out.more B24.size)
  have Q4 := Lib.hid ha'
  clear ha' hb4
  go_wp2_with fail
  refine (eqTab _ _ _ _ _ LN F _ Q4.out.rd Rs4.out hN HT2.out).mono ?_
  rintro e w5 ⟨rfl, hb5⟩
  have c0 : w5.cell? ⟨w.heap.size, 0, none⟩ = some (.int .i64 n) := cellThru hb5 z4 c0
  have c1 : w5.cell? ⟨w.heap.size, 1, none⟩ = some (.int .i64 d) := cellThru hb5 z4 c1
  have z5 : w.heap.size < w5.heap.size := by have := hb5.size; omega
  have R5 := Lib.hid (R4.out.below (hb5.mono B24.size))
  have Q5 := Lib.hid (Q4.out.next hb5)
  have B25 : Below w2.heap.size w2 w5 := belowNext B24 hb5
  go_wp2_with fail
  refine (markTab _ _ _ LN F _ _ Q5.out hN HT2.out).mono ?_
  rintro e w6 ⟨rfl, H6⟩
  rw [HTe.out]
  simp only [World.size_alloc] at H6
  have b6 := H6.out.2.mono (show w2.heap.size ≤ w2.heap.size + 1 + 1 + 1 by omega)
  have c0 : w6.cell? ⟨w.heap.size, 0, none⟩ = some (.int .i64 n) := (b6.cell (p := ⟨w.heap.size, 0, none⟩) z2).trans c0
  have c1 : w6.cell? ⟨w.heap.size, 1, none⟩ = some (.int .i64 d) := (b6.cell (p := ⟨w.heap.size, 1, none⟩) z2).trans c1
  have z6 : w.heap.size < w6.heap.size := by have := b6.size; omega
  have R6 := Lib.hid (R5.out.below b6)
  have Q6 := Lib.hid H6.out.1
  have B26 : Below w2.heap.size w2 w6 := B25.trans b6
  have nn : (1 + (T : Int) < 0) = False := by simp; omega
  clear b6 H6 hb5
  go_wp2_with fail
  refine (heldTab _ _ _ LN _ Q6.out.rd hN HT2.out).mono ?_
  rintro e w7 ⟨rfl, rfl⟩
  rw [HTe.out]
  go_wp2_with fail
  refine (toAngX _ _ _).mono ?_
  rintro e w8 ⟨rfl, rfl⟩
  go_wp2_with fail
  refine (HB.out _).mono ?_
  rintro e w9 ⟨A'', cap'', rfl, ha'', hb9⟩
  have s9 := hb9.size
  simp at s9
  have B69 : Below w6.heap.size w6 w9 := by
    (repeat' (first | (with_reducible exact Below.refl _ _) | (with_reducible assumption) | (with_reducible refine belowNext ?_ (by with_reducible assumption)) | (with_reducible refine belowAlloc ?_ _) | (with_reducible refine Below.drew ?_) | (with_reducible refine below_drewN ?_ _) | (with_reducible refine Below.setCell ?_ ?_ _) | go_size | (with_reducible refine sizeOf' ?_) | (with_reducible refine sizeAdd ?_) | (dsimp only; first | (with_reducible refine sizeOf' ?_) | (with_reducible refine sizeAdd ?_))))
  have B29 : Below w2.heap.size w2 w9 := belowNext B26 B69
  have R9 := Lib.hid ((R6.out.below (B69.mono B26.size)).more B29.size)
  have Q9 := Lib.hid (Q6.out.next B69)
  have P9 := Lib.hid ha''.rd
  clear ha'' hb9
  go_wp2_with fail
  refine (eqTab _ _ _ _ _ LN F _ P9.out R9.out hN HT2.out).mono ?_
  rintro e w10 ⟨rfl, hb10⟩
  have Q10 := Lib.hid (Q9.out.next hb10)
  go_wp2_with fail
  refine (heldTab _ _ _ LN _ Q10.out.rd hN HT2.out).mono ?_
  rintro e w11 ⟨rfl, rfl⟩
  rw [HTe.out]
  go_wp2
  go_ret
  exact ⟨rfl, belowNext (belowNext B2 B29) hb10⟩

/-- Two angles with the letters 0 and 1 in any order. -/
def sepB (x y t : Int × Int) : Bool := decide (ltrI x.1 x.2 t.1 t.2 ≠ ltrI y.1 y.2 t.1 t.2) && decide (ltrI x.1 x.2 t.1 t.2 ≠ 42) && decide (ltrI y.1 y.2 t.1 t.2 ≠ 42)
/-- The table of an orbit, as a value. -/
def tabV (A : Option Addr) (m cap : Nat) (A2 : Option Addr) (N cap2 : Nat) : Value := .agg #[.slice A m cap, .slice A2 N cap2]
/-- Cells that a region reads. -/
structure H6 (w : World) (p1 p2 p3 p4 p5 p6 : Addr) (v1 v2 v3 v4 v5 v6 : Value) (W : World) : Prop where
  B : Below w.heap.size w W
  z1 : p1.block < W.heap.size
  z2 : p2.block < W.heap.size
  z3 : p3.block < W.heap.size
  z4 : p4.block < W.heap.size
  z5 : p5.block < W.heap.size
  z6 : p6.block < W.heap.size
  x1 : W.cell? p1 = some v1
  x2 : W.cell? p2 = some v2
  x3 : W.cell? p3 = some v3
  x4 : W.cell? p4 = some v4
  x5 : W.cell? p5 = some v5
  x6 : W.cell? p6 = some v6
theorem H6.on {w W W1 : World} {p1 p2 p3 p4 p5 p6 : Addr} {v1 v2 v3 v4 v5 v6 : Value} (H : H6 w p1 p2 p3 p4 p5 p6 v1 v2 v3 v4 v5 v6 W) (hb : Below W.heap.size W W1) : H6 w p1 p2 p3 p4 p5 p6 v1 v2 v3 v4 v5 v6 W1 := by
  have hs := hb.size
  have := H.z1
  have := H.z2
  have := H.z3
  have := H.z4
  have := H.z5
  have := H.z6
  exact ⟨belowNext H.B hb, by omega, by omega, by omega, by omega, by omega, by omega, (hb.cell H.z1).trans H.x1, (hb.cell H.z2).trans H.x2, (hb.cell H.z3).trans H.x3, (hb.cell H.z4).trans H.x4, (hb.cell H.z5).trans H.x5, (hb.cell H.z6).trans H.x6⟩
/-- Cells that a region reads. -/
structure H9 (w : World) (p1 p2 p3 p4 p5 p6 p7 p8 p9 : Addr) (v1 v2 v3 v4 v5 v6 v7 v8 v9 : Value) (W : World) : Prop where
  B : Below w.heap.size w W
  z1 : p1.block < W.heap.size
  z2 : p2.block < W.heap.size
  z3 : p3.block < W.heap.size
  z4 : p4.block < W.heap.size
  z5 : p5.block < W.heap.size
  z6 : p6.block < W.heap.size
  z7 : p7.block < W.heap.size
  z8 : p8.block < W.heap.size
  z9 : p9.block < W.heap.size
  x1 : W.cell? p1 = some v1
  x2 : W.cell? p2 = some v2
  x3 : W.cell? p3 = some v3
  x4 : W.cell? p4 = some v4
  x5 : W.cell? p5 = some v5
  x6 : W.cell? p6 = some v6
  x7 : W.cell? p7 = some v7
  x8 : W.cell? p8 = some v8
  x9 : W.cell? p9 = some v9
theorem H9.on {w W W1 : World} {p1 p2 p3 p4 p5 p6 p7 p8 p9 : Addr} {v1 v2 v3 v4 v5 v6 v7 v8 v9 : Value} (H : H9 w p1 p2 p3 p4 p5 p6 p7 p8 p9 v1 v2 v3 v4 v5 v6 v7 v8 v9 W) (hb : Below W.heap.size W W1) : H9 w p1 p2 p3 p4 p5 p6 p7 p8 p9 v1 v2 v3 v4 v5 v6 v7 v8 v9 W1 := by
  have hs := hb.size
  have := H.z1
  have := H.z2
  have := H.z3
  have := H.z4
  have := H.z5
  have := H.z6
  have := H.z7
  have := H.z8
  have := H.z9
  exact ⟨belowNext H.B hb, by omega, by omega, by omega, by omega, by omega, by omega, by omega, by omega, by omega, (hb.cell H.z1).trans H.x1, (hb.cell H.z2).trans H.x2, (hb.cell H.z3).trans H.x3, (hb.cell H.z4).trans H.x4, (hb.cell H.z5).trans H.x5, (hb.cell H.z6).trans H.x6, (hb.cell H.z7).trans H.x7, (hb.cell H.z8).trans H.x8, (hb.cell H.z9).trans H.x9⟩

set_option maxRecDepth 8000 in
set_option maxHeartbeats 1000000 in
theorem implPoint (A : Option Addr) (m cap : Nat) (A2 : Option Addr) (N cap2 : Nat) (L : List (Int × Int)) (i : Int) (k : Nat) (w : World) (hr : AngRow w w.heap.size A L) (hl : L.length = m) (hm : m ≤ 7) (hk : k < m) (hi : i = (k : Int) + 1) :
    Calls Try.prog 71 #[.agg #[.slice A m cap, .slice A2 N cap2], .int .i64 i] w fun e w' => e = .returned (ang (cA L k).1 (cA L k).2) ∧ Below w.heap.size w w' := by
  obtain ⟨b, off, rfl, hb, hc⟩ := hr (by intro h; rw [h] at hl; simp at hl; omega)
  obtain ⟨y0, y1⟩ := hc k _ _ (cA_some (by omega))
  have hw : IntKind.i64.wrap (i - 1) = (k : Int) := (IntWalk.i64_in _ (by omega)).trans (by omega)
  have hkI : (k : Int) < (m : Int) := by omega
  have hb1 : b < w.heap.size + 1 := by omega
  have hb2 : b < w.heap.size + 1 + 1 := by omega
  generalize (cA L k).1 = p at *
  generalize (cA L k).2 = q at *
  clear hc hr
  go_enter Try.func71, Try.ntmps71
  go_wp2
  refine bodyPost_ret (v := ang p q) (by simp [results, Try.results71, go_sem]) rfl ⟨rfl, ?_⟩
  (repeat' (first | (with_reducible exact Below.refl _ _) | (with_reducible assumption) | (with_reducible refine belowNext ?_ (by with_reducible assumption)) | (with_reducible refine belowAlloc ?_ _) | (with_reducible refine Below.drew ?_) | (with_reducible refine below_drewN ?_ _) | (with_reducible refine Below.setCell ?_ ?_ _) | go_size | (with_reducible refine sizeOf' ?_) | (with_reducible refine sizeAdd ?_) | (dsimp only; first | (with_reducible refine sizeOf' ?_) | (with_reducible refine sizeAdd ?_))))

set_option maxRecDepth 8000 in
set_option maxHeartbeats 4000000 in
theorem implSep (A : Option Addr) (m cap : Nat) (A2 : Option Addr) (N cap2 : Nat) (L : List (Int × Int)) (Ap : Option Addr) (cp : Nat) (i j : Int) (k l : Nat) (w : World) (hr : AngRow w w.heap.size A L) (hl : L.length = m) (hm : m ≤ 7) (ha : allAng L = true)
    (hp : ∃ b o, Ap = some ⟨b, o, none⟩ ∧ b < w.heap.size ∧ w.cell? ⟨b, o, none⟩ = some (.int .i64 i) ∧ w.cell? ⟨b, o + 1, none⟩ = some (.int .i64 j)) (hk : k < m) (hi : i = (k : Int) + 1) (hkl : l < m) (hj : j = (l : Int) + 1) :
    Calls Try.prog 43 #[.agg #[.slice A m cap, .slice A2 N cap2], .slice Ap 2 cp] w fun e w' => e = .returned (.bool (sepB (cA L k) (cA L l) (cA L 0))) ∧ Below w.heap.size w w' := by
  obtain ⟨b, o, rfl, hb, y0, y1⟩ := hp
  have HP0 := Lib.hid (fun W (hB : Below w.heap.size w W) => implPoint A m cap A2 N cap2 L 1 0 W ((hr.below hB).more hB.size) hl hm (by omega) rfl)
  have HP1 := Lib.hid (fun W (hB : Below w.heap.size w W) => implPoint A m cap A2 N cap2 L i k W ((hr.below hB).more hB.size) hl hm hk hi)
  have HP2 := Lib.hid (fun W (hB : Below w.heap.size w W) => implPoint A m cap A2 N cap2 L j l W ((hr.below hB).more hB.size) hl hm hkl hj)
  have ok0 := isAng_ok (cA_ang ha (i := 0) (by omega))
  have HL1 := Lib.hid (fun W => implLet (cA L k).1 (cA L k).2 (cA L 0).1 (cA L 0).2 W (isAng_ok (cA_ang ha (by omega))) ok0)
  have HL2 := Lib.hid (fun W => implLet (cA L l).1 (cA L l).2 (cA L 0).1 (cA L 0).2 W (isAng_ok (cA_ang ha (by omega))) ok0)
  have HE : Hid (∀ r : Bool, r = (decide (ltrI (cA L k).1 (cA L k).2 (cA L 0).1 (cA L 0).2 ≠ ltrI (cA L l).1 (cA L l).2 (cA L 0).1 (cA L 0).2) && decide (ltrI (cA L k).1 (cA L k).2 (cA L 0).1 (cA L 0).2 ≠ 42) && decide (ltrI (cA L l).1 (cA L l).2 (cA L 0).1 (cA L 0).2 ≠ 42)) → r = sepB (cA L k) (cA L l) (cA L 0)) := Lib.hid (fun r h => h)
  generalize sepB (cA L k) (cA L l) (cA L 0) = R at *
  generalize ltrI (cA L k).1 (cA L k).2 (cA L 0).1 (cA L 0).2 = u at *
  generalize ltrI (cA L l).1 (cA L l).2 (cA L 0).1 (cA L 0).2 = v at *
  generalize (cA L k).1 = k1 at *
  generalize (cA L k).2 = k2 at *
  generalize (cA L l).1 = l1 at *
  generalize (cA L l).2 = l2 at *
  generalize (cA L 0).1 = t1 at *
  generalize (cA L 0).2 = t2 at *
  clear hr ok0 hi hj hk hkl hl ha
  go_enter Try.func43, Try.ntmps43
  go_wp2_with fail
  refine (HP0.out _ (belowAlloc (Below.refl _ _) _)).mono ?_
  rintro e w1 ⟨rfl, hb1⟩
  have hs := hb1.size
  simp at hs
  have q0 : w1.cell? ⟨w.heap.size, 0, none⟩ = some (.slice A m cap) := cellThru hb1 (by simp) (by simp [go_sem])
  have q1 : w1.cell? ⟨w.heap.size, 1, none⟩ = some (.slice A2 N cap2) := cellThru hb1 (by simp) (by simp [go_sem])
  have B1 : Below w.heap.size w w1 := by
    (repeat' (first | (with_reducible exact Below.refl _ _) | (with_reducible assumption) | (with_reducible refine belowNext ?_ (by with_reducible assumption)) | (with_reducible refine belowAlloc ?_ _) | (with_reducible refine Below.drew ?_) | (with_reducible refine below_drewN ?_ _) | (with_reducible refine Below.setCell ?_ ?_ _) | go_size | (with_reducible refine sizeOf' ?_) | (with_reducible refine sizeAdd ?_) | (dsimp only; first | (with_reducible refine sizeOf' ?_) | (with_reducible refine sizeAdd ?_))))
  have y0 : w1.cell? ⟨b, o, none⟩ = some (.int .i64 i) := cellThru B1 hb y0
  have y1 : w1.cell? ⟨b, o + 1, none⟩ = some (.int .i64 j) := cellThru B1 hb y1
  have hbw : b < w1.heap.size := by omega
  have hzw : w.heap.size < w1.heap.size := by omega
  obtain ⟨G, hG⟩ : ∃ G, w1.heap.size = G := ⟨_, rfl⟩
  have HG := Lib.hid hG
  clear hb1 hs hG HP0
  go_wp2_with fail
  rw [HG.out]
  have S0 : (H6 w ⟨w.heap.size, 0, none⟩ ⟨w.heap.size, 1, none⟩ ⟨G, 0, none⟩ ⟨G, 1, none⟩ ⟨b, o, none⟩ ⟨b, o + 1, none⟩ (.slice A m cap) (.slice A2 N cap2) (.int .i64 t1) (.int .i64 t2) (.int .i64 i) (.int .i64 j)) (w1.alloc (.cells #[.int .i64 t1, .int .i64 t2] 27)) := by
    have hG := HG.out
    subst hG
    refine ⟨?_, by simp; omega, by simp; omega, by simp, by simp, by simp; omega, by simp; omega, ?_, ?_, ?_, ?_, ?_, ?_⟩
    · (repeat' (first | (with_reducible exact Below.refl _ _) | (with_reducible assumption) | (with_reducible refine belowNext ?_ (by with_reducible assumption)) | (with_reducible refine belowAlloc ?_ _) | (with_reducible refine Below.drew ?_) | (with_reducible refine below_drewN ?_ _) | (with_reducible refine Below.setCell ?_ ?_ _) | go_size | (with_reducible refine sizeOf' ?_) | (with_reducible refine sizeAdd ?_) | (dsimp only; first | (with_reducible refine sizeOf' ?_) | (with_reducible refine sizeAdd ?_))))
    all_goals first | (simp [go_sem]; done) | exact cellThru (belowAlloc (Below.refl _ _) _) (by omega) (by assumption)
  refine wp_region_held_drew (S := (H6 w ⟨w.heap.size, 0, none⟩ ⟨w.heap.size, 1, none⟩ ⟨G, 0, none⟩ ⟨G, 1, none⟩ ⟨b, o, none⟩ ⟨b, o + 1, none⟩ (.slice A m cap) (.slice A2 N cap2) (.int .i64 t1) (.int .i64 t2) (.int .i64 i) (.int .i64 j))) (by kernel_rfl) ?_ (fun hHeld => ?_)
  · exact S0.on (Below.refl _ _).drew
  refine wpAnyH_take (i := 0) (v := ?_) rfl (by kernel_rfl) (by kernel_rfl) (by kernel_rfl) (fun _ _ _ h => h) (Or.inl ⟨by kernel_rfl, ?_⟩) hHeld ?_
  rotate_left
  · intro w hSw; obtain ⟨B, z1, z2, z3, z4, z5, z6, x1, x2, x3, x4, x5, x6⟩ := hSw; first | (go_simp; done) | (go_simp; with_reducible rfl)
  refine wpAnyH_take (i := 1) (v := ?_) rfl (by kernel_rfl) (by kernel_rfl) (by kernel_rfl) (fun _ _ _ h => h) (Or.inl ⟨by kernel_rfl, ?_⟩) hHeld ?_
  rotate_left
  · intro w hSw; obtain ⟨B, z1, z2, z3, z4, z5, z6, x1, x2, x3, x4, x5, x6⟩ := hSw; first | (go_simp; done) | (go_simp; with_reducible rfl)
  refine wpAnyH_take (i := 2) (v := ?_) rfl (by kernel_rfl) (by kernel_rfl) (by kernel_rfl) (fun _ _ _ h => h) (Or.inl ⟨by kernel_rfl, ?_⟩) hHeld ?_
  rotate_left
  · intro w hSw; obtain ⟨B, z1, z2, z3, z4, z5, z6, x1, x2, x3, x4, x5, x6⟩ := hSw; first | (go_simp; done) | (go_simp; with_reducible rfl)
  refine wpAnyH_take (i := 3) (v := ?_) rfl (by kernel_rfl) (by kernel_rfl) (by kernel_rfl) (fun _ _ _ h => h) (Or.inl ⟨by kernel_rfl, ?_⟩) hHeld ?_
  rotate_left
  · intro w hSw; obtain ⟨B, z1, z2, z3, z4, z5, z6, x1, x2, x3, x4, x5, x6⟩ := hSw; first | (go_simp; done) | (go_simp; with_reducible rfl)
  refine wpAnyH_take (i := 5) (v := ?_) rfl (by kernel_rfl) (by kernel_rfl) (by kernel_rfl) (fun _ _ _ h => h) (Or.inl ⟨by kernel_rfl, ?_⟩) hHeld ?_
  rotate_left
  · intro w hSw; obtain ⟨B, z1, z2, z3, z4, z5, z6, x1, x2, x3, x4, x5, x6⟩ := hSw; first | (go_simp; done) | (go_simp; with_reducible rfl)
  refine wpAnyH_take (i := 7) (v := ?_) rfl (by kernel_rfl) (by kernel_rfl) (by kernel_rfl) (fun _ _ _ h => h) (Or.inl ⟨by kernel_rfl, ?_⟩) hHeld ?_
  rotate_left
  · intro w hSw; obtain ⟨B, z1, z2, z3, z4, z5, z6, x1, x2, x3, x4, x5, x6⟩ := hSw; first | (go_simp; done) | (go_simp; with_reducible rfl)
  refine wpAnyH_take (i := 8) (v := ?_) rfl (by kernel_rfl) (by kernel_rfl) (by kernel_rfl) (fun _ _ _ h => h) (Or.inl ⟨by kernel_rfl, ?_⟩) hHeld ?_
  rotate_left
  · intro w hSw; obtain ⟨B, z1, z2, z3, z4, z5, z6, x1, x2, x3, x4, x5, x6⟩ := hSw; first | (go_simp; done) | (go_simp; with_reducible rfl)
  refine wpAnyH_take (i := 9) (v := ?_) rfl (by kernel_rfl) (by kernel_rfl) (by kernel_rfl) (fun _ _ _ h => h) (Or.inl ⟨by kernel_rfl, ?_⟩) hHeld ?_
  rotate_left
  · intro w hSw; obtain ⟨B, z1, z2, z3, z4, z5, z6, x1, x2, x3, x4, x5, x6⟩ := hSw; first | (go_simp; done) | (go_simp; with_reducible rfl)
  refine wpAnyH_take (i := 10) (v := ?_) rfl (by kernel_rfl) (by kernel_rfl) (by kernel_rfl) (fun _ _ _ h => h) (Or.inl ⟨by kernel_rfl, ?_⟩) hHeld ?_
  rotate_left
  · intro w hSw; obtain ⟨B, z1, z2, z3, z4, z5, z6, x1, x2, x3, x4, x5, x6⟩ := hSw; first | (go_simp; done) | (go_simp; with_reducible rfl)
  refine wpAnyH_take (i := 12) (v := ?_) rfl (by kernel_rfl) (by kernel_rfl) (by kernel_rfl) (fun _ _ _ h => h) (Or.inl ⟨by kernel_rfl, ?_⟩) hHeld ?_
  rotate_left
  · intro w hSw; obtain ⟨B, z1, z2, z3, z4, z5, z6, x1, x2, x3, x4, x5, x6⟩ := hSw; first | (go_simp; done) | (go_simp; with_reducible rfl)
  refine wpAnyH_ready (rs := [4]) (by kernel_rfl) (by simp) ?_
  refine AllReadyH.cons rfl (fun K hK => ?_) AllReadyH.nil
  go_simp
  go_wp2_with (go_at_call 71; (with_reducible refine (HP1.out _ hHeld.B).mono ?_); rintro e w11 ⟨rfl, hb11⟩)
  have S11 := hHeld.on hb11
  refine hK.out _ _ ?_ (fun hHeld => ?_)
  · exact S11
  clear hK K
  refine wpAnyH_ready (rs := [6]) (by kernel_rfl) (by simp) ?_
  refine AllReadyH.cons rfl (fun K hK => ?_) AllReadyH.nil
  go_simp
  go_wp2_with (go_at_call 72; (with_reducible refine (HL1.out _).mono ?_); rintro e w12 ⟨rfl, hb12⟩)
  have S12 := hHeld.on hb12
  refine hK.out _ _ ?_ (fun hHeld => ?_)
  · exact S12
  clear hK K
  refine wpAnyH_ready (rs := [11]) (by kernel_rfl) (by simp) ?_
  refine AllReadyH.cons rfl (fun K hK => ?_) AllReadyH.nil
  go_simp
  go_wp2_with (go_at_call 71; (with_reducible refine (HP2.out _ hHeld.B).mono ?_); rintro e w13 ⟨rfl, hb13⟩)
  have S13 := hHeld.on hb13
  refine hK.out _ _ ?_ (fun hHeld => ?_)
  · exact S13
  clear hK K
  refine wpAnyH_ready (rs := [13]) (by kernel_rfl) (by simp) ?_
  refine AllReadyH.cons rfl (fun K hK => ?_) AllReadyH.nil
  go_simp
  go_wp2_with (go_at_call 72; (with_reducible refine (HL2.out _).mono ?_); rintro e w14 ⟨rfl, hb14⟩)
  have S14 := hHeld.on hb14
  refine hK.out _ _ ?_ (fun hHeld => ?_)
  · exact S14
  clear hK K
  refine wpAnyH_take (i := 14) (v := ?_) rfl (by kernel_rfl) (by kernel_rfl) (by kernel_rfl) (fun _ _ _ h => h) (Or.inl ⟨by kernel_rfl, ?_⟩) hHeld ?_
  rotate_left
  · intro w hSw; obtain ⟨B, z1, z2, z3, z4, z5, z6, x1, x2, x3, x4, x5, x6⟩ := hSw; first | (go_simp; done) | (go_simp; with_reducible rfl)
  refine wpAnyH_take (i := 15) (v := ?_) rfl (by kernel_rfl) (by kernel_rfl) (by kernel_rfl) (fun _ _ _ h => h) (Or.inl ⟨by kernel_rfl, ?_⟩) hHeld ?_
  rotate_left
  · intro w hSw; obtain ⟨B, z1, z2, z3, z4, z5, z6, x1, x2, x3, x4, x5, x6⟩ := hSw; first | (go_simp; done) | (go_simp; with_reducible rfl)
  refine wpAnyH_done (by kernel_rfl) ?_ _
  clear hHeld S0
  go_wp2
  all_goals
    go_ret
    refine ⟨?_, S14.B⟩
    rw [← HE.out _ rfl]
    refine congrArg (fun b => Ending.returned (.bool b)) ?_
    first
    | (simp [*]; done)
    | (by_cases h1 : u = v <;> by_cases h2 : u = 42 <;> by_cases h3 : v = 42 <;> simp_all; done)

set_option maxRecDepth 8000 in
set_option maxHeartbeats 4000000 in
theorem specApart (x1 x2 y1 y2 t1 t2 : Int) (w : World) (hx : angOk x1 x2) (hy : angOk y1 y2) (ht : angOk t1 t2) :
    Calls Try.prog 42 #[ang x1 x2, ang y1 y2, ang t1 t2] w fun e w' => e = .returned (.bool (sepB (x1, x2) (y1, y2) (t1, t2))) ∧ Below w.heap.size w w' := by
  have HL1 := Lib.hid (fun W => specLet x1 x2 t1 t2 W hx ht)
  have HL2 := Lib.hid (fun W => specLet y1 y2 t1 t2 W hy ht)
  have HE : Hid (∀ r : Bool, r = (decide (ltrI x1 x2 t1 t2 ≠ ltrI y1 y2 t1 t2) && decide (ltrI x1 x2 t1 t2 ≠ 42) && decide (ltrI y1 y2 t1 t2 ≠ 42)) → r = sepB (x1, x2) (y1, y2) (t1, t2)) := Lib.hid (fun r h => h)
  have HU := Lib.hid (ltr_three x1 x2 t1 t2)
  have HV := Lib.hid (ltr_three y1 y2 t1 t2)
  generalize sepB (x1, x2) (y1, y2) (t1, t2) = R at *
  generalize ltrI x1 x2 t1 t2 = u at *
  generalize ltrI y1 y2 t1 t2 = v at *
  clear hx hy ht
  go_enter Try.func42, Try.ntmps42
  go_wp2_with fail
  have S0 : (H6 w ⟨w.heap.size, 0, none⟩ ⟨w.heap.size, 1, none⟩ ⟨w.heap.size + 1, 0, none⟩ ⟨w.heap.size + 1, 1, none⟩ ⟨w.heap.size + 1 + 1, 0, none⟩ ⟨w.heap.size + 1 + 1, 1, none⟩ (.int .i64 x1) (.int .i64 x2) (.int .i64 y1) (.int .i64 y2) (.int .i64 t1) (.int .i64 t2)) (((w.alloc (.cells #[.int .i64 x1, .int .i64 x2] 27)).alloc (.cells #[.int .i64 y1, .int .i64 y2] 27)).alloc (.cells #[.int .i64 t1, .int .i64 t2] 27)) := by
    refine ⟨?_, by simp <;> omega, by simp <;> omega, by simp <;> omega, by simp <;> omega, by simp <;> omega, by simp <;> omega, ?_, ?_, ?_, ?_, ?_, ?_⟩
    · (repeat' (first | (with_reducible exact Below.refl _ _) | (with_reducible assumption) | (with_reducible refine belowNext ?_ (by with_reducible assumption)) | (with_reducible refine belowAlloc ?_ _) | (with_reducible refine Below.drew ?_) | (with_reducible refine below_drewN ?_ _) | (with_reducible refine Below.setCell ?_ ?_ _) | go_size | (with_reducible refine sizeOf' ?_) | (with_reducible refine sizeAdd ?_) | (dsimp only; first | (with_reducible refine sizeOf' ?_) | (with_reducible refine sizeAdd ?_))))
    all_goals simp [go_sem]
  refine wp_region_held_drew (S := (H6 w ⟨w.heap.size, 0, none⟩ ⟨w.heap.size, 1, none⟩ ⟨w.heap.size + 1, 0, none⟩ ⟨w.heap.size + 1, 1, none⟩ ⟨w.heap.size + 1 + 1, 0, none⟩ ⟨w.heap.size + 1 + 1, 1, none⟩ (.int .i64 x1) (.int .i64 x2) (.int .i64 y1) (.int .i64 y2) (.int .i64 t1) (.int .i64 t2))) (by kernel_rfl) ?_ (fun hHeld => ?_)
  · exact S0.on (Below.refl _ _).drew
  refine wpAnyH_take (i := 0) (v := ?_) rfl (by kernel_rfl) (by kernel_rfl) (by kernel_rfl) (fun _ _ _ h => h) (Or.inl ⟨by kernel_rfl, ?_⟩) hHeld ?_
  rotate_left
  · intro w hSw; obtain ⟨B, z1, z2, z3, z4, z5, z6, k1, k2, k3, k4, k5, k6⟩ := hSw; first | (go_simp; done) | (go_simp; with_reducible rfl)
  refine wpAnyH_take (i := 1) (v := ?_) rfl (by kernel_rfl) (by kernel_rfl) (by kernel_rfl) (fun _ _ _ h => h) (Or.inl ⟨by kernel_rfl, ?_⟩) hHeld ?_
  rotate_left
  · intro w hSw; obtain ⟨B, z1, z2, z3, z4, z5, z6, k1, k2, k3, k4, k5, k6⟩ := hSw; first | (go_simp; done) | (go_simp; with_reducible rfl)
  refine wpAnyH_take (i := 3) (v := ?_) rfl (by kernel_rfl) (by kernel_rfl) (by kernel_rfl) (fun _ _ _ h => h) (Or.inl ⟨by kernel_rfl, ?_⟩) hHeld ?_
  rotate_left
  · intro w hSw; obtain ⟨B, z1, z2, z3, z4, z5, z6, k1, k2, k3, k4, k5, k6⟩ := hSw; first | (go_simp; done) | (go_simp; with_reducible rfl)
  refine wpAnyH_take (i := 4) (v := ?_) rfl (by kernel_rfl) (by kernel_rfl) (by kernel_rfl) (fun _ _ _ h => h) (Or.inl ⟨by kernel_rfl, ?_⟩) hHeld ?_
  rotate_left
  · intro w hSw; obtain ⟨B, z1, z2, z3, z4, z5, z6, k1, k2, k3, k4, k5, k6⟩ := hSw; first | (go_simp; done) | (go_simp; with_reducible rfl)
  refine wpAnyH_ready (rs := [2]) (by kernel_rfl) (by simp) ?_
  refine AllReadyH.cons rfl (fun K hK => ?_) AllReadyH.nil
  go_simp
  go_wp2_with (go_at_call 70; (with_reducible refine (HL1.out _).mono ?_); rintro e w11 ⟨rfl, hb11⟩)
  have S11 := hHeld.on hb11
  refine hK.out _ _ ?_ (fun hHeld => ?_)
  · exact S11
  clear hK K
  refine wpAnyH_ready (rs := [5]) (by kernel_rfl) (by simp) ?_
  refine AllReadyH.cons rfl (fun K hK => ?_) AllReadyH.nil
  go_simp
  go_wp2_with (go_at_call 70; (with_reducible refine (HL2.out _).mono ?_); rintro e w12 ⟨rfl, hb12⟩)
  have S12 := hHeld.on hb12
  refine hK.out _ _ ?_ (fun hHeld => ?_)
  · exact S12
  clear hK K
  refine wpAnyH_take (i := 6) (v := ?_) rfl (by kernel_rfl) (by kernel_rfl) (by kernel_rfl) (fun _ _ _ h => h) (Or.inl ⟨by kernel_rfl, ?_⟩) hHeld ?_
  rotate_left
  · intro w hSw; obtain ⟨B, z1, z2, z3, z4, z5, z6, k1, k2, k3, k4, k5, k6⟩ := hSw; first | (go_simp; done) | (go_simp; with_reducible rfl)
  refine wpAnyH_take (i := 7) (v := ?_) rfl (by kernel_rfl) (by kernel_rfl) (by kernel_rfl) (fun _ _ _ h => h) (Or.inl ⟨by kernel_rfl, ?_⟩) hHeld ?_
  rotate_left
  · intro w hSw; obtain ⟨B, z1, z2, z3, z4, z5, z6, k1, k2, k3, k4, k5, k6⟩ := hSw; first | (go_simp; done) | (go_simp; with_reducible rfl)
  refine wpAnyH_done (by kernel_rfl) ?_ _
  clear hHeld S0
  go_wp2
  all_goals
    go_ret
    refine ⟨?_, S12.B⟩
    rw [← HE.out _ rfl]
    refine congrArg (fun b => Ending.returned (.bool b)) ?_
    rcases HU.out with h | h | h <;> rcases HV.out with h' | h' | h' <;> simp_all

theorem prL_bnd {m : Nat} (hm : m ≤ 7) : ∀ p ∈ prL m, 1 ≤ p.1 ∧ p.1 < p.2 ∧ p.2 ≤ (m : Int) := by
  have : ∀ k : Fin 8, ∀ p ∈ prL k.1, 1 ≤ p.1 ∧ p.1 < p.2 ∧ p.2 ≤ (k.1 : Int) := by decide
  exact this ⟨m, by omega⟩
/-- A pair whose angles are separated. -/
def sepP (L : List (Int × Int)) (p : Int × Int) : Bool := sepB (cA L (p.1 - 1).toNat) (cA L (p.2 - 1).toNat) (cA L 0)
/-- The separated ones among the first k pairs. -/
def sepK (L : List (Int × Int)) (m k : Nat) : List (Int × Int) := ((prL m).take k).filter (sepP L)
theorem sepK_zero (L : List (Int × Int)) (m : Nat) : sepK L m 0 = [] := rfl
theorem sepK_yes {L : List (Int × Int)} {m k : Nat} (h : k < (prL m).length) (hs : sepP L (prL m)[k] = true) : sepK L m (k + 1) = sepK L m k ++ [(prL m)[k]] := by
  unfold sepK
  rw [List.take_succ_eq_append_getElem h, List.filter_append]
  simp [hs]
theorem sepK_no {L : List (Int × Int)} {m k : Nat} (h : k < (prL m).length) (hs : sepP L (prL m)[k] = false) : sepK L m (k + 1) = sepK L m k := by
  unfold sepK
  rw [List.take_succ_eq_append_getElem h, List.filter_append]
  simp [hs]
theorem sepK_len (L : List (Int × Int)) (m k : Nat) (hm : m ≤ 7) : (sepK L m k).length ≤ 21 := by
  unfold sepK
  refine Nat.le_trans (List.length_filter_le _ _) ?_
  rw [List.length_take]
  have := prL_len hm
  omega
theorem tab_ex {W : World} {lo : Nat} {A : Option Addr} {n : Nat} {ln : Nat → Nat} {f : Tab} (h : TabOwn W lo A n ln f) : ∃ g off bb oo, 0 < n → A = some ⟨g, off, none⟩ ∧ TabAt W lo g off bb oo n ln f := by
  rcases Nat.eq_zero_or_pos n with h0 | h0
  · exact ⟨0, 0, fun _ => 0, fun _ => 0, fun h => absurd h (by omega)⟩
  · obtain ⟨g, off, bb, oo, e⟩ := h h0
    exact ⟨g, off, bb, oo, fun _ => e⟩
theorem ang_rowT {w : World} {lo : Nat} {A : Option Addr} {l : List (Int × Int)} (h : AngOwn w lo A l) {W : World} (hb : Below w.heap.size w W) : AngRow W W.heap.size A l := (h.row.below hb).more hb.size

set_option maxRecDepth 8000 in
set_option maxHeartbeats 4000000 in
theorem implSP (n d : Int) (w : World) : Calls Try.prog 19 #[ang n d] w (ResTab w (sepK (o8 n d) (o8 n d).length 21).length (fun _ => 2) (pF (sepK (o8 n d) (o8 n d).length 21)) (c8 n d)) := by
  have HO := Lib.hid (fun w => implPT n d w)
  have hm7 := o8_len n d
  have hang := o8_ang n d
  obtain ⟨i0, hi, hz0, hz1, hz2⟩ := infoS8_parts
  have HI := Lib.hid hi
  have HZ0 := Lib.hid hz0
  clear hi hz0
  generalize o8 n d = L at *
  generalize c8 n d = C at *
  obtain ⟨m, hm⟩ : ∃ m, L.length = m := ⟨_, rfl⟩
  rw [hm] at hm7 ⊢
  have hN21 := prL_len hm7
  obtain ⟨N, hN⟩ : ∃ N, (prL m).length = N := ⟨_, rfl⟩
  have HNn := Lib.hid hN
  rw [hN] at hN21
  have HE21 : Hid (sepK L m N = sepK L m 21) := Lib.hid (by unfold sepK; rw [List.take_of_length_le (by omega), List.take_of_length_le (by omega)])
  have HBd := Lib.hid (prL_bnd hm7)
  have HAng := Lib.hid hang
  have HLm := Lib.hid hm
  clear hN hang hm
  go_enter Try.func19, Try.ntmps19
  go_wp2_with fail
  refine (HO.out _).mono ?_
  rintro e w1 ⟨A, cap, A2, cap2, rfl, ha, ht, hb1⟩
  rw [HLm.out] at ht ⊢
  rw [HNn.out] at ht ⊢
  obtain ⟨g, off, bb, oo, hTab⟩ := tab_ex (ht.low (lo' := w.heap.size) (by simp))
  have hzw : w.heap.size < w1.heap.size := by have := hb1.size; simp at this; omega
  have B1 : Below w.heap.size w w1 := by
    (repeat' (first | (with_reducible exact Below.refl _ _) | (with_reducible assumption) | (with_reducible refine belowNext ?_ (by with_reducible assumption)) | (with_reducible refine belowAlloc ?_ _) | (with_reducible refine Below.drew ?_) | (with_reducible refine below_drewN ?_ _) | (with_reducible refine Below.setCell ?_ ?_ _) | go_size | (with_reducible refine sizeOf' ?_) | (with_reducible refine sizeAdd ?_) | (dsimp only; first | (with_reducible refine sizeOf' ?_) | (with_reducible refine sizeAdd ?_))))
  obtain ⟨G, hG⟩ : ∃ G, w1.heap.size = G := ⟨_, rfl⟩
  have HG := Lib.hid hG
  have HOw := Lib.hid ha
  have HTab := Lib.hid hTab
  clear ha ht hb1 hTab hG
  have hNI : 0 ≤ (N : Int) := by omega
  go_wp2_with fail
  rw [HG.out]
  obtain ⟨wT, hwT⟩ : ∃ wT, w1.alloc (.cells #[.slice A m cap, .slice A2 N cap2] 53) = wT := ⟨_, rfl⟩
  have BT : Below w1.heap.size w1 wT := by rw [← hwT]; exact belowAlloc (Below.refl _ _) _
  obtain ⟨Z, hZ⟩ : ∃ Z, wT.heap.size = Z := ⟨_, rfl⟩
  have hZG : G + 1 = Z := by rw [← hZ, ← hwT, ← HG.out]; simp
  have t0 : wT.cell? ⟨G, 0, none⟩ = some (.slice A m cap) := by rw [← hwT, ← HG.out]; simp [go_sem]
  have t1 : wT.cell? ⟨G, 1, none⟩ = some (.slice A2 N cap2) := by rw [← hwT, ← HG.out]; simp [go_sem]
  have BwT : Below w.heap.size w wT := belowNext B1 BT
  have hZw : w.heap.size ≤ Z := by rw [← hZ]; exact BwT.size
  have HRow := Lib.hid (fun W (hB : Below Z wT W) => ang_rowT HOw.out (BT.trans (hB.mono (by rw [← hZ]; exact BT.size))))
  have HT : Hid (0 < N → A2 = some ⟨g, off, none⟩ ∧ TabAt wT w.heap.size g off bb oo N (fun _ => 2) (pF (prL m))) := Lib.hid (fun h => ⟨(HTab.out h).1, (HTab.out h).2.next BT⟩)
  have HwT := Lib.hid hwT
  have HZ := Lib.hid hZ
  rw [hwT]
  clear BT HTab hwT hZ B1
  go_wp2
  go_loopg [6, 8, 17] N (fun g s6 _ ix wr => ∃ (k q : Nat) (v : Value), k + g = N ∧ ix = .int .i64 k ∧ s6 = v ∧ Hid ((sepK L m k).length = q) ∧ Hid (∃ bb' oo', RowsAt wr w.heap.size v q (fun _ => 2) (pF (sepK L m k)) bb' oo' ∧ (∀ i, i < q → ∃ t, t < k ∧ bb' i = bb t ∧ oo' i = oo t) ∧ ∀ j, v.ownBlock = some j → Z ≤ j) ∧ Hid (Below Z wT wr))
  case atStart => exact ⟨0, 0, _, by omega, rfl, rfl, Lib.hid rfl, Lib.hid ⟨fun _ => 0, fun _ => 0, rowsAt_nil, fun i hi => absurd hi (by omega), fun j hj => by simp [Value.ownBlock] at hj⟩, Lib.hid (by have := HZ.out; subst this; exact Below.refl _ _)⟩
  case round =>
    obtain ⟨k, q, v, hkg, rfl, ev, HQ, HR, HBB⟩ := hrel
    have ev := ev.symm
    subst ev
    cases gk with
    | zero =>
      obtain rfl : k = N := by omega
      obtain ⟨bb', oo', hR, _⟩ := HR.out
      obtain ⟨xs, ho, hx⟩ := hR.own
      obtain ⟨A', c, rfl, _⟩ := ownForm8 ho
      have HTb : Hid (TabOwn wr w.heap.size A' q (fun _ => 2) (pF (sepK L m 21))) := Lib.hid (by
        have := hR.tab
        rw [HE21.out] at this
        exact this)
      have HQ2 : Hid ((sepK L m 21).length = q) := Lib.hid (by rw [← HE21.out]; exact HQ.out)
      have B2 : Below w.heap.size w wr := BwT.trans (HBB.out.mono (by omega))
      clear hkg hR ho hx HR HQ
      go_wp2
      go_ret2
      rw [HQ2.out]
      exact ⟨A', c, rfl, HTb.out, B2⟩
    | succ gk =>
      have hkN : k < N := by omega
      have hkm' : k < (prL m).length := by rw [HNn.out]; exact hkN
      obtain ⟨rfl, hT⟩ := HT.out (by omega)
      obtain ⟨Ai, ci, y0, hAi⟩ := hT.head k hkN
      obtain rfl := hAi (by omega)
      have hrow := hT.row k hkN (by omega)
      obtain ⟨c0, _⟩ := hT.cell k 0 hkN (by omega)
      obtain ⟨c1, _⟩ := hT.cell k 1 hkN (by omega)
      have hp := HBd.out (prL m)[k] (List.getElem_mem hkm')
      have e0 : pF (prL m) k 0 = (prL m)[k].1 := by unfold pF; rw [if_pos rfl, List.getD_eq_getElem?_getD, List.getElem?_eq_getElem hkm']; rfl
      have e1 : pF (prL m) k 1 = (prL m)[k].2 := by unfold pF; rw [if_neg (by omega), List.getD_eq_getElem?_getD, List.getElem?_eq_getElem hkm']; rfl
      rw [e0, Nat.add_zero] at c0
      rw [e1] at c1
      obtain ⟨Pp, hPp⟩ : ∃ Pp, (prL m)[k] = Pp := ⟨_, rfl⟩
      rw [hPp] at c0 c1 hp
      obtain ⟨a, c⟩ := Pp
      simp only at hp c0 c1
      obtain ⟨ka, hka⟩ : ∃ ka : Nat, a = (ka : Int) + 1 := ⟨(a - 1).toNat, by omega⟩
      obtain ⟨kb, hkb⟩ : ∃ kb : Nat, c = (kb : Int) + 1 := ⟨(c - 1).toNat, by omega⟩
      have hBz := HBB.out.size
      have hgz : g < Z := by rw [← HZ.out]; exact hT.gz
      have hbz : bb k < Z := by rw [← HZ.out]; exact hrow.2.1
      have HSep := Lib.hid (fun W (hB : Below Z wT W) => implSep A m cap (some ⟨g, off, none⟩) N cap2 L (some ⟨bb k, oo k, none⟩) ci a c ka kb W (HRow.out W hB) HLm.out hm7 HAng.out ⟨bb k, oo k, rfl, Nat.lt_of_lt_of_le (by rw [HZ.out]; exact hbz) hB.size, (hB.cell (p := ⟨bb k, oo k, none⟩) hbz).trans c0, (hB.cell (p := ⟨bb k, oo k + 1, none⟩) hbz).trans c1⟩ (by omega) hka (by omega) hkb)
      have HSe : Hid (sepB (cA L ka) (cA L kb) (cA L 0) = sepP L (prL m)[k]) := Lib.hid (by
        rw [hPp]
        show sepB (cA L ka) (cA L kb) (cA L 0) = sepB (cA L (a - 1).toNat) (cA L (c - 1).toNat) (cA L 0)
        rw [show (a - 1).toNat = ka by omega, show (c - 1).toNat = kb by omega])
      obtain ⟨S, hS⟩ : ∃ S, sepB (cA L ka) (cA L kb) (cA L 0) = S := ⟨_, rfl⟩
      have HSy : Hid (sepP L (prL m)[k] = S) := Lib.hid (by rw [← HSe.out]; exact hS)
      rw [hS] at HSep
      have y0 : wr.cell? ⟨g, off + k, none⟩ = some (.slice (some ⟨bb k, oo k, none⟩) 2 ci) := (HBB.out.cell (p := ⟨g, off + k, none⟩) hgz).trans y0
      have q0 : wr.cell? ⟨G, 0, none⟩ = some (.slice A m cap) := (HBB.out.cell (p := ⟨G, 0, none⟩) (by show G < Z; omega)).trans t0
      have q1 : wr.cell? ⟨G, 1, none⟩ = some (.slice (some ⟨g, off, none⟩) N cap2) := (HBB.out.cell (p := ⟨G, 1, none⟩) (by show G < Z; omega)).trans t1
      have hZs := HZ.out
      have hgw : g < wr.heap.size := by omega
      have hGw : G < wr.heap.size := by omega
      have HKG := Lib.hid hkg
      clear hT hAi hrow c0 c1 hp e0 e1 hPp hka hkb hS HSe hkg hZs
      go_wp2_with fail
      refine (HSep.out _ HBB.out).mono ?_
      rintro e w2 ⟨rfl, hb2⟩
      have HBB2 := Lib.hid (HBB.out.trans (hb2.mono (by rw [← HZ.out]; exact hBz)))
      cases S
      · have HQ2 : Hid ((sepK L m (k + 1)).length = q) := Lib.hid (by rw [sepK_no hkm' HSy.out]; exact HQ.out)
        have HR2 : Hid (∃ bb' oo', RowsAt w2 w.heap.size v q (fun _ => 2) (pF (sepK L m (k + 1))) bb' oo' ∧ (∀ i, i < q → ∃ t, t < k + 1 ∧ bb' i = bb t ∧ oo' i = oo t) ∧ ∀ j, v.ownBlock = some j → Z ≤ j) := Lib.hid (by
          obtain ⟨bb', oo', h1, h2, h3⟩ := HR.out
          rw [sepK_no hkm' HSy.out]
          exact ⟨bb', oo', h1.next hb2, fun i hi => by obtain ⟨t, a, b⟩ := h2 i hi; exact ⟨t, by omega, b⟩, h3⟩)
        clear HR HQ HBB hb2 y0 q0 q1
        go_wp2
        go_roundg gk
        case measure => omega
        case rel => exact ⟨k + 1, q, v, by have := HKG.out; omega, by go_num, rfl, HQ2, HR2, HBB2⟩
      · obtain ⟨bb', oo', hR, hRt, hRo⟩ := HR.out
        obtain ⟨xs, hown, hx⟩ := (hR.next hb2).own
        have HRR := Lib.hid (And.intro (hR.next hb2) (And.intro hx (And.intro hRt hRo)))
        have hi := HI.out
        have hz0 := HZ0.out
        have hzS : w.heap.size ≤ w2.heap.size := Nat.le_trans BwT.size (by have := hb2.size; have := HZ.out; omega)
        have HX := Lib.hid hown.1
        have hq21 := sepK_len L m k hm7
        rw [HQ.out] at hq21
        have HBBs := HBB2.out.size
        clear hR hRt hRo hx HR HBB q0 q1 y0 hb2
        go_wp2_with (at_builtin; refine wpList_append_own_at _ rfl _ _ 24 rfl w.heap.size 32 i0 (.slice none 0 0) 1 24 Try.underlying24 hi hz0 hz1 hz2 rfl (by decide) v q xs rfl (World.ownsRow.alloc hown _) ⟨w2.heap.size, 0, none⟩ 1 1 [.slice (some ⟨bb k, oo k, none⟩) 2 ci] rfl rfl (cell_one_new _ _ _) ?c2 ?c3 ?c4 ?c5 ?_)
        case c2 => first | rfl | (intro u hu; simp at hu; subst hu; rfl)
        case c3 => unfold maxLen; omega
        case c4 => omega
        case c5 => first | omega | (simp; omega)
        intro v' w3 hown' hgrow _ hat
        have HE : Hid (∃ bb' oo', RowsAt w3 w.heap.size v' (q + 1) (fun _ => 2) (pF (sepK L m (k + 1))) bb' oo' ∧ (∀ i, i < q + 1 → ∃ t, t < k + 1 ∧ bb' i = bb t ∧ oo' i = oo t) ∧ ∀ j, v'.ownBlock = some j → Z ≤ j) := Lib.hid (by
          have hb : Below w2.heap.size w2 (w2.alloc (.cells #[.slice (some ⟨bb k, oo k, none⟩) 2 ci] 32)) := belowAlloc (Below.refl _ _) _
          have hT := (HT.out (by omega)).2
          have hBB := HBB2.out
          have hrow := hT.row k hkN (by omega)
          have h := RowsAt.push (W := w2.alloc (.cells #[.slice (some ⟨bb k, oo k, none⟩) 2 ci] 32)) (b := bb k) (o := oo k) (m := 2) (r := pF (prL m) k) (HRR.out.1.next hb) (xs := xs) HRR.out.2.1 (by have := HX.out; omega) (A := some ⟨bb k, oo k, none⟩) (cap := ci)
            (fun _ => ⟨rfl, hrow.1, by have := hBB.size; simp; omega, (fun e => by have h1 := HRR.out.2.2.2 _ e.symm; have h2 := HZ.out; have h3 := hrow.2.1; omega), fun j' hj' => by
              obtain ⟨a1, a2⟩ := hT.cell k j' hkN hj'
              have hlt : bb k < Z := by rw [← HZ.out]; exact hrow.2.1
              have hltW : bb k < w2.heap.size := Nat.lt_of_lt_of_le hlt (by rw [← HZ.out]; exact hBB.size)
              exact ⟨cellThru hb hltW ((hBB.cell (p := ⟨bb k, _, none⟩) hlt).trans a1), frozThru hb hltW ((hBB.frozen (p := ⟨bb k, _, none⟩) hlt).trans a2)⟩⟩) (fun i j' kk hi hj' hkk he => by
              obtain ⟨t, ht, e1, e2⟩ := HRR.out.2.2.1 i hi
              rw [e2]
              rw [e1] at he
              exact hT.apart t k j' kk (by omega) hkN (by omega) hj' hkk he) hown' hgrow (by
              rcases hat with e | e
              · exact .inl e
              · exact .inr ⟨_, e, by simp⟩)
          refine ⟨_, _, h.congr (fun i hi => by by_cases e : i = q <;> simp [e]) (fun i j' hi hj' => ?_), fun i hi => ?_, fun j' hj' => ?_⟩
          · rw [sepK_yes hkm' HSy.out]
            by_cases e : i = q
            · subst e
              rw [if_pos rfl, ← HQ.out, pF_new]
              unfold pF
              rw [List.getD_eq_getElem?_getD, List.getElem?_eq_getElem hkm']; rfl
            · rw [if_neg e]
              exact pF_old (by rw [HQ.out]; omega)
          · by_cases e : i = q
            · exact ⟨k, by omega, by simp [e], by simp [e]⟩
            · obtain ⟨t, ht, e1, e2⟩ := HRR.out.2.2.1 i (by omega)
              exact ⟨t, by omega, by simp only [if_neg e]; exact e1, by simp only [if_neg e]; exact e2⟩
          · rcases hat with e | e
            · rw [e] at hj'; exact HRR.out.2.2.2 _ hj'
            · rw [e] at hj'; have h1 := Option.some.inj hj'; have h2 := hBB.size; have h3 := HZ.out; omega)
        have HQ2 : Hid ((sepK L m (k + 1)).length = q + 1) := Lib.hid (by rw [sepK_yes hkm' HSy.out, List.length_append, HQ.out]; rfl)
        have HB1 : Below Z wT w3 := below_grown8 (show Below Z wT (w2.alloc _) from HBB2.out.trans ((belowAlloc (Below.refl _ _) _).mono (by have := HBB2.out.size; have := HZ.out; omega))) hgrow (fun j e => HRR.out.2.2.2 j e) (by have := HBB2.out.size; have := HZ.out; simp; omega)
        clear hown hown' hgrow hzS hi hz0 HRR HX hat HQ HBB2 HBBs
        go_wp2
        go_roundg gk
        case measure => omega
        case rel => exact ⟨k + 1, q + 1, v', by have := HKG.out; omega, by go_num, rfl, HQ2, HE, Lib.hid HB1⟩

set_option maxRecDepth 8000 in
set_option maxHeartbeats 4000000 in
theorem specSP (n d : Int) (w : World) : Calls Try.prog 18 #[ang n d] w (ResTabR w (sepK (o8 n d) (o8 n d).length 21).length (fun _ => 2) (pF (sepK (o8 n d) (o8 n d).length 21)) (c8 n d)) := by
  have HO := Lib.hid (fun w => specOrb8 n d w)
  have hm7 := o8_len n d
  have hang := o8_ang n d
  by_cases hC : c8 n d = 0
  · obtain ⟨i0, hi, hz0, hz1, hz2⟩ := infoS8_parts
    have HI := Lib.hid hi
    have HZ0 := Lib.hid hz0
    clear hi hz0
    have hok : angOk n d := by
      rcases o8_cases n d with ⟨_, _, e, _⟩ | ⟨_, _, e, _⟩ | ⟨_, _, e, _⟩ | ⟨_, _, _, _, _, e⟩
      · omega
      · omega
      · omega
      · exact isAng_ok e
    have hfirst : 0 < (o8 n d).length → cA (o8 n d) 0 = (n, d) := o8_first
    rw [hC] at HO ⊢
    clear hC
    generalize o8 n d = L at *
    obtain ⟨m, hm⟩ : ∃ m, L.length = m := ⟨_, rfl⟩
    rw [hm] at hm7 hfirst ⊢
    have HPr := Lib.hid (fun w => specPairs8 m hm7 w)
    have hN21 := prL_len hm7
    obtain ⟨N, hN⟩ : ∃ N, (prL m).length = N := ⟨_, rfl⟩
    have HNn := Lib.hid hN
    rw [hN] at hN21 HPr
    have HE21 : Hid (sepK L m N = sepK L m 21) := Lib.hid (by unfold sepK; rw [List.take_of_length_le (by omega), List.take_of_length_le (by omega)])
    have HBd := Lib.hid (prL_bnd hm7)
    have HAng := Lib.hid hang
    have HLm := Lib.hid hm
    have HFi := Lib.hid hfirst
    clear hN hang hm hfirst
    go_enter Try.func18, Try.ntmps18
    go_wp2_with fail
    refine (HO.out _).mono ?_
    rintro e w1 ⟨A, cap, rfl, ha, hb1⟩
    rw [HLm.out]
    have q0 : w1.cell? ⟨w.heap.size, 0, none⟩ = some (.int .i64 n) := cellThru hb1 (by simp) (by simp [go_sem])
    have q1 : w1.cell? ⟨w.heap.size, 1, none⟩ = some (.int .i64 d) := cellThru hb1 (by simp) (by simp [go_sem])
    have hzw : w.heap.size < w1.heap.size := by have := hb1.size; simp at this; omega
    have B1 : Below w.heap.size w w1 := by
      (repeat' (first | (with_reducible exact Below.refl _ _) | (with_reducible assumption) | (with_reducible refine belowNext ?_ (by with_reducible assumption)) | (with_reducible refine belowAlloc ?_ _) | (with_reducible refine Below.drew ?_) | (with_reducible refine below_drewN ?_ _) | (with_reducible refine Below.setCell ?_ ?_ _) | go_size | (with_reducible refine sizeOf' ?_) | (with_reducible refine sizeAdd ?_) | (dsimp only; first | (with_reducible refine sizeOf' ?_) | (with_reducible refine sizeAdd ?_))))
    have HOw := Lib.hid ha
    clear ha hb1
    go_wp2_with fail
    refine (HPr.out _).mono ?_
    rintro e w2 ⟨A2, cap2, rfl, ht, hb2⟩
    obtain ⟨g, off, bb, oo, hTab⟩ := tab_ex (ht.out.low (lo' := w.heap.size) (by omega))
    have q0 : w2.cell? ⟨w.heap.size, 0, none⟩ = some (.int .i64 n) := cellThru hb2 hzw q0
    have q1 : w2.cell? ⟨w.heap.size, 1, none⟩ = some (.int .i64 d) := cellThru hb2 hzw q1
    have hzw2 : w.heap.size < w2.heap.size := Nat.lt_of_lt_of_le hzw hb2.size
    have B2 : Below w.heap.size w w2 := belowNext B1 hb2
    obtain ⟨ob, oof, hOrb⟩ : ∃ ob oof, 0 < m → A = some ⟨ob, oof, none⟩ ∧ ob < w2.heap.size ∧ ∀ i a b, L[i]? = some (a, b) → w2.cell? ⟨ob, oof + i * 2, none⟩ = some (.int .i64 a) ∧ w2.cell? ⟨ob, oof + i * 2 + 1, none⟩ = some (.int .i64 b) := by
      rcases Nat.eq_zero_or_pos m with h0 | h0
      · exact ⟨0, 0, fun h => absurd h (by omega)⟩
      · obtain ⟨ob, oof, e, h1, h2⟩ := ang_rowT HOw.out hb2 (by intro h; have := HLm.out; rw [h] at this; simp at this; omega)
        exact ⟨ob, oof, fun _ => ⟨e, h1, fun i a b hi => h2 i a b hi⟩⟩
    have HTab := Lib.hid hTab
    have HOrb := Lib.hid hOrb
    clear ht hTab B1 HOw hOrb hb2 hzw
    go_wp2_with fail
    obtain ⟨wT, hwT⟩ : ∃ wT, w2.alloc (.cells #[] 32) = wT := ⟨_, rfl⟩
    have BT : Below w2.heap.size w2 wT := by rw [← hwT]; exact belowAlloc (Below.refl _ _) _
    obtain ⟨Z, hZ⟩ : ∃ Z, wT.heap.size = Z := ⟨_, rfl⟩
    obtain ⟨Y, hY⟩ : ∃ Y, w2.heap.size = Y := ⟨_, rfl⟩
    have hYZ : Y + 1 = Z := by rw [← hZ, ← hwT, ← hY]; simp
    have HT : Hid (0 < N → A2 = some ⟨g, off, none⟩ ∧ TabAt w2 w.heap.size g off bb oo N (fun _ => 2) (pF (prL m))) := HTab
    have HR0 : Hid (RowsAt wT w.heap.size (.slice (some ⟨Y, 0, none⟩) 0 0) 0 (fun _ => 2) (pF (sepK L m 0)) (fun _ => 0) (fun _ => 0)) := Lib.hid (by rw [← hwT, ← hY]; exact rowsAt_lit (by omega))
    rw [hwT, hY]
    have HY := Lib.hid hY
    have BT2 : Below Y w2 wT := by rw [← hY]; exact BT
    clear HTab hwT BT hY hZ hYZ
    go_wp2_with fail
    go_loopg [7, 8] N (fun g s7 ix wr => ∃ (k q : Nat) (v : Value), k + g = N ∧ ix = .int .i64 k ∧ s7 = v ∧ Hid ((sepK L m k).length = q) ∧ Hid (∃ bb' oo', RowsAt wr w.heap.size v q (fun _ => 2) (pF (sepK L m k)) bb' oo' ∧ (∀ i, i < q → ∃ t, t < k ∧ bb' i = bb t ∧ oo' i = oo t) ∧ ∀ j, v.ownBlock = some j → Y ≤ j) ∧ Hid (Below Y w2 wr))
    case atStart => exact ⟨0, 0, _, by omega, rfl, rfl, Lib.hid rfl, Lib.hid ⟨fun _ => 0, fun _ => 0, HR0.out, fun i hi => absurd hi (by omega), fun j hj => by simp [Value.ownBlock] at hj; omega⟩, Lib.hid BT2⟩
    case round =>
      obtain ⟨k, q, v, hkg, rfl, ev, HQ, HR, HBB⟩ := hrel
      have ev := ev.symm
      subst ev
      cases gk with
      | zero =>
        obtain rfl : k = N := by omega
        obtain ⟨bb', oo', hR, _⟩ := HR.out
        obtain ⟨xs, ho, hx⟩ := hR.own
        obtain ⟨A', c, rfl, _⟩ := ownForm8 ho
        have HTb : Hid (TabOwn wr w.heap.size A' q (fun _ => 2) (pF (sepK L m 21))) := Lib.hid (by
          have := hR.tab
          rw [HE21.out] at this
          exact this)
        have HQ2 : Hid ((sepK L m 21).length = q) := Lib.hid (by rw [← HE21.out]; exact HQ.out)
        have B3 : Below w.heap.size w wr := B2.trans (HBB.out.mono (by have := HY.out; omega))
        clear hkg hR ho hx HR HQ
        go_wp2
        go_ret2
        rw [HQ2.out]
        exact ⟨A', c, rfl, HTb.out.rd, B3⟩
      | succ gk =>
        have hkN : k < N := by omega
        have hkNI : (k : Int) < (N : Int) := by omega
        have hkm' : k < (prL m).length := by rw [HNn.out]; exact hkN
        obtain ⟨rfl, hT⟩ := HT.out (by omega)
        obtain ⟨Ai, ci, y0, hAi⟩ := hT.head k hkN
        obtain rfl := hAi (by omega)
        have hrow := hT.row k hkN (by omega)
        obtain ⟨c0, _⟩ := hT.cell k 0 hkN (by omega)
        obtain ⟨c1, _⟩ := hT.cell k 1 hkN (by omega)
        have hp := HBd.out (prL m)[k] (List.getElem_mem hkm')
        have e0 : pF (prL m) k 0 = (prL m)[k].1 := by unfold pF; rw [if_pos rfl, List.getD_eq_getElem?_getD, List.getElem?_eq_getElem hkm']; rfl
        have e1 : pF (prL m) k 1 = (prL m)[k].2 := by unfold pF; rw [if_neg (by omega), List.getD_eq_getElem?_getD, List.getElem?_eq_getElem hkm']; rfl
        rw [e0, Nat.add_zero] at c0
        rw [e1] at c1
        obtain ⟨Pp, hPp⟩ : ∃ Pp, (prL m)[k] = Pp := ⟨_, rfl⟩
        rw [hPp] at c0 c1 hp
        obtain ⟨a, c⟩ := Pp
        simp only at hp c0 c1
        obtain ⟨ka, hka⟩ : ∃ ka : Nat, a = (ka : Int) + 1 := ⟨(a - 1).toNat, by omega⟩
        obtain ⟨kb, hkb⟩ : ∃ kb : Nat, c = (kb : Int) + 1 := ⟨(c - 1).toNat, by omega⟩
        obtain ⟨rfl, hobz, hoc⟩ := HOrb.out (by omega)
        have hkaL : ka < L.length := by rw [HLm.out]; omega
        have hkbL : kb < L.length := by rw [HLm.out]; omega
        obtain ⟨u1, u2⟩ := hoc ka _ _ (cA_some hkaL)
        obtain ⟨u3, u4⟩ := hoc kb _ _ (cA_some hkbL)
        have HAp := Lib.hid (fun W => specApart (cA L ka).1 (cA L ka).2 (cA L kb).1 (cA L kb).2 n d W (isAng_ok (cA_ang HAng.out hkaL)) (isAng_ok (cA_ang HAng.out hkbL)) hok)
        have HSe : Hid (sepB ((cA L ka).1, (cA L ka).2) ((cA L kb).1, (cA L kb).2) (n, d) = sepP L (prL m)[k]) := Lib.hid (by
          rw [hPp]
          show sepB (cA L ka) (cA L kb) (n, d) = sepB (cA L (a - 1).toNat) (cA L (c - 1).toNat) (cA L 0)
          rw [show (a - 1).toNat = ka by omega, show (c - 1).toNat = kb by omega, HFi.out (by omega)])
        obtain ⟨S, hS⟩ : ∃ S, sepB ((cA L ka).1, (cA L ka).2) ((cA L kb).1, (cA L kb).2) (n, d) = S := ⟨_, rfl⟩
        have HSy : Hid (sepP L (prL m)[k] = S) := Lib.hid (by rw [← HSe.out]; exact hS)
        rw [hS] at HAp
        generalize (cA L ka).1 = p1 at *
        generalize (cA L ka).2 = p2 at *
        generalize (cA L kb).1 = q1' at *
        generalize (cA L kb).2 = q2' at *
        have hYs := HY.out
        have hBs := HBB.out.size
        have hgz : g < w2.heap.size := hT.gz
        have hbz : bb k < w2.heap.size := hrow.2.1
        have HB' : Below w2.heap.size w2 wr := by rw [hYs]; exact HBB.out
        have S0 : (H9 w2 ⟨g, off + k, none⟩ ⟨bb k, oo k, none⟩ ⟨bb k, oo k + 1, none⟩ ⟨ob, oof + ka * 2, none⟩ ⟨ob, oof + ka * 2 + 1, none⟩ ⟨ob, oof + kb * 2, none⟩ ⟨ob, oof + kb * 2 + 1, none⟩ ⟨w.heap.size, 0, none⟩ ⟨w.heap.size, 1, none⟩ (.slice (some ⟨bb k, oo k, none⟩) 2 ci) (.int .i64 a) (.int .i64 c) (.int .i64 p1) (.int .i64 p2) (.int .i64 q1') (.int .i64 q2') (.int .i64 n) (.int .i64 d)) wr := ⟨HB', by show g < _; omega, by show bb k < _; omega, by show bb k < _; omega, by show ob < _; omega, by show ob < _; omega, by show ob < _; omega, by show ob < _; omega, by show w.heap.size < _; omega, by show w.heap.size < _; omega,
          cellThru HB' hgz y0, cellThru HB' hbz c0, cellThru HB' hbz c1, cellThru HB' hobz u1, cellThru HB' hobz u2, cellThru HB' hobz u3, cellThru HB' hobz u4, cellThru HB' hzw2 q0, cellThru HB' hzw2 q1⟩
        have wa : IntKind.i64.wrap (a - 1) = (ka : Int) := (IntWalk.i64_in _ (by omega)).trans (by omega)
        have wb : IntKind.i64.wrap (c - 1) = (kb : Int) := (IntWalk.i64_in _ (by omega)).trans (by omega)
        have hkaI : (ka : Int) < (m : Int) := by omega
        have hkbI : (kb : Int) < (m : Int) := by omega
        have hkaN : ka < m := by omega
        have hkbN : kb < m := by omega
        have HKG := Lib.hid hkg
        have HYk : Hid (Y ≤ wr.heap.size) := Lib.hid (by omega)
        have y0w := S0.x1
        have hgw := S0.z1
        clear hT hAi hrow c0 c1 hp e0 e1 hPp hka hkb hS HSe hkg hYs hBs hgz hbz HB' y0 u1 u2 u3 u4 hoc hobz hkaL hkbL
        go_wp2_with fail
        refine wp_region_held_drew (S := (H9 w2 ⟨g, off + k, none⟩ ⟨bb k, oo k, none⟩ ⟨bb k, oo k + 1, none⟩ ⟨ob, oof + ka * 2, none⟩ ⟨ob, oof + ka * 2 + 1, none⟩ ⟨ob, oof + kb * 2, none⟩ ⟨ob, oof + kb * 2 + 1, none⟩ ⟨w.heap.size, 0, none⟩ ⟨w.heap.size, 1, none⟩ (.slice (some ⟨bb k, oo k, none⟩) 2 ci) (.int .i64 a) (.int .i64 c) (.int .i64 p1) (.int .i64 p2) (.int .i64 q1') (.int .i64 q2') (.int .i64 n) (.int .i64 d))) (by kernel_rfl) ?_ (fun hHeld => ?_)
        · exact S0.on (Below.refl _ _).drew
        refine wpAnyH_take (i := 0) (v := ?_) rfl (by kernel_rfl) (by kernel_rfl) (by kernel_rfl) (fun _ _ _ h => h) (Or.inl ⟨by kernel_rfl, ?_⟩) hHeld ?_
        rotate_left
        · intro w hSw; obtain ⟨B, z1, z2, z3, z4, z5, z6, z7, z8, z9, x1, x2, x3, x4, x5, x6, x7, x8, x9⟩ := hSw; first | (go_simp; done) | (go_simp; with_reducible rfl)
        refine wpAnyH_take (i := 1) (v := ?_) rfl (by kernel_rfl) (by kernel_rfl) (by kernel_rfl) (fun _ _ _ h => h) (Or.inl ⟨by kernel_rfl, ?_⟩) hHeld ?_
        rotate_left
        · intro w hSw; obtain ⟨B, z1, z2, z3, z4, z5, z6, z7, z8, z9, x1, x2, x3, x4, x5, x6, x7, x8, x9⟩ := hSw; first | (go_simp; done) | (go_simp; with_reducible rfl)
        refine wpAnyH_take (i := 2) (v := ?_) rfl (by kernel_rfl) (by kernel_rfl) (by kernel_rfl) (fun _ _ _ h => h) (Or.inl ⟨by kernel_rfl, ?_⟩) hHeld ?_
        rotate_left
        · intro w hSw; obtain ⟨B, z1, z2, z3, z4, z5, z6, z7, z8, z9, x1, x2, x3, x4, x5, x6, x7, x8, x9⟩ := hSw; first | (go_simp; done) | (go_simp; with_reducible rfl)
        refine wpAnyH_take (i := 3) (v := ?_) rfl (by kernel_rfl) (by kernel_rfl) (by kernel_rfl) (fun _ _ _ h => h) (Or.inl ⟨by kernel_rfl, ?_⟩) hHeld ?_
        rotate_left
        · intro w hSw; obtain ⟨B, z1, z2, z3, z4, z5, z6, z7, z8, z9, x1, x2, x3, x4, x5, x6, x7, x8, x9⟩ := hSw; first | (go_simp; done) | (go_simp; with_reducible rfl)
        refine wpAnyH_take (i := 4) (v := ?_) rfl (by kernel_rfl) (by kernel_rfl) (by kernel_rfl) (fun _ _ _ h => h) (Or.inl ⟨by kernel_rfl, ?_⟩) hHeld ?_
        rotate_left
        · intro w hSw; obtain ⟨B, z1, z2, z3, z4, z5, z6, z7, z8, z9, x1, x2, x3, x4, x5, x6, x7, x8, x9⟩ := hSw; first | (go_simp; done) | (go_simp; with_reducible rfl)
        refine wpAnyH_take (i := 5) (v := ?_) rfl (by kernel_rfl) (by kernel_rfl) (by kernel_rfl) (fun _ _ _ h => h) (Or.inl ⟨by kernel_rfl, ?_⟩) hHeld ?_
        rotate_left
        · intro w hSw; obtain ⟨B, z1, z2, z3, z4, z5, z6, z7, z8, z9, x1, x2, x3, x4, x5, x6, x7, x8, x9⟩ := hSw; first | (go_simp; done) | (go_simp; with_reducible rfl)
        refine wpAnyH_take (i := 6) (v := ?_) rfl (by kernel_rfl) (by kernel_rfl) (by kernel_rfl) (fun _ _ _ h => h) (Or.inl ⟨by kernel_rfl, ?_⟩) hHeld ?_
        rotate_left
        · intro w hSw; obtain ⟨B, z1, z2, z3, z4, z5, z6, z7, z8, z9, x1, x2, x3, x4, x5, x6, x7, x8, x9⟩ := hSw; first | (go_simp; done) | (go_simp; with_reducible rfl)
        refine wpAnyH_take (i := 7) (v := ?_) rfl (by kernel_rfl) (by kernel_rfl) (by kernel_rfl) (fun _ _ _ h => h) (Or.inl ⟨by kernel_rfl, ?_⟩) hHeld ?_
        rotate_left
        · intro w hSw; obtain ⟨B, z1, z2, z3, z4, z5, z6, z7, z8, z9, x1, x2, x3, x4, x5, x6, x7, x8, x9⟩ := hSw; first | (go_simp; done) | (go_simp; with_reducible rfl)
        refine wpAnyH_take (i := 8) (v := ?_) rfl (by kernel_rfl) (by kernel_rfl) (by kernel_rfl) (fun _ _ _ h => h) (Or.inl ⟨by kernel_rfl, ?_⟩) hHeld ?_
        rotate_left
        · intro w hSw; obtain ⟨B, z1, z2, z3, z4, z5, z6, z7, z8, z9, x1, x2, x3, x4, x5, x6, x7, x8, x9⟩ := hSw; first | (go_simp; done) | (go_simp; with_reducible rfl)
        refine wpAnyH_take (i := 9) (v := ?_) rfl (by kernel_rfl) (by kernel_rfl) (by kernel_rfl) (fun _ _ _ h => h) (Or.inl ⟨by kernel_rfl, ?_⟩) hHeld ?_
        rotate_left
        · intro w hSw; obtain ⟨B, z1, z2, z3, z4, z5, z6, z7, z8, z9, x1, x2, x3, x4, x5, x6, x7, x8, x9⟩ := hSw; first | (go_simp; done) | (go_simp; with_reducible rfl)
        refine wpAnyH_take (i := 10) (v := ?_) rfl (by kernel_rfl) (by kernel_rfl) (by kernel_rfl) (fun _ _ _ h => h) (Or.inl ⟨by kernel_rfl, ?_⟩) hHeld ?_
        rotate_left
        · intro w hSw; obtain ⟨B, z1, z2, z3, z4, z5, z6, z7, z8, z9, x1, x2, x3, x4, x5, x6, x7, x8, x9⟩ := hSw; first | (go_simp; done) | (go_simp; with_reducible rfl)
        refine wpAnyH_take (i := 11) (v := ?_) rfl (by kernel_rfl) (by kernel_rfl) (by kernel_rfl) (fun _ _ _ h => h) (Or.inl ⟨by kernel_rfl, ?_⟩) hHeld ?_
        rotate_left
        · intro w hSw; obtain ⟨B, z1, z2, z3, z4, z5, z6, z7, z8, z9, x1, x2, x3, x4, x5, x6, x7, x8, x9⟩ := hSw; first | (go_simp; done) | (go_simp; with_reducible rfl)
        refine wpAnyH_take (i := 12) (v := ?_) rfl (by kernel_rfl) (by kernel_rfl) (by kernel_rfl) (fun _ _ _ h => h) (Or.inl ⟨by kernel_rfl, ?_⟩) hHeld ?_
        rotate_left
        · intro w hSw; obtain ⟨B, z1, z2, z3, z4, z5, z6, z7, z8, z9, x1, x2, x3, x4, x5, x6, x7, x8, x9⟩ := hSw; first | (go_simp; done) | (go_simp; with_reducible rfl)
        refine wpAnyH_take (i := 13) (v := ?_) rfl (by kernel_rfl) (by kernel_rfl) (by kernel_rfl) (fun _ _ _ h => h) (Or.inl ⟨by kernel_rfl, ?_⟩) hHeld ?_
        rotate_left
        · intro w hSw; obtain ⟨B, z1, z2, z3, z4, z5, z6, z7, z8, z9, x1, x2, x3, x4, x5, x6, x7, x8, x9⟩ := hSw; first | (go_simp; done) | (go_simp; with_reducible rfl)
        refine wpAnyH_take (i := 14) (v := ?_) rfl (by kernel_rfl) (by kernel_rfl) (by kernel_rfl) (fun _ _ _ h => h) (Or.inl ⟨by kernel_rfl, ?_⟩) hHeld ?_
        rotate_left
        · intro w hSw; obtain ⟨B, z1, z2, z3, z4, z5, z6, z7, z8, z9, x1, x2, x3, x4, x5, x6, x7, x8, x9⟩ := hSw; first | (go_simp; done) | (go_simp; with_reducible rfl)
        refine wpAnyH_take (i := 15) (v := ?_) rfl (by kernel_rfl) (by kernel_rfl) (by kernel_rfl) (fun _ _ _ h => h) (Or.inl ⟨by kernel_rfl, ?_⟩) hHeld ?_
        rotate_left
        · intro w hSw; obtain ⟨B, z1, z2, z3, z4, z5, z6, z7, z8, z9, x1, x2, x3, x4, x5, x6, x7, x8, x9⟩ := hSw; first | (go_simp; done) | (go_simp; with_reducible rfl)
        refine wpAnyH_take (i := 16) (v := ?_) rfl (by kernel_rfl) (by kernel_rfl) (by kernel_rfl) (fun _ _ _ h => h) (Or.inl ⟨by kernel_rfl, ?_⟩) hHeld ?_
        rotate_left
        · intro w hSw; obtain ⟨B, z1, z2, z3, z4, z5, z6, z7, z8, z9, x1, x2, x3, x4, x5, x6, x7, x8, x9⟩ := hSw; first | (go_simp; done) | (go_simp; with_reducible rfl)
        refine wpAnyH_take (i := 17) (v := ?_) rfl (by kernel_rfl) (by kernel_rfl) (by kernel_rfl) (fun _ _ _ h => h) (Or.inl ⟨by kernel_rfl, ?_⟩) hHeld ?_
        rotate_left
        · intro w hSw; obtain ⟨B, z1, z2, z3, z4, z5, z6, z7, z8, z9, x1, x2, x3, x4, x5, x6, x7, x8, x9⟩ := hSw; first | (go_simp; done) | (go_simp; with_reducible rfl)
        refine wpAnyH_take (i := 18) (v := ?_) rfl (by kernel_rfl) (by kernel_rfl) (by kernel_rfl) (fun _ _ _ h => h) (Or.inl ⟨by kernel_rfl, ?_⟩) hHeld ?_
        rotate_left
        · intro w hSw; obtain ⟨B, z1, z2, z3, z4, z5, z6, z7, z8, z9, x1, x2, x3, x4, x5, x6, x7, x8, x9⟩ := hSw; first | (go_simp; done) | (go_simp; with_reducible rfl)
        refine wpAnyH_take (i := 19) (v := ?_) rfl (by kernel_rfl) (by kernel_rfl) (by kernel_rfl) (fun _ _ _ h => h) (Or.inl ⟨by kernel_rfl, ?_⟩) hHeld ?_
        rotate_left
        · intro w hSw; obtain ⟨B, z1, z2, z3, z4, z5, z6, z7, z8, z9, x1, x2, x3, x4, x5, x6, x7, x8, x9⟩ := hSw; first | (go_simp; done) | (go_simp; with_reducible rfl)
        refine wpAnyH_take (i := 20) (v := ?_) rfl (by kernel_rfl) (by kernel_rfl) (by kernel_rfl) (fun _ _ _ h => h) (Or.inl ⟨by kernel_rfl, ?_⟩) hHeld ?_
        rotate_left
        · intro w hSw; obtain ⟨B, z1, z2, z3, z4, z5, z6, z7, z8, z9, x1, x2, x3, x4, x5, x6, x7, x8, x9⟩ := hSw; first | (go_simp; done) | (go_simp; with_reducible rfl)
        refine wpAnyH_ready (rs := [21]) (by kernel_rfl) (by simp) ?_
        refine AllReadyH.cons rfl (fun K hK => ?_) AllReadyH.nil
        go_simp
        go_wp2_with (go_at_call 42; (with_reducible refine (HAp.out _).mono ?_); rintro e w11 ⟨rfl, hb11⟩)
        have S11 := hHeld.on hb11
        refine hK.out _ _ ?_ (fun hHeld => ?_)
        · exact S11
        clear hK K
        refine wpAnyH_done (by kernel_rfl) ?_ _
        have hb11 : Below wr.heap.size wr w11 := ((Below.refl _ _).drew).trans hb11
        have HBB2 := Lib.hid (HBB.out.trans (hb11.mono HYk.out))
        have y0w : w11.cell? ⟨g, off + k, none⟩ = some (.slice (some ⟨bb k, oo k, none⟩) 2 ci) := S11.x1
        have hgw : g < w11.heap.size := S11.z1
        clear S0 hHeld
        cases S
        · have HQ2 : Hid ((sepK L m (k + 1)).length = q) := Lib.hid (by rw [sepK_no hkm' HSy.out]; exact HQ.out)
          have HR2 : Hid (∃ bb' oo', RowsAt w11 w.heap.size v q (fun _ => 2) (pF (sepK L m (k + 1))) bb' oo' ∧ (∀ i, i < q → ∃ t, t < k + 1 ∧ bb' i = bb t ∧ oo' i = oo t) ∧ ∀ j, v.ownBlock = some j → Y ≤ j) := Lib.hid (by
            obtain ⟨bb', oo', h1, h2, h3⟩ := HR.out
            rw [sepK_no hkm' HSy.out]
            exact ⟨bb', oo', h1.next hb11, fun i hi => by obtain ⟨t, a, b⟩ := h2 i hi; exact ⟨t, by omega, b⟩, h3⟩)
          clear HR HQ HBB hb11 S11 y0w
          go_wp2
          go_roundg gk
          case measure => omega
          case rel => exact ⟨k + 1, q, v, by have := HKG.out; omega, by go_num, rfl, HQ2, HR2, HBB2⟩
        · obtain ⟨bb', oo', hR, hRt, hRo⟩ := HR.out
          obtain ⟨xs, hown, hx⟩ := (hR.next hb11).own
          have HRR := Lib.hid (And.intro (hR.next hb11) (And.intro hx (And.intro hRt hRo)))
          have hi := HI.out
          have hz0 := HZ0.out
          have hzS : w.heap.size ≤ w11.heap.size := by have := hb11.size; have := HYk.out; have := HY.out; omega
          have HX := Lib.hid hown.1
          have hq21 := sepK_len L m k hm7
          rw [HQ.out] at hq21
          have HBBs := HBB2.out.size
          clear hR hRt hRo hx HR HBB hb11 S11 q0 q1
          go_wp2_with (at_builtin; refine wpList_append_own_at _ rfl _ _ 24 rfl w.heap.size 32 i0 (.slice none 0 0) 1 24 Try.underlying24 hi hz0 hz1 hz2 rfl (by decide) v q xs rfl (World.ownsRow.alloc hown _) ⟨w11.heap.size, 0, none⟩ 1 1 [.slice (some ⟨bb k, oo k, none⟩) 2 ci] rfl rfl (cell_one_new _ _ _) ?c2 ?c3 ?c4 ?c5 ?_)
          case c2 => first | rfl | (intro u hu; simp at hu; subst hu; rfl)
          case c3 => unfold maxLen; omega
          case c4 => omega
          case c5 => first | omega | (simp; omega)
          intro v' w3 hown' hgrow _ hat
          have HE : Hid (∃ bb' oo', RowsAt w3 w.heap.size v' (q + 1) (fun _ => 2) (pF (sepK L m (k + 1))) bb' oo' ∧ (∀ i, i < q + 1 → ∃ t, t < k + 1 ∧ bb' i = bb t ∧ oo' i = oo t) ∧ ∀ j, v'.ownBlock = some j → Y ≤ j) := Lib.hid (by
            have hb : Below w11.heap.size w11 (w11.alloc (.cells #[.slice (some ⟨bb k, oo k, none⟩) 2 ci] 32)) := belowAlloc (Below.refl _ _) _
            have hT := (HT.out (by omega)).2
            have hBB := HBB2.out
            have hrow := hT.row k hkN (by omega)
            have h := RowsAt.push (W := w11.alloc (.cells #[.slice (some ⟨bb k, oo k, none⟩) 2 ci] 32)) (b := bb k) (o := oo k) (m := 2) (r := pF (prL m) k) (HRR.out.1.next hb) (xs := xs) HRR.out.2.1 (by have := HX.out; omega) (A := some ⟨bb k, oo k, none⟩) (cap := ci)
              (fun _ => ⟨rfl, hrow.1, by have := hBB.size; simp; omega, (fun e => by have h1 := HRR.out.2.2.2 _ e.symm; have h2 := HY.out; have h3 := hrow.2.1; omega), fun j' hj' => by
                obtain ⟨a1, a2⟩ := hT.cell k j' hkN hj'
                have hlt : bb k < Y := by rw [← HY.out]; exact hrow.2.1
                have hltW : bb k < w11.heap.size := Nat.lt_of_lt_of_le hlt (by rw [← HY.out]; exact hBB.size)
                exact ⟨cellThru hb hltW ((hBB.cell (p := ⟨bb k, _, none⟩) hlt).trans a1), frozThru hb hltW ((hBB.frozen (p := ⟨bb k, _, none⟩) hlt).trans a2)⟩⟩) (fun i j' kk hi hj' hkk he => by
                obtain ⟨t, ht, e1, e2⟩ := HRR.out.2.2.1 i hi
                rw [e2]
                rw [e1] at he
                exact hT.apart t k j' kk (by omega) hkN (by omega) hj' hkk he) hown' hgrow (by
                rcases hat with e | e
                · exact .inl e
                · exact .inr ⟨_, e, by simp⟩)
            refine ⟨_, _, h.congr (fun i hi => by by_cases e : i = q <;> simp [e]) (fun i j' hi hj' => ?_), fun i hi => ?_, fun j' hj' => ?_⟩
            · rw [sepK_yes hkm' HSy.out]
              by_cases e : i = q
              · subst e
                rw [if_pos rfl, ← HQ.out, pF_new]
                unfold pF
                rw [List.getD_eq_getElem?_getD, List.getElem?_eq_getElem hkm']; rfl
              · rw [if_neg e]
                exact pF_old (by rw [HQ.out]; omega)
            · by_cases e : i = q
              · exact ⟨k, by omega, by simp [e], by simp [e]⟩
              · obtain ⟨t, ht, e1, e2⟩ := HRR.out.2.2.1 i (by omega)
                exact ⟨t, by omega, by simp only [if_neg e]; exact e1, by simp only [if_neg e]; exact e2⟩
            · rcases hat with e | e
              · rw [e] at hj'; exact HRR.out.2.2.2 _ hj'
              · rw [e] at hj'; have h1 := Option.some.inj hj'; have h2 := hBB.size; have h3 := HY.out; omega)
          have HQ2 : Hid ((sepK L m (k + 1)).length = q + 1) := Lib.hid (by rw [sepK_yes hkm' HSy.out, List.length_append, HQ.out]; rfl)
          have HB1 : Below Y w2 w3 := below_grown8 (show Below Y w2 (w11.alloc _) from HBB2.out.trans ((belowAlloc (Below.refl _ _) _).mono (by have := HBB2.out.size; have := HY.out; omega))) hgrow (fun j e => HRR.out.2.2.2 j e) (by have := HBB2.out.size; have := HY.out; simp; omega)
          clear hown hown' hgrow hzS hi hz0 HRR HX hat HQ HBB2 HBBs y0w
          go_wp2
          go_roundg gk
          case measure => omega
          case rel => exact ⟨k + 1, q + 1, v', by have := HKG.out; omega, by go_num, rfl, HQ2, HE, Lib.hid HB1⟩
  · rw [o8_no hC] at HO ⊢
    have hC' : (c8 n d == 0) = false := beq_eq_false_iff_ne.2 hC
    generalize c8 n d = C at *
    clear hC hm7 hang
    go_enter Try.func18, Try.ntmps18
    go_wp2_with fail
    refine (HO.out _).mono ?_
    rintro e w1 ⟨A, cap, rfl, ha, hb1⟩
    clear ha
    go_wp2
    go_ret2
    refine ⟨none, 0, rfl, tabRd_nil, ?_⟩
    (repeat' (first | (with_reducible exact Below.refl _ _) | (with_reducible assumption) | (with_reducible refine belowNext ?_ (by with_reducible assumption)) | (with_reducible refine belowAlloc ?_ _) | (with_reducible refine Below.drew ?_) | (with_reducible refine below_drewN ?_ _) | (with_reducible refine Below.setCell ?_ ?_ _) | go_size | (with_reducible refine sizeOf' ?_) | (with_reducible refine sizeAdd ?_) | (dsimp only; first | (with_reducible refine sizeOf' ?_) | (with_reducible refine sizeAdd ?_))))

set_option maxHeartbeats 4000000 in
theorem lawSeparatedPairs (n d : Int) (_ : (Lit.int .i64 n).wf = true) (_ : (Lit.int .i64 d).wf = true) (w : World) :
    Calls Try.prog 4 #[ang n d] w fun e w' => e = .returned (.bool true) ∧ Below w.heap.size w w' := by
  have HA := Lib.hid (fun w => specSP n d w)
  have HB := Lib.hid (fun w => implSP n d w)
  have hN : (sepK (o8 n d) (o8 n d).length 21).length ≤ 1000000 := Nat.le_trans (sepK_len _ _ _ (o8_len n d)) (by omega)
  have hT : totN (fun _ => 2) ((sepK (o8 n d) (o8 n d).length 21).length) ≤ 1000000 := tot8 (sepK_len _ _ _ (o8_len n d))
  generalize (sepK (o8 n d) (o8 n d).length 21).length = N at *
  generalize pF (sepK (o8 n d) (o8 n d).length 21) = F at *
  generalize c8 n d = C at *
  obtain ⟨LN, hLN⟩ : ∃ LN : Nat → Nat, (fun _ => 2) = LN := ⟨_, rfl⟩
  rw [hLN] at HA HB hT
  clear hLN
  obtain ⟨T, hTe⟩ : ∃ T, totN LN N = T := ⟨_, rfl⟩
  have HTe := Lib.hid hTe
  have HT2 := Lib.hid hT
  rw [hTe] at hT
  clear hTe
  go_enter Try.func4, Try.ntmps4
  go_wp2_with fail
  refine (toAngX _ _ _).mono ?_
  rintro e w1 ⟨rfl, rfl⟩
  go_wp2_with fail
  refine (HA.out _).mono ?_
  rintro e w2 ⟨A, cap, rfl, ha, hb2⟩
  have hc2 := bcell hb2
  have c0 : w2.cell? ⟨w.heap.size, 0, none⟩ = some (.int .i64 n) := cellThru hb2 (by simp <;> omega) (by simp [go_sem])
  have c1 : w2.cell? ⟨w.heap.size, 1, none⟩ = some (.int .i64 d) := cellThru hb2 (by simp <;> omega) (by simp [go_sem])
  have z2 : w.heap.size < w2.heap.size := by have := hb2.size; simp at this; omega
  have B2 : Below w.heap.size w w2 := by
    (repeat' (first | (with_reducible exact Below.refl _ _) | (with_reducible assumption) | (with_reducible refine belowNext ?_ (by with_reducible assumption)) | (with_reducible refine belowAlloc ?_ _) | (with_reducible refine Below.drew ?_) | (with_reducible refine below_drewN ?_ _) | (with_reducible refine Below.setCell ?_ ?_ _) | go_size | (with_reducible refine sizeOf' ?_) | (with_reducible refine sizeAdd ?_) | (dsimp only; first | (with_reducible refine sizeOf' ?_) | (with_reducible refine sizeAdd ?_))))
  clear hc2 hb2
  have R := Lib.hid ha
  clear ha
  go_wp2_with fail
  refine (toAngX _ _ _).mono ?_
  rintro e w3 ⟨rfl, rfl⟩
  go_wp2_with fail
  refine (HB.out _).mono ?_
  rintro e w4 ⟨A', cap', rfl, ha', hb4⟩
  have s4 := hb4.size
  simp at s4
  have z4 : w.heap.size < w4.heap.size := by omega
  have B24 : Below w2.heap.size w2 w4 := by
    (repeat' (first | (with_reducible exact Below.refl _ _) | (with_reducible assumption) | (with_reducible refine belowNext ?_ (by with_reducible assumption)) | (with_reducible refine belowAlloc ?_ _) | (with_reducible refine Below.drew ?_) | (with_reducible refine below_drewN ?_ _) | (with_reducible refine Below.setCell ?_ ?_ _) | go_size | (with_reducible refine sizeOf' ?_) | (with_reducible refine sizeAdd ?_) | (dsimp only; first | (with_reducible refine sizeOf' ?_) | (with_reducible refine sizeAdd ?_))))
  have c0 : w4.cell? ⟨w.heap.size, 0, none⟩ = some (.int .i64 n) := cellThru B24 z2 c0
  have c1 : w4.cell? ⟨w.heap.size, 1, none⟩ = some (.int .i64 d) := cellThru B24 z2 c1
  have R4 := Lib.hid (R.out.below B24)
  have Rs4 := Lib.hid (R4.out.more B24.size)
  have Q4 := Lib.hid ha'
  clear ha' hb4
  go_wp2_with fail
  refine (eqTab _ _ _ _ _ LN F _ Q4.out.rd Rs4.out hN HT2.out).mono ?_
  rintro e w5 ⟨rfl, hb5⟩
  have c0 : w5.cell? ⟨w.heap.size, 0, none⟩ = some (.int .i64 n) := cellThru hb5 z4 c0
  have c1 : w5.cell? ⟨w.heap.size, 1, none⟩ = some (.int .i64 d) := cellThru hb5 z4 c1
  have z5 : w.heap.size < w5.heap.size := by have := hb5.size; omega
  have R5 := Lib.hid (R4.out.below (hb5.mono B24.size))
  have Q5 := Lib.hid (Q4.out.next hb5)
  have B25 : Below w2.heap.size w2 w5 := belowNext B24 hb5
  go_wp2_with fail
  refine (markTab _ _ _ LN F _ _ Q5.out hN HT2.out).mono ?_
  rintro e w6 ⟨rfl, H6⟩
  rw [HTe.out]
  simp only [World.size_alloc] at H6
  have b6 := H6.out.2.mono (show w2.heap.size ≤ w2.heap.size + 1 + 1 + 1 by omega)
  have c0 : w6.cell? ⟨w.heap.size, 0, none⟩ = some (.int .i64 n) := (b6.cell (p := ⟨w.heap.size, 0, none⟩) z2).trans c0
  have c1 : w6.cell? ⟨w.heap.size, 1, none⟩ = some (.int .i64 d) := (b6.cell (p := ⟨w.heap.size, 1, none⟩) z2).trans c1
  have z6 : w.heap.size < w6.heap.size := by have := b6.size; omega
  have R6 := Lib.hid (R5.out.below b6)
  have Q6 := Lib.hid H6.out.1
  have B26 : Below w2.heap.size w2 w6 := B25.trans b6
  have nn : (1 + (T : Int) < 0) = False := by simp; omega
  clear b6 H6 hb5
  go_wp2_with fail
  refine (heldTab _ _ _ LN _ Q6.out.rd hN HT2.out).mono ?_
  rintro e w7 ⟨rfl, rfl⟩
  rw [HTe.out]
  go_wp2_with fail
  refine (toAngX _ _ _).mono ?_
  rintro e w8 ⟨rfl, rfl⟩
  go_wp2_with fail
  refine (HB.out _).mono ?_
  rintro e w9 ⟨A'', cap'', rfl, ha'', hb9⟩
  have s9 := hb9.size
  simp at s9
  have B69 : Below w6.heap.size w6 w9 := by
    (repeat' (first | (with_reducible exact Below.refl _ _) | (with_reducible assumption) | (with_reducible refine belowNext ?_ (by with_reducible assumption)) | (with_reducible refine belowAlloc ?_ _) | (with_reducible refine Below.drew ?_) | (with_reducible refine below_drewN ?_ _) | (with_reducible refine Below.setCell ?_ ?_ _) | go_size | (with_reducible refine sizeOf' ?_) | (with_reducible refine sizeAdd ?_) | (dsimp only; first | (with_reducible refine sizeOf' ?_) | (with_reducible refine sizeAdd ?_))))
  have B29 : Below w2.heap.size w2 w9 := belowNext B26 B69
  have R9 := Lib.hid ((R6.out.below (B69.mono B26.size)).more B29.size)
  have Q9 := Lib.hid (Q6.out.next B69)
  have P9 := Lib.hid ha''.rd
  clear ha'' hb9
  go_wp2_with fail
  refine (eqTab _ _ _ _ _ LN F _ P9.out R9.out hN HT2.out).mono ?_
  rintro e w10 ⟨rfl, hb10⟩
  have Q10 := Lib.hid (Q9.out.next hb10)
  go_wp2_with fail
  refine (heldTab _ _ _ LN _ Q10.out.rd hN HT2.out).mono ?_
  rintro e w11 ⟨rfl, rfl⟩
  rw [HTe.out]
  go_wp2
  go_ret
  exact ⟨rfl, belowNext (belowNext B2 B29) hb10⟩
end Go.Proofs.Ytjomgbjiognmmaa

/-
  Places and rows, as the model finds them.
  The matrix of pairs, as the model builds it.
  PairMatrix on both sides; the walk of its law.
-/
import Derived.Test.YtjomgbjiognmmaaHC
namespace Go.Proofs.Ytjomgbjiognmmaa
open Go.RowKit

set_option maxHeartbeats 1000000 in
theorem place8 (A : Option Addr) (len cap : Nat) (l : List (Int × Int)) (n d : Int) (w : World) (hr : AngRow w w.heap.size A l) (hl : l.length = len) (hm : len ≤ 1000000000000) :
    Calls Try.prog 73 #[.slice A len cap, ang n d] w fun e w' => e = .returned (.int .i64 (plcI l (n, d) + 1)) ∧ Below w.heap.size w w' := by
  have HR := Lib.hid hr
  have HL := Lib.hid hl
  clear hr hl
  go_enter Try.func73, Try.ntmps73
  go_wp2
  go_loopw [5] (fun i wr => ∃ k : Nat, k ≤ len ∧ i = .int .i64 k ∧ Hid (∀ j, j < k → cA l j ≠ (n, d)) ∧ ∃ q, wr = (w.alloc (.cells #[.int .i64 n, .int .i64 d] 27)).drewN q) (fun i _ => len - (intOf i).toNat)
  case atStart => exact ⟨0, by omega, rfl, Lib.hid (fun j h => absurd h (by omega)), 0, rfl⟩
  case round =>
    obtain ⟨k, hk, rfl, HY, q, rfl⟩ := hrel
    by_cases hlt : k < len
    · have hkl : k < l.length := by have := HL.out; omega
      obtain ⟨a, b, hnd⟩ : ∃ a b, cA l k = (a, b) := ⟨_, _, rfl⟩
      have hk2 : l[k]? = some (a, b) := by rw [cA_some hkl, hnd]
      have hne : l ≠ [] := by intro h; rw [h] at hkl; simp at hkl
      obtain ⟨g, off, rfl, hbb, hcells⟩ := HR.out hne
      obtain ⟨x0, x1⟩ := hcells k a b hk2
      have Q1 := fun W => eqlAng a b n d W
      have HK := Lib.hid hnd
      clear hcells hk2 hne hnd
      cases hq : eqA a b n d
      · rw [hq] at Q1
        have HQ : Hid (cA l k ≠ (n, d)) := Lib.hid (fun h => by rw [HK.out] at h; simp only [Prod.mk.injEq] at h; obtain ⟨rfl, rfl⟩ := h; simp [eqA] at hq)
        clear hq
        go_wp2_with fail
        go_quiet (fail)
        go_wp2
        go_roundw
        case rel =>
          refine ⟨k + 1, by omega, by go_num, Lib.hid (fun j hj => ?_), _, rfl⟩
          by_cases hjk : j = k
          · subst hjk; exact HQ.out
          · exact HY.out j (by omega)
        case measure => simp [intOf]; omega
      · rw [hq] at Q1
        have HQ : Hid (plcI l (n, d) = (k : Int)) := Lib.hid (by
          have he : cA l k = (n, d) := by rw [HK.out]; simp [eqA] at hq; obtain ⟨rfl, rfl⟩ := hq; rfl
          have hp := plc_stop hkl HY.out he
          rw [plcI_yes (by omega), hp])
        clear hq
        go_wp2_with fail
        go_quiet (fail)
        go_wp2
        go_ret
        refine ⟨by rw [HQ.out]; rfl, ?_⟩
        (repeat' (first | (with_reducible exact Below.refl _ _) | (with_reducible assumption) | (with_reducible refine belowNext ?_ (by with_reducible assumption)) | (with_reducible refine belowAlloc ?_ _) | (with_reducible refine Below.drew ?_) | (with_reducible refine below_drewN ?_ _) | (with_reducible refine Below.setCell ?_ ?_ _) | go_size | (with_reducible refine sizeOf' ?_) | (with_reducible refine sizeAdd ?_) | (dsimp only; first | (with_reducible refine sizeOf' ?_) | (with_reducible refine sizeAdd ?_))))
    · obtain rfl : k = len := by omega
      have HQ : Hid (plcI l (n, d) = -1) := Lib.hid (plcI_no (by have h := plc_end (l := l) (p := (n, d)) (fun j hj => HY.out j (by have := HL.out; omega)); omega))
      go_wp2
      go_ret
      refine ⟨by rw [HQ.out]; rfl, ?_⟩
      (repeat' (first | (with_reducible exact Below.refl _ _) | (with_reducible assumption) | (with_reducible refine belowNext ?_ (by with_reducible assumption)) | (with_reducible refine belowAlloc ?_ _) | (with_reducible refine Below.drew ?_) | (with_reducible refine below_drewN ?_ _) | (with_reducible refine Below.setCell ?_ ?_ _) | go_size | (with_reducible refine sizeOf' ?_) | (with_reducible refine sizeAdd ?_) | (dsimp only; first | (with_reducible refine sizeOf' ?_) | (with_reducible refine sizeAdd ?_))))

/-- A row after one more was counted. -/
def AddS (R N : Nat) (x : Nat → Int) (w W : World) : Prop := Below R w W ∧ R < W.heap.size ∧ ∀ j, j < N → W.cell? ⟨R, j, none⟩ = some (.int .i64 (x j)) ∧ W.frozen? ⟨R, j, none⟩ = false
theorem hit_at {l : List (Int × Int)} {q : Int × Int} {k : Nat} (h : (cA l k).1 = q.1) (h' : (cA l k).2 = q.2) : hitJ l q k = 1 := by unfold hitJ; rw [if_pos (Prod.ext h h')]
theorem hit_no1 {l : List (Int × Int)} {q : Int × Int} {k : Nat} (h : ¬ (cA l k).1 = q.1) : hitJ l q k = 0 := by unfold hitJ; rw [if_neg (fun e => h (by rw [e]))]
theorem hit_no2 {l : List (Int × Int)} {q : Int × Int} {k : Nat} (h : ¬ (cA l k).2 = q.2) : hitJ l q k = 0 := by unfold hitJ; rw [if_neg (fun e => h (by rw [e]))]

def adF (l : List (Int × Int)) (q : Int × Int) (x : Nat → Int) (k : Nat) : Nat → Int := fun j => if j < k then x j + hitJ l q j else x j
theorem adF_zero (l : List (Int × Int)) (q : Int × Int) (x : Nat → Int) (j : Nat) : adF l q x 0 j = x j := if_neg (by omega)
theorem adF_done {l : List (Int × Int)} {q : Int × Int} {x : Nat → Int} {k j : Nat} (h : j < k) : adF l q x k j = x j + hitJ l q j := if_pos h
theorem adF_at (l : List (Int × Int)) (q : Int × Int) (x : Nat → Int) (k : Nat) : adF l q x k k = x k := if_neg (by omega)
theorem adF_new (l : List (Int × Int)) (q : Int × Int) (x : Nat → Int) (k : Nat) : adF l q x (k + 1) k = x k + hitJ l q k := if_pos (by omega)
theorem adF_old {l : List (Int × Int)} {q : Int × Int} {x : Nat → Int} {k j : Nat} (h : j ≠ k) : adF l q x (k + 1) j = adF l q x k j := by
  unfold adF
  by_cases e : j < k
  · rw [if_pos e, if_pos (by omega)]
  · rw [if_neg e, if_neg (by omega)]
theorem AddS.hit {R N k : Nat} {l : List (Int × Int)} {q : Int × Int} {x : Nat → Int} {w wr : World} (H : AddS R N (adF l q x k) w wr) (hk : k < N) {v : Int} (hv : x k = v) (h : hitJ l q k = 1) : AddS R N (adF l q x (k + 1)) w (wr.setCell ⟨R, k, none⟩ (.int .i64 (v + 1))) := by
  refine ⟨H.1.setCell (Nat.le_refl _) _, by simpa using H.2.1, fun j hj => ⟨?_, by simpa using (H.2.2 j hj).2⟩⟩
  by_cases e : j = k
  · subst e
    rw [adF_new, h, hv]
    exact World.cell?_setCell_same _ _ _ (H.2.2 j hj).1
  · rw [World.cell?_setCell_other _ _ _ _ (by intro e2; injection e2; omega), adF_old e]
    exact (H.2.2 j hj).1
theorem AddS.miss {R N k : Nat} {l : List (Int × Int)} {q : Int × Int} {x : Nat → Int} {w wr : World} (H : AddS R N (adF l q x k) w wr) (h : hitJ l q k = 0) : AddS R N (adF l q x (k + 1)) w wr := by
  refine ⟨H.1, H.2.1, fun j hj => ⟨?_, (H.2.2 j hj).2⟩⟩
  by_cases e : j = k
  · subst e
    rw [adF_new, h, Int.add_zero, ← adF_at l q x j]
    exact (H.2.2 j hj).1
  · rw [adF_old e]; exact (H.2.2 j hj).1

set_option maxRecDepth 8000 in
set_option maxHeartbeats 4000000 in
theorem specAdd8 (R N cap : Nat) (A2 : Option Addr) (cap2 : Nat) (l : List (Int × Int)) (a b : Int) (x : Nat → Int) (w : World) (ht : TabRd w R A2 N (fun _ => 2) (pF l)) (hl : l.length = N) (hN : N ≤ 1000) (hx : AddS R N x w w) (hb : ∀ j, j < N → 0 ≤ x j ∧ x j ≤ 1000) :
    Calls Try.prog 63 #[.slice (some ⟨R, 0, none⟩) N cap, .slice A2 N cap2, .int .i64 a, .int .i64 b] w fun e w' => e = .returned (.tuple #[]) ∧ Hid (AddS R N (fun j => x j + hitJ l (min a b, max a b) j) w w') := by
  have hM : (a ≤ b ∧ min a b = a ∧ max a b = b) ∨ (b < a ∧ min a b = b ∧ max a b = a) := by omega
  obtain ⟨mn, hmn⟩ : ∃ mn, min a b = mn := ⟨_, rfl⟩
  obtain ⟨mx, hmx⟩ : ∃ mx, max a b = mx := ⟨_, rfl⟩
  rw [hmn, hmx] at hM ⊢
  have HM := Lib.hid hM
  clear hM hmn hmx
  have HT := Lib.hid ht
  have HL := Lib.hid hl
  have HX := Lib.hid hx
  have HBn := Lib.hid hb
  clear ht hl hx hb
  go_enter Try.func63, Try.ntmps63
  go_wp2
  go_loopg [8] N (fun g ix wr => ∃ k : Nat, k + g = N ∧ ix = .int .i64 k ∧ Hid (AddS R N (adF l (mn, mx) x k) w wr))
  case atStart => exact ⟨0, by omega, rfl, Lib.hid ⟨Below.refl _ _, HX.out.2.1, fun j hj => by rw [adF_zero]; exact HX.out.2.2 j hj⟩⟩
  case round =>
    obtain ⟨k, hkg, rfl, HA⟩ := hrel
    cases gk with
    | zero =>
      obtain rfl : k = N := by omega
      have HA2 : Hid (AddS R k (fun j => x j + hitJ l (mn, mx) j) w wr) := Lib.hid ⟨HA.out.1, HA.out.2.1, fun j hj => by have := HA.out.2.2 j hj; rw [adF_done hj] at this; exact this⟩
      clear hkg HA
      go_wp2
      go_end0
      exact ⟨rfl, HA2⟩
    | succ g =>
      have hkN : k < N := by omega
      have hkI : (k : Int) < (N : Int) := by omega
      obtain ⟨g2, off2, b2, o2, c2, rfl, hg2, hb2, x0, x1, x2⟩ := tabPair HT.out hkN HL.out
      have hB := HA.out.1
      have hRw := HA.out.2.1
      have x0 : wr.cell? ⟨g2, off2 + k, none⟩ = _ := (hB.cell (p := ⟨g2, off2 + k, none⟩) hg2).trans x0
      have x1 : wr.cell? ⟨b2, o2, none⟩ = _ := (hB.cell (p := ⟨b2, o2, none⟩) hb2).trans x1
      have x2 : wr.cell? ⟨b2, o2 + 1, none⟩ = _ := (hB.cell (p := ⟨b2, o2 + 1, none⟩) hb2).trans x2
      obtain ⟨y0, y1⟩ := HA.out.2.2 k hkN
      rw [adF_at] at y0
      have hxb := HBn.out k hkN
      have HP1 := Lib.hid (fun (q : Int × Int) (h : (cA l k).1 = q.1) (h' : (cA l k).2 = q.2) => hit_at h h')
      have HP2 := Lib.hid (fun (q : Int × Int) (h : ¬ (cA l k).1 = q.1) => hit_no1 h)
      have HP3 := Lib.hid (fun (q : Int × Int) (h : ¬ (cA l k).2 = q.2) => hit_no2 h)
      generalize (cA l k).1 = p1 at *
      generalize (cA l k).2 = p2 at *
      obtain ⟨v, hv⟩ : ∃ v, x k = v := ⟨_, rfl⟩
      rw [hv] at y0 hxb
      have hwv : IntKind.i64.wrap (v + 1) = v + 1 := IntWalk.i64_in _ (by omega)
      have HV := Lib.hid hv
      have HKG := Lib.hid hkg
      have hif : (if a < b then b else a) = mx := by have := HM.out; split <;> omega
      clear hkg hv
      go_wp2
      all_goals
        clear hif
        try simp only [beq_iff_eq, beq_eq_false_iff_ne, ne_eq] at *
        go_roundg g
        case measure => omega
        case rel =>
          refine ⟨k + 1, by have := HKG.out; omega, by go_num, Lib.hid ?_⟩
          first
          | exact HA.out.miss (by first | exact HP2.out (mn, mx) (by show ¬ p1 = mn; have := HM.out; omega) | exact HP3.out (mn, mx) (by show ¬ p2 = mx; have := HM.out; omega))
          | exact HA.out.hit hkN HV.out (HP1.out (mn, mx) (by show p1 = mn; have := HM.out; omega) (by show p2 = mx; have := HM.out; omega))

theorem hit_one {m : Nat} (hm : m ≤ 7) {j : Nat} (hj : j < (prL m).length) {a : Int} (ha : 0 ≤ a) : hitJ (prL m) (min a 1, max a 1) j = hitJ (prL m) (1, a) j := by
  by_cases h : 1 ≤ a
  · have e : (min a 1, max a 1) = (1, a) := by simp only [Prod.mk.injEq]; omega
    rw [e]
  · obtain rfl : a = 0 := by omega
    obtain ⟨h1, h2, _⟩ := prL_bnd hm _ (cA_mem hj)
    unfold hitJ
    rw [if_neg (by intro e; rw [e] at h1; simp only at h1; omega), if_neg (by intro e; rw [e] at h2; simp only at h2; omega)]
theorem led_yes {L : List (Int × Int)} {p : Int × Int} (h : sepP L p = true) (j : Nat) : sumH (prL L.length) j (ledL L p) = 0 + hitJ (prL L.length) (1, imgI L (p.1 - 1).toNat) j + hitJ (prL L.length) (1, imgI L (p.2 - 1).toNat) j := by
  unfold ledL; rw [if_pos h]; simp only [sumH]; omega
theorem led_no {L : List (Int × Int)} {p : Int × Int} (h : sepP L p = false) (j : Nat) : sumH (prL L.length) j (ledL L p) = 0 + hitJ (prL L.length) (min (imgI L (p.1 - 1).toNat) (imgI L (p.2 - 1).toNat), max (imgI L (p.1 - 1).toNat) (imgI L (p.2 - 1).toNat)) j := by
  unfold ledL; rw [if_neg (by simp [h])]; simp only [sumH]; omega
/-- Two angles in boxes that were just made. -/
structure TwoH (F G : Nat) (p1 p2 q1 q2 : Int) (w W : World) : Prop where
  B : Below w.heap.size w W
  zF : F < W.heap.size
  zG : G < W.heap.size
  c0 : W.cell? ⟨F, 0, none⟩ = some (.int .i64 p1)
  c1 : W.cell? ⟨F, 1, none⟩ = some (.int .i64 p2)
  c2 : W.cell? ⟨G, 0, none⟩ = some (.int .i64 q1)
  c3 : W.cell? ⟨G, 1, none⟩ = some (.int .i64 q2)

set_option maxRecDepth 8000 in
set_option maxHeartbeats 4000000 in
theorem specMx (A : Option Addr) (m cap : Nat) (L : List (Int × Int)) (N : Nat) (w : World) (hr : AngRow w w.heap.size A L) (hl : L.length = m) (hm : m ≤ 7) (ha : allAng L = true) (hN : (prL m).length = N) :
    Calls Try.prog 44 #[.slice A m cap] w fun e w' => ∃ A' c', e = .returned (.slice A' N c') ∧ Hid (TabOwn w' w.heap.size A' N (fun _ => N) (mxF L)) ∧ Below w.heap.size w w' := by
  subst hl
  have hN21 := prL_len hm
  rw [hN] at hN21
  obtain ⟨i0, hi, hz0, hz1, hz2⟩ := infoS8_parts
  have HI := Lib.hid hi
  have HZ0 := Lib.hid hz0
  obtain ⟨j0, ji, jz0, jz1, jz2⟩ := infoI8_parts
  have HJI := Lib.hid ji
  have HJZ := Lib.hid jz0
  have HPr := Lib.hid (fun w => specPairs8 L.length hm w)
  have HR := Lib.hid hr
  have HNn := Lib.hid hN
  have HAng := Lib.hid ha
  have HBd := Lib.hid (prL_bnd hm)
  have HM := Lib.hid hm
  rw [hN] at HPr
  obtain ⟨m, hml⟩ : ∃ m, L.length = m := ⟨_, rfl⟩
  have HLm := Lib.hid hml
  rw [hml] at hm HPr ⊢
  clear hi hz0 ji jz0 hr hN ha hml
  go_enter Try.func44, Try.ntmps44
  go_wp2_with fail
  refine (HPr.out _).mono ?_
  rintro e wP ⟨A2, cap2, rfl, ht, hbP⟩
  have HT : Hid (TabRd wP wP.heap.size A2 N (fun _ => 2) (pF (prL L.length))) := Lib.hid (by rw [HLm.out]; exact ht.out.rd)
  have HBP := Lib.hid hbP
  obtain ⟨Y, hY⟩ : ∃ Y, wP.heap.size = Y := ⟨_, rfl⟩
  have HY := Lib.hid hY
  have hYw : w.heap.size ≤ Y := by rw [← hY]; exact hbP.size
  have HR0 : Hid (RowsAt (wP.alloc (.cells #[] 32)) w.heap.size (.slice (some ⟨Y, 0, none⟩) 0 0) 0 (fun _ => N) (mxF L) (fun _ => 0) (fun _ => 0)) := Lib.hid (by rw [← hY]; exact rowsAt_lit hbP.size)
  clear ht hbP hY
  go_wp2_with fail
  rw [HY.out]
  go_loopg [4, 5, 6, 7, 8, 9, 10] N (fun gg s4 ix _ _ _ _ _ wr => ∃ (k : Nat) (v : Value), k + gg = N ∧ ix = .int .i64 k ∧ s4 = v ∧ Hid (∃ bb oo, RowsAt wr w.heap.size v k (fun _ => N) (mxF L) bb oo) ∧ Hid (∀ j, v.ownBlock = some j → Y ≤ j) ∧ Hid (Below Y wP wr))
  case atStart => exact ⟨0, _, by omega, rfl, rfl, Lib.hid ⟨_, _, HR0.out⟩, Lib.hid (fun j hj => by simp [Value.ownBlock] at hj; omega), Lib.hid (by have := HY.out; subst this; exact belowAlloc (Below.refl _ _) _)⟩
  case round =>
    clear HR0
    obtain ⟨k, v, hkg, rfl, ev, HRr, HOY, HB⟩ := hrel
    have ev := ev.symm
    subst ev
    cases gk with
    | zero =>
      obtain rfl : k = N := by omega
      obtain ⟨bb, oo, hR⟩ := HRr.out
      obtain ⟨xs, ho, hx⟩ := hR.own
      obtain ⟨A', c, rfl, _⟩ := ownForm8 ho
      have HTb : Hid (TabOwn wr w.heap.size A' k (fun _ => k) (mxF L)) := Lib.hid hR.tab
      have B2 : Below w.heap.size w wr := HBP.out.trans (HB.out.mono hYw)
      clear hkg hR ho hx HRr
      go_wp2
      go_ret
      exact ⟨A', c, rfl, HTb, B2⟩
    | succ gg =>
      have hkN : k < N := by omega
      have hkNI : (k : Int) < (N : Int) := by omega
      have hN0 : 0 < N := by omega
      have hkl : k < (prL L.length).length := by rw [HNn.out]; exact hkN
      have hp := HBd.out _ (cA_mem hkl)
      obtain ⟨g2, off2, b, o, cc, rfl, hg2, hb2, x0, x1, x2⟩ := tabPair HT.out hkN HNn.out
      have hlm := HLm.out
      obtain ⟨P, hP⟩ : ∃ P, cA (prL L.length) k = P := ⟨_, rfl⟩
      have HP := Lib.hid hP
      rw [hP] at hp x1 x2
      obtain ⟨a, c⟩ := P
      simp only at hp x1 x2
      obtain ⟨ka, hka⟩ : ∃ ka : Nat, a = (ka : Int) + 1 := ⟨(a - 1).toNat, by omega⟩
      obtain ⟨kb, hkb⟩ : ∃ kb : Nat, c = (kb : Int) + 1 := ⟨(c - 1).toNat, by omega⟩
      have hkaL : ka < L.length := by omega
      have hkbL : kb < L.length := by omega
      have h0L : 0 < L.length := by omega
      have hB := HB.out
      have hBs := hB.size
      have hYe := HY.out
      have hBw : Below w.heap.size w wr := HBP.out.trans (hB.mono hYw)
      obtain ⟨ob, oof, rfl, hob, hoc⟩ := HR.out (by intro h; rw [h] at h0L; simp at h0L)
      obtain ⟨u1, u2⟩ := hoc ka _ _ (cA_some hkaL)
      obtain ⟨u3, u4⟩ := hoc kb _ _ (cA_some hkbL)
      obtain ⟨u5, u6⟩ := hoc 0 _ _ (cA_some h0L)
      rw [Nat.zero_mul, Nat.add_zero] at u5 u6
      obtain ⟨d1, d2, d3, d4⟩ := isAng_ok (cA_ang HAng.out hkaL)
      obtain ⟨f1, f2, f3, f4⟩ := isAng_ok (cA_ang HAng.out hkbL)
      have HD1 := Lib.hid (fun W => specDbl (cA L ka).1 (cA L ka).2 W d1 (by omega) d3 (by omega))
      have HD2 := Lib.hid (fun W => specDbl (cA L kb).1 (cA L kb).2 W f1 (by omega) f3 (by omega))
      have HQ1 := Lib.hid (fun W (hB' : Below wr.heap.size wr W) => place8 (some ⟨ob, oof, none⟩) m cap L (redN (2 * (cA L ka).1) (cA L ka).2) (redD (2 * (cA L ka).1) (cA L ka).2) W ((HR.out.below (belowNext hBw hB')).more (belowNext hBw hB').size) HLm.out (by omega))
      have HQ2 := Lib.hid (fun W (hB' : Below wr.heap.size wr W) => place8 (some ⟨ob, oof, none⟩) m cap L (redN (2 * (cA L kb).1) (cA L kb).2) (redD (2 * (cA L kb).1) (cA L kb).2) W ((HR.out.below (belowNext hBw hB')).more (belowNext hBw hB').size) HLm.out (by omega))
      have HAp := Lib.hid (fun W => specApart (cA L ka).1 (cA L ka).2 (cA L kb).1 (cA L kb).2 (cA L 0).1 (cA L 0).2 W (isAng_ok (cA_ang HAng.out hkaL)) (isAng_ok (cA_ang HAng.out hkbL)) (isAng_ok (cA_ang HAng.out h0L)))
      have HE1 : Hid (plcI L (redN (2 * (cA L ka).1) (cA L ka).2, redD (2 * (cA L ka).1) (cA L ka).2) + 1 = imgI L ka) := Lib.hid rfl
      have HE2 : Hid (plcI L (redN (2 * (cA L kb).1) (cA L kb).2, redD (2 * (cA L kb).1) (cA L kb).2) + 1 = imgI L kb) := Lib.hid rfl
      rw [HE1.out] at HQ1
      rw [HE2.out] at HQ2
      have HMx : Hid (∀ j, mxF L k j = sumH (prL L.length) j (ledL L (a, c))) := Lib.hid (fun j => by unfold mxF; rw [hP])
      have HSe : Hid (sepB ((cA L ka).1, (cA L ka).2) ((cA L kb).1, (cA L kb).2) ((cA L 0).1, (cA L 0).2) = sepP L (a, c)) := Lib.hid (by
        show sepB (cA L ka) (cA L kb) (cA L 0) = sepB (cA L (a - 1).toNat) (cA L (c - 1).toNat) (cA L 0)
        rw [show (a - 1).toNat = ka by omega, show (c - 1).toNat = kb by omega])
      have HLY : Hid (sepP L (a, c) = true → ∀ j, sumH (prL L.length) j (ledL L (a, c)) = 0 + hitJ (prL L.length) (1, imgI L ka) j + hitJ (prL L.length) (1, imgI L kb) j) := Lib.hid (fun h j => by
        have := led_yes h j
        simp only at this
        rw [show (a - 1).toNat = ka by omega, show (c - 1).toNat = kb by omega] at this
        exact this)
      have HLN : Hid (sepP L (a, c) = false → ∀ j, sumH (prL L.length) j (ledL L (a, c)) = 0 + hitJ (prL L.length) (min (imgI L ka) (imgI L kb), max (imgI L ka) (imgI L kb)) j) := Lib.hid (fun h j => by
        have := led_no h j
        simp only at this
        rw [show (a - 1).toNat = ka by omega, show (c - 1).toNat = kb by omega] at this
        exact this)
      have hia := imgI_bnd L ka
      have hib := imgI_bnd L kb
      have HIa := Lib.hid hia.1
      have HIb := Lib.hid hib.1
      rw [HSe.out] at HAp
      obtain ⟨S, hS⟩ : ∃ S, sepP L (a, c) = S := ⟨_, rfl⟩
      have HS := Lib.hid hS
      rw [hS] at HAp
      generalize imgI L ka = ia at *
      generalize imgI L kb = ib at *
      generalize redN (2 * (cA L ka).1) (cA L ka).2 = r1 at *
      generalize redD (2 * (cA L ka).1) (cA L ka).2 = r2 at *
      generalize redN (2 * (cA L kb).1) (cA L kb).2 = s1 at *
      generalize redD (2 * (cA L kb).1) (cA L kb).2 = s2 at *
      generalize (cA L ka).1 = p1 at *
      generalize (cA L ka).2 = p2 at *
      generalize (cA L kb).1 = q1 at *
      generalize (cA L kb).2 = q2 at *
      generalize (cA L 0).1 = t1 at *
      generalize (cA L 0).2 = t2 at *
      have u1 := cellThru hBw hob u1
      have u2 := cellThru hBw hob u2
      have u3 := cellThru hBw hob u3
      have u4 := cellThru hBw hob u4
      have HU5 := Lib.hid (cellThru hBw hob u5)
      have HU6 := Lib.hid (cellThru hBw hob u6)
      have x0 : wr.cell? ⟨g2, off2 + k, none⟩ = _ := (hB.cell (p := ⟨g2, off2 + k, none⟩) (by show g2 < Y; omega)).trans x0
      have x1 : wr.cell? ⟨b, o, none⟩ = _ := (hB.cell (p := ⟨b, o, none⟩) (by show b < Y; omega)).trans x1
      have x2 : wr.cell? ⟨b, o + 1, none⟩ = _ := (hB.cell (p := ⟨b, o + 1, none⟩) (by show b < Y; omega)).trans x2
      have wa : IntKind.i64.wrap (a - 1) = (ka : Int) := (IntWalk.i64_in _ (by omega)).trans (by omega)
      have wb : IntKind.i64.wrap (c - 1) = (kb : Int) := (IntWalk.i64_in _ (by omega)).trans (by omega)
      have hkaI : (ka : Int) < (m : Int) := by omega
      have hkbI : (kb : Int) < (m : Int) := by omega
      have h0mI : (0 : Int) < (m : Int) := by omega
      have h0mN : 0 < m := by omega
      have hkaN : ka < m := by omega
      have hkbN : kb < m := by omega
      have hgw : g2 < wr.heap.size := by omega
      have hbw : b < wr.heap.size := by omega
      have howr : ob < wr.heap.size := Nat.lt_of_lt_of_le hob hBw.size
      have hgw1 : g2 < wr.heap.size + 1 := by omega
      have hbw1 : b < wr.heap.size + 1 := by omega
      have howr1 : ob < wr.heap.size + 1 := by omega
      have HKG := Lib.hid hkg
      clear hkg hp hP hka hkb hkaL hkbL h0L hlm hYe hoc d1 d2 d3 d4 f1 f2 f3 f4 hia hib hS HSe HE1 HE2 hBs hB hg2 hb2 u5 u6
      go_upto_region 5 with fail
      go_cut [6, 7] (fun s6 s7 wy => ∃ F G, s6 = .pointer (some ⟨F, 0, none⟩) ∧ s7 = .pointer (some ⟨G, 0, none⟩) ∧ Hid (TwoH F G p1 p2 q1 q2 wr wy))
      case first =>
        go_region
        all_goals
          go_wp2_with fail
          go_meet
          refine ⟨_, _, rfl, rfl, Lib.hid ⟨?_, ?_, ?_, ?_, ?_, ?_, ?_⟩⟩
          all_goals first | (simp; done) | (simp; omega) | (simp [go_sem]; done) | ((repeat' (first | (with_reducible exact Below.refl _ _) | (with_reducible assumption) | (with_reducible refine belowNext ?_ (by with_reducible assumption)) | (with_reducible refine belowAlloc ?_ _) | (with_reducible refine Below.drew ?_) | (with_reducible refine below_drewN ?_ _) | (with_reducible refine Below.setCell ?_ ?_ _) | go_size | (with_reducible refine sizeOf' ?_) | (with_reducible refine sizeAdd ?_) | (dsimp only; first | (with_reducible refine sizeOf' ?_) | (with_reducible refine sizeAdd ?_)))))
      case rest =>
        obtain ⟨F, G, rfl, rfl, HTw⟩ := hcut
        have S0 : (H4 wr ⟨F, 0, none⟩ ⟨F, 1, none⟩ ⟨G, 0, none⟩ ⟨G, 1, none⟩ (.int .i64 p1) (.int .i64 p2) (.int .i64 q1) (.int .i64 q2)) wc := ⟨HTw.out.B, HTw.out.zF, HTw.out.zF, HTw.out.zG, HTw.out.zG, HTw.out.c0, HTw.out.c1, HTw.out.c2, HTw.out.c3⟩
        clear HTw u1 u2 u3 u4 x0 x1 x2 wa wb hgw1 hbw1 howr1
        go_wp2_with fail
        refine wp_region_held_drew (S := (H4 wr ⟨F, 0, none⟩ ⟨F, 1, none⟩ ⟨G, 0, none⟩ ⟨G, 1, none⟩ (.int .i64 p1) (.int .i64 p2) (.int .i64 q1) (.int .i64 q2))) (by kernel_rfl) ?_ (fun hHeld => ?_)
        · exact S0.on (Below.refl _ _).drew
        refine wpAnyH_take (i := 0) (v := ?_) rfl (by kernel_rfl) (by kernel_rfl) (by kernel_rfl) (fun _ _ _ h => h) (Or.inl ⟨by kernel_rfl, ?_⟩) hHeld ?_
        rotate_left
        · intro w hSw; obtain ⟨B, z1, z2, z3, z4, x1, x2, x3, x4⟩ := hSw; first | (go_simp; done) | (go_simp; with_reducible rfl)
        refine wpAnyH_take (i := 1) (v := ?_) rfl (by kernel_rfl) (by kernel_rfl) (by kernel_rfl) (fun _ _ _ h => h) (Or.inl ⟨by kernel_rfl, ?_⟩) hHeld ?_
        rotate_left
        · intro w hSw; obtain ⟨B, z1, z2, z3, z4, x1, x2, x3, x4⟩ := hSw; first | (go_simp; done) | (go_simp; with_reducible rfl)
        refine wpAnyH_take (i := 4) (v := ?_) rfl (by kernel_rfl) (by kernel_rfl) (by kernel_rfl) (fun _ _ _ h => h) (Or.inl ⟨by kernel_rfl, ?_⟩) hHeld ?_
        rotate_left
        · intro w hSw; obtain ⟨B, z1, z2, z3, z4, x1, x2, x3, x4⟩ := hSw; first | (go_simp; done) | (go_simp; with_reducible rfl)
        refine wpAnyH_take (i := 5) (v := ?_) rfl (by kernel_rfl) (by kernel_rfl) (by kernel_rfl) (fun _ _ _ h => h) (Or.inl ⟨by kernel_rfl, ?_⟩) hHeld ?_
        rotate_left
        · intro w hSw; obtain ⟨B, z1, z2, z3, z4, x1, x2, x3, x4⟩ := hSw; first | (go_simp; done) | (go_simp; with_reducible rfl)
        refine wpAnyH_ready (rs := [2]) (by kernel_rfl) (by simp) ?_
        refine AllReadyH.cons rfl (fun K hK => ?_) AllReadyH.nil
        go_simp
        go_wp2_with (go_at_call 74; (with_reducible refine (HD1.out _).mono ?_); rintro e w11 ⟨rfl, hb11⟩)
        have S11 := hHeld.on hb11
        refine hK.out _ _ ?_ (fun hHeld => ?_)
        · exact S11
        clear hK K
        refine wpAnyH_ready (rs := [3]) (by kernel_rfl) (by simp) ?_
        refine AllReadyH.cons rfl (fun K hK => ?_) AllReadyH.nil
        go_simp
        go_wp2_with (go_at_call 73; (with_reducible refine (HQ1.out _ hHeld.B).mono ?_); rintro e w12 ⟨rfl, hb12⟩)
        have S12 := hHeld.on hb12
        refine hK.out _ _ ?_ (fun hHeld => ?_)
        · exact S12
        clear hK K
        refine wpAnyH_ready (rs := [6]) (by kernel_rfl) (by simp) ?_
        refine AllReadyH.cons rfl (fun K hK => ?_) AllReadyH.nil
        go_simp
        go_wp2_with (go_at_call 74; (with_reducible refine (HD2.out _).mono ?_); rintro e w13 ⟨rfl, hb13⟩)
        have S13 := hHeld.on hb13
        refine hK.out _ _ ?_ (fun hHeld => ?_)
        · exact S13
        clear hK K
        refine wpAnyH_ready (rs := [7]) (by kernel_rfl) (by simp) ?_
        refine AllReadyH.cons rfl (fun K hK => ?_) AllReadyH.nil
        go_simp
        go_wp2_with (go_at_call 73; (with_reducible refine (HQ2.out _ hHeld.B).mono ?_); rintro e w14 ⟨rfl, hb14⟩)
        have S14 := hHeld.on hb14
        refine hK.out _ _ ?_ (fun hHeld => ?_)
        · exact S14
        clear hK K
        refine wpAnyH_take (i := 8) (v := ?_) rfl (by kernel_rfl) (by kernel_rfl) (by kernel_rfl) (fun _ _ _ h => h) (Or.inl ⟨by kernel_rfl, ?_⟩) hHeld ?_
        rotate_left
        · intro w hSw; obtain ⟨B, z1, z2, z3, z4, x1, x2, x3, x4⟩ := hSw; first | (go_simp; done) | (go_simp; with_reducible rfl)
        refine wpAnyH_take (i := 9) (v := ?_) rfl (by kernel_rfl) (by kernel_rfl) (by kernel_rfl) (fun _ _ _ h => h) (Or.inl ⟨by kernel_rfl, ?_⟩) hHeld ?_
        rotate_left
        · intro w hSw; obtain ⟨B, z1, z2, z3, z4, x1, x2, x3, x4⟩ := hSw; first | (go_simp; done) | (go_simp; with_reducible rfl)
        refine wpAnyH_done (by kernel_rfl) ?_ _
        clear S0 hHeld S11 S12 S13 HD1 HD2 HQ1 HQ2
        have hi := HJI.out
        have hz0 := HJZ.out
        go_wp2_with (at_make; refine wpList_make_full _ rfl _ _ 32 rfl w14.heap.size 2 j0 (.int .i64 0) 1 Try.underlying32 hi hz0 jz1 .i64 .i64 _ _ N rfl rfl rfl rfl (by rw [jz2]; omega) (by unfold maxLen; omega) (by omega) ?_; intro w15 hown15 hgrow15)
        obtain ⟨R, hRe⟩ : ∃ R, w14.heap.size = R := ⟨_, rfl⟩
        have B15 : Below w14.heap.size w14 w15 := belowGrown8 hgrow15
        have HO15 := Lib.hid hown15
        have HRe := Lib.hid hRe
        have S15 := S14.on B15
        have howr5 : ob < w15.heap.size := Nat.lt_of_lt_of_le howr S15.B.size
        have T0 : (H6 wr ⟨F, 0, none⟩ ⟨F, 1, none⟩ ⟨G, 0, none⟩ ⟨G, 1, none⟩ ⟨ob, oof, none⟩ ⟨ob, oof + 1, none⟩ (.int .i64 p1) (.int .i64 p2) (.int .i64 q1) (.int .i64 q2) (.int .i64 t1) (.int .i64 t2)) w15 := ⟨S15.B, S15.z1, S15.z2, S15.z3, S15.z4, howr5, howr5, S15.x1, S15.x2, S15.x3, S15.x4, cellThru S15.B howr HU5.out, cellThru S15.B howr HU6.out⟩
        clear hi hz0 hown15 hgrow15 S15 hRe
        go_wp2_with fail
        try rw [HRe.out]
        refine wp_region_held_drew (S := (H6 wr ⟨F, 0, none⟩ ⟨F, 1, none⟩ ⟨G, 0, none⟩ ⟨G, 1, none⟩ ⟨ob, oof, none⟩ ⟨ob, oof + 1, none⟩ (.int .i64 p1) (.int .i64 p2) (.int .i64 q1) (.int .i64 q2) (.int .i64 t1) (.int .i64 t2))) (by kernel_rfl) ?_ (fun hHeld => ?_)
        · exact T0.on (Below.refl _ _).drew
        refine wpAnyH_take (i := 0) (v := ?_) rfl (by kernel_rfl) (by kernel_rfl) (by kernel_rfl) (fun _ _ _ h => h) (Or.inl ⟨by kernel_rfl, ?_⟩) hHeld ?_
        rotate_left
        · intro w hSw; obtain ⟨B, z1, z2, z3, z4, z5, z6, x1, x2, x3, x4, x5, x6⟩ := hSw; first | (go_simp; done) | (go_simp; with_reducible rfl)
        refine wpAnyH_take (i := 1) (v := ?_) rfl (by kernel_rfl) (by kernel_rfl) (by kernel_rfl) (fun _ _ _ h => h) (Or.inl ⟨by kernel_rfl, ?_⟩) hHeld ?_
        rotate_left
        · intro w hSw; obtain ⟨B, z1, z2, z3, z4, z5, z6, x1, x2, x3, x4, x5, x6⟩ := hSw; first | (go_simp; done) | (go_simp; with_reducible rfl)
        refine wpAnyH_take (i := 2) (v := ?_) rfl (by kernel_rfl) (by kernel_rfl) (by kernel_rfl) (fun _ _ _ h => h) (Or.inl ⟨by kernel_rfl, ?_⟩) hHeld ?_
        rotate_left
        · intro w hSw; obtain ⟨B, z1, z2, z3, z4, z5, z6, x1, x2, x3, x4, x5, x6⟩ := hSw; first | (go_simp; done) | (go_simp; with_reducible rfl)
        refine wpAnyH_take (i := 3) (v := ?_) rfl (by kernel_rfl) (by kernel_rfl) (by kernel_rfl) (fun _ _ _ h => h) (Or.inl ⟨by kernel_rfl, ?_⟩) hHeld ?_
        rotate_left
        · intro w hSw; obtain ⟨B, z1, z2, z3, z4, z5, z6, x1, x2, x3, x4, x5, x6⟩ := hSw; first | (go_simp; done) | (go_simp; with_reducible rfl)
        refine wpAnyH_take (i := 4) (v := ?_) rfl (by kernel_rfl) (by kernel_rfl) (by kernel_rfl) (fun _ _ _ h => h) (Or.inl ⟨by kernel_rfl, ?_⟩) hHeld ?_
        rotate_left
        · intro w hSw; obtain ⟨B, z1, z2, z3, z4, z5, z6, x1, x2, x3, x4, x5, x6⟩ := hSw; first | (go_simp; done) | (go_simp; with_reducible rfl)
        refine wpAnyH_ready (rs := [5]) (by kernel_rfl) (by simp) ?_
        refine AllReadyH.cons rfl (fun K hK => ?_) AllReadyH.nil
        go_simp
        go_wp2_with (go_at_call 42; (with_reducible refine (HAp.out _).mono ?_); rintro e w16 ⟨rfl, hb16⟩)
        have S16 := hHeld.on hb16
        refine hK.out _ _ ?_ (fun hHeld => ?_)
        · exact S16
        clear hK K
        refine wpAnyH_done (by kernel_rfl) ?_ _
        clear T0 hHeld
        have hb16 : Below w15.heap.size w15 w16 := ((Below.refl _ _).drew).trans hb16
        have HA16 : Hid (AddS R N (fun _ => 0) w16 w16) := Lib.hid (by
          have h := ownNext8 HO15.out hb16
          have hR := HRe.out
          subst hR
          refine ⟨Below.refl _ _, (World.ownsRow.lt h _ rfl).2, fun j hj => ⟨(h.cellAt j (by omega)).trans (made8 N j hj), h.frozenAt _⟩⟩)
        have HTR : Hid (TabRd w16 R (some ⟨g2, off2, none⟩) N (fun _ => 2) (pF (prL L.length))) := Lib.hid (by
          have h14 : Below Y wP w14 := HB.out.trans (S14.B.mono (by have := HB.out.size; have := HY.out; omega))
          have h16 : Below Y wP w16 := h14.trans ((belowNext B15 hb16).mono (by have := h14.size; have := HY.out; omega))
          have h := HT.out
          rw [HY.out] at h
          exact (h.below h16).more (by rw [← HRe.out]; have := h14.size; have := HY.out; omega))
        have HB14 : Hid (Below w14.heap.size w14 w16) := Lib.hid (belowNext B15 hb16)
        have HB14r : Hid (Below wr.heap.size wr w14) := Lib.hid S14.B
        clear S14 S16 hb16 B15 HO15 HU5 HU6 howr5 hgw hbw howr
        have hNN : N ≤ 1000 := by omega
        cases S
        · have HAd := Lib.hid (specAdd8 R N N (some ⟨g2, off2, none⟩) cap2 (prL L.length) ia ib (fun _ => 0) w16 HTR.out HNn.out hNN HA16.out (fun j hj => ⟨by omega, by omega⟩))
          go_wp2_with fail
          refine HAd.out.mono ?_
          rintro e w17 ⟨rfl, H17⟩
          have HW : Hid (AddS R N (mxF L k) w16 w17) := Lib.hid ⟨H17.out.1, H17.out.2.1, fun j hj => by
            have := H17.out.2.2 j hj
            rw [HMx.out j, HLN.out HS.out j]
            exact this⟩
          clear HAd H17
          obtain ⟨bb, oo, hR⟩ := HRr.out
          have hbE : Below wr.heap.size wr w17 := HB14r.out.trans ((HB14.out.trans (by rw [HRe.out]; exact HW.out.1)).mono HB14r.out.size)
          obtain ⟨xs, hown, hx⟩ := (hR.next hbE).own
          have HRR := Lib.hid (And.intro (hR.next hbE) hx)
          have hlR : ∀ i, i < k → bb i < wr.heap.size := fun i hi => (hR.row i hi hN0).2.1
          have hoR : ∀ j, v.ownBlock = some j → j < wr.heap.size := by
            obtain ⟨xs2, ho2, _⟩ := hR.own
            exact fun j e => (World.ownsRow.lt ho2 j e).2
          have hwR : wr.heap.size ≤ R := by rw [← HRe.out]; exact HB14r.out.size
          have hi := HI.out
          have hz0 := HZ0.out
          have hBY := HB.out.size
          have hYe := HY.out
          have hEs := hbE.size
          have hREs := HW.out.2.1
          have HX := Lib.hid hown.1
          have HbE := Lib.hid hbE
          have HlR := Lib.hid hlR
          have HoR := Lib.hid hoR
          have hzS : w.heap.size ≤ w17.heap.size := by omega
          have hwRw : w.heap.size ≤ R := by omega
          clear hR hx hbE hlR hoR hYe
          go_wp2_with (at_builtin; refine wpList_append_own_at _ rfl _ _ 24 rfl w.heap.size 32 i0 (.slice none 0 0) 1 24 Try.underlying24 hi hz0 hz1 hz2 rfl (by decide) v k xs rfl (World.ownsRow.alloc hown _) ⟨w17.heap.size, 0, none⟩ 1 1 [.slice (some ⟨R, 0, none⟩) N N] rfl rfl (cell_one_new _ _ _) ?c2 ?c3 ?c4 ?c5 ?_)
          case c2 => first | rfl | (intro u hu; simp at hu; subst hu; rfl)
          case c3 => unfold maxLen; omega
          case c4 => omega
          case c5 => first | omega | (simp; omega)
          intro v' w3 hown' hgrow _ hat
          have HE : Hid (∃ bb oo, RowsAt w3 w.heap.size v' (k + 1) (fun _ => N) (mxF L) bb oo) := Lib.hid (by
            have hb : Below w17.heap.size w17 (w17.alloc (.cells #[.slice (some ⟨R, 0, none⟩) N N] 32)) := belowAlloc (Below.refl _ _) _
            have h := RowsAt.push (W := w17.alloc (.cells #[.slice (some ⟨R, 0, none⟩) N N] 32)) (b := R) (o := 0) (m := N) (r := mxF L k) (HRR.out.1.next hb) (xs := xs) HRR.out.2 (by have := HX.out; omega) (A := some ⟨R, 0, none⟩) (cap := N)
              (fun _ => ⟨rfl, by omega, by simp; omega, (fun e => by have := HoR.out _ e.symm; omega), fun j' hj' => by
                obtain ⟨a1, a2⟩ := HW.out.2.2 j' hj'
                rw [Nat.zero_add]
                exact ⟨cellThru hb hREs a1, frozThru hb hREs a2⟩⟩) (fun i j' kk hi _ _ he => by have := HlR.out i hi; omega) hown' hgrow (by
                rcases hat with e | e
                · exact .inl e
                · exact .inr ⟨_, e, by simp⟩)
            exact ⟨_, _, h.congr (fun i hi => by by_cases e : i = k <;> simp [e]) (fun i j' hi hj' => by
              by_cases e : i = k
              · subst e; rw [if_pos rfl]
              · rw [if_neg e])⟩)
          have HB1 : Hid (Below Y wP w3) := Lib.hid (below_grown8 (show Below Y wP (w17.alloc _) from HB.out.trans ((HbE.out.trans ((belowAlloc (Below.refl _ _) _).mono HbE.out.size)).mono (by have := HY.out; omega))) hgrow (fun j e => HOY.out j e) (by have := HY.out; simp; omega))
          have HOY1 : Hid (∀ j, v'.ownBlock = some j → Y ≤ j) := Lib.hid (fun j hj => by
            rcases hat with e | e
            · rw [e] at hj; exact HOY.out j hj
            · rw [e] at hj; have h1 := Option.some.inj hj; have h2 := HY.out; omega)
          clear hown hown' hgrow hzS hi hz0 HRR HX hat HB HW HbE HlR HoR HB14 HB14r HOY
          go_wp2
          go_roundg gg
          case measure => omega
          case rel => exact ⟨k + 1, v', by have := HKG.out; omega, by go_num, rfl, HE, HOY1, HB1⟩
        · have HAd := Lib.hid (specAdd8 R N N (some ⟨g2, off2, none⟩) cap2 (prL L.length) ia 1 (fun _ => 0) w16 HTR.out HNn.out hNN HA16.out (fun j hj => ⟨by omega, by omega⟩))
          go_wp2_with fail
          refine HAd.out.mono ?_
          rintro e w17 ⟨rfl, H17⟩
          have HAd2 := Lib.hid (specAdd8 R N N (some ⟨g2, off2, none⟩) cap2 (prL L.length) ib 1 _ w17 (HTR.out.below H17.out.1) HNn.out hNN ⟨Below.refl _ _, H17.out.2.1, H17.out.2.2⟩ (fun j hj => by have := hitJ_bnd (prL L.length) (min ia 1, max ia 1) j; omega))
          clear HAd
          go_wp2_with fail
          refine HAd2.out.mono ?_
          rintro e w18 ⟨rfl, H18⟩
          have HW : Hid (AddS R N (mxF L k) w16 w18) := Lib.hid ⟨H17.out.1.trans H18.out.1, H18.out.2.1, fun j hj => by
            have := H18.out.2.2 j hj
            have hj' : j < (prL L.length).length := by rw [HNn.out]; exact hj
            rw [HMx.out j, HLY.out HS.out j, ← hit_one HM.out hj' HIa.out, ← hit_one HM.out hj' HIb.out]
            exact this⟩
          clear HAd2 H17 H18
          obtain ⟨bb, oo, hR⟩ := HRr.out
          have hbE : Below wr.heap.size wr w18 := HB14r.out.trans ((HB14.out.trans (by rw [HRe.out]; exact HW.out.1)).mono HB14r.out.size)
          obtain ⟨xs, hown, hx⟩ := (hR.next hbE).own
          have HRR := Lib.hid (And.intro (hR.next hbE) hx)
          have hlR : ∀ i, i < k → bb i < wr.heap.size := fun i hi => (hR.row i hi hN0).2.1
          have hoR : ∀ j, v.ownBlock = some j → j < wr.heap.size := by
            obtain ⟨xs2, ho2, _⟩ := hR.own
            exact fun j e => (World.ownsRow.lt ho2 j e).2
          have hwR : wr.heap.size ≤ R := by rw [← HRe.out]; exact HB14r.out.size
          have hi := HI.out
          have hz0 := HZ0.out
          have hBY := HB.out.size
          have hYe := HY.out
          have hEs := hbE.size
          have hREs := HW.out.2.1
          have HX := Lib.hid hown.1
          have HbE := Lib.hid hbE
          have HlR := Lib.hid hlR
          have HoR := Lib.hid hoR
          have hzS : w.heap.size ≤ w18.heap.size := by omega
          have hwRw : w.heap.size ≤ R := by omega
          clear hR hx hbE hlR hoR hYe
          go_wp2_with (at_builtin; refine wpList_append_own_at _ rfl _ _ 24 rfl w.heap.size 32 i0 (.slice none 0 0) 1 24 Try.underlying24 hi hz0 hz1 hz2 rfl (by decide) v k xs rfl (World.ownsRow.alloc hown _) ⟨w18.heap.size, 0, none⟩ 1 1 [.slice (some ⟨R, 0, none⟩) N N] rfl rfl (cell_one_new _ _ _) ?c2 ?c3 ?c4 ?c5 ?_)
          case c2 => first | rfl | (intro u hu; simp at hu; subst hu; rfl)
          case c3 => unfold maxLen; omega
          case c4 => omega
          case c5 => first | omega | (simp; omega)
          intro v' w3 hown' hgrow _ hat
          have HE : Hid (∃ bb oo, RowsAt w3 w.heap.size v' (k + 1) (fun _ => N) (mxF L) bb oo) := Lib.hid (by
            have hb : Below w18.heap.size w18 (w18.alloc (.cells #[.slice (some ⟨R, 0, none⟩) N N] 32)) := belowAlloc (Below.refl _ _) _
            have h := RowsAt.push (W := w18.alloc (.cells #[.slice (some ⟨R, 0, none⟩) N N] 32)) (b := R) (o := 0) (m := N) (r := mxF L k) (HRR.out.1.next hb) (xs := xs) HRR.out.2 (by have := HX.out; omega) (A := some ⟨R, 0, none⟩) (cap := N)
              (fun _ => ⟨rfl, by omega, by simp; omega, (fun e => by have := HoR.out _ e.symm; omega), fun j' hj' => by
                obtain ⟨a1, a2⟩ := HW.out.2.2 j' hj'
                rw [Nat.zero_add]
                exact ⟨cellThru hb hREs a1, frozThru hb hREs a2⟩⟩) (fun i j' kk hi _ _ he => by have := HlR.out i hi; omega) hown' hgrow (by
                rcases hat with e | e
                · exact .inl e
                · exact .inr ⟨_, e, by simp⟩)
            exact ⟨_, _, h.congr (fun i hi => by by_cases e : i = k <;> simp [e]) (fun i j' hi hj' => by
              by_cases e : i = k
              · subst e; rw [if_pos rfl]
              · rw [if_neg e])⟩)
          have HB1 : Hid (Below Y wP w3) := Lib.hid (below_grown8 (show Below Y wP (w18.alloc _) from HB.out.trans ((HbE.out.trans ((belowAlloc (Below.refl _ _) _).mono HbE.out.size)).mono (by have := HY.out; omega))) hgrow (fun j e => HOY.out j e) (by have := HY.out; simp; omega))
          have HOY1 : Hid (∀ j, v'.ownBlock = some j → Y ≤ j) := Lib.hid (fun j hj => by
            rcases hat with e | e
            · rw [e] at hj; exact HOY.out j hj
            · rw [e] at hj; have h1 := Option.some.inj hj; have h2 := HY.out; omega)
          clear hown hown' hgrow hzS hi hz0 HRR HX hat HB HW HbE HlR HoR HB14 HB14r HOY
          go_wp2
          go_roundg gg
          case measure => omega
          case rel => exact ⟨k + 1, v', by have := HKG.out; omega, by go_num, rfl, HE, HOY1, HB1⟩

theorem totNN {N : Nat} (h : N ≤ 21) : totN (fun _ => N) N ≤ 1000000 := by
  rw [totN_const]
  have : N * N ≤ 21 * 21 := Nat.mul_le_mul h h
  omega

set_option maxRecDepth 8000 in
set_option maxHeartbeats 2000000 in
theorem specPM (n d : Int) (w : World) : Calls Try.prog 20 #[ang n d] w (ResTabR w (prL (o8 n d).length).length (fun _ => (prL (o8 n d).length).length) (mxF (o8 n d)) (c8 n d)) := by
  have HO := Lib.hid (fun w => specOrb8 n d w)
  have hm := o8_len n d
  have ha := o8_ang n d
  by_cases h : c8 n d = 0
  · rw [h] at HO ⊢
    clear h
    generalize o8 n d = L at *
    obtain ⟨N, hN⟩ : ∃ N, (prL L.length).length = N := ⟨_, rfl⟩
    have HM := Lib.hid (fun A cap W (hr : AngRow W W.heap.size A L) => specMx A L.length cap L N W hr rfl hm ha hN)
    obtain ⟨m, hml⟩ : ∃ m, L.length = m := ⟨_, rfl⟩
    have HLm := Lib.hid hml
    rw [hN]
    rw [hml] at HM
    clear hN hml
    go_enter Try.func20, Try.ntmps20
    go_wp2_with fail
    refine (HO.out _).mono ?_
    rintro e w1 ⟨A, cap, rfl, hA, hb1⟩
    rw [HLm.out]
    go_wp2_with fail
    refine (HM.out A cap _ hA.row).mono ?_
    rintro e w2 ⟨A2, cap2, rfl, H2, hb2⟩
    clear hA
    go_wp2
    go_ret2
    refine ⟨A2, cap2, rfl, H2.out.rd, ?_⟩
    (repeat' (first | (with_reducible exact Below.refl _ _) | (with_reducible assumption) | (with_reducible refine belowNext ?_ (by with_reducible assumption)) | (with_reducible refine belowAlloc ?_ _) | (with_reducible refine Below.drew ?_) | (with_reducible refine below_drewN ?_ _) | (with_reducible refine Below.setCell ?_ ?_ _) | go_size | (with_reducible refine sizeOf' ?_) | (with_reducible refine sizeAdd ?_) | (dsimp only; first | (with_reducible refine sizeOf' ?_) | (with_reducible refine sizeAdd ?_))))
  · rw [o8_no h] at HO ⊢
    have hC : (c8 n d == 0) = false := beq_eq_false_iff_ne.2 h
    generalize c8 n d = C at *
    clear h hm ha
    go_enter Try.func20, Try.ntmps20
    go_wp2_with fail
    refine (HO.out _).mono ?_
    rintro e w1 ⟨A, cap, rfl, hA, hb1⟩
    clear hA
    go_wp2
    go_ret2
    refine ⟨none, 0, rfl, tabRd_nil, ?_⟩
    (repeat' (first | (with_reducible exact Below.refl _ _) | (with_reducible assumption) | (with_reducible refine belowNext ?_ (by with_reducible assumption)) | (with_reducible refine belowAlloc ?_ _) | (with_reducible refine Below.drew ?_) | (with_reducible refine below_drewN ?_ _) | (with_reducible refine Below.setCell ?_ ?_ _) | go_size | (with_reducible refine sizeOf' ?_) | (with_reducible refine sizeAdd ?_) | (dsimp only; first | (with_reducible refine sizeOf' ?_) | (with_reducible refine sizeAdd ?_))))

set_option maxRecDepth 8000 in
set_option maxHeartbeats 2000000 in
theorem implPM (n d : Int) (w : World) : Calls Try.prog 21 #[ang n d] w (ResTab w (prL (o8 n d).length).length (fun _ => (prL (o8 n d).length).length) (mxF (o8 n d)) (c8 n d)) := by
  have HO := Lib.hid (fun w => implPT n d w)
  have hm := o8_len n d
  have ha := o8_ang n d
  generalize o8 n d = L at *
  generalize c8 n d = C at *
  obtain ⟨N, hN⟩ : ∃ N, (prL L.length).length = N := ⟨_, rfl⟩
  have HM := Lib.hid (fun A cap A2 cap2 W (hr : AngRow W W.heap.size A L) ht => implMx A L.length cap A2 N cap2 L W hr rfl hm ha ht hN)
  obtain ⟨m, hml⟩ : ∃ m, L.length = m := ⟨_, rfl⟩
  have HLm := Lib.hid hml
  rw [hml] at HM hN ⊢
  have HNn := Lib.hid hN
  rw [hN]
  clear hN hml
  go_enter Try.func21, Try.ntmps21
  go_wp2_with fail
  refine (HO.out _).mono ?_
  rintro e w1 ⟨A, cap, A2, cap2, rfl, hA, ht, hb1⟩
  rw [HLm.out] at ht ⊢
  rw [HNn.out] at ht ⊢
  have HR := Lib.hid hA.row
  have HT := Lib.hid ht.rd
  have hb1' : Below w.heap.size w w1 := by
    (repeat' (first | (with_reducible exact Below.refl _ _) | (with_reducible assumption) | (with_reducible refine belowNext ?_ (by with_reducible assumption)) | (with_reducible refine belowAlloc ?_ _) | (with_reducible refine Below.drew ?_) | (with_reducible refine below_drewN ?_ _) | (with_reducible refine Below.setCell ?_ ?_ _) | go_size | (with_reducible refine sizeOf' ?_) | (with_reducible refine sizeAdd ?_) | (dsimp only; first | (with_reducible refine sizeOf' ?_) | (with_reducible refine sizeAdd ?_))))
  clear hA ht
  go_wp2_with fail
  refine (HM.out A cap A2 cap2 _ ((HR.out.below (belowAlloc (Below.refl _ _) _)).more (belowAlloc (Below.refl _ _) _).size) ((HT.out.below (belowAlloc (Below.refl _ _) _)).more (belowAlloc (Below.refl _ _) _).size)).mono ?_
  rintro e w2 ⟨A3, cap3, rfl, H2, hb2⟩
  have hz1 := hb1'.size
  go_wp2
  go_ret2
  refine ⟨A3, cap3, rfl, H2.out.low (by simp; omega), ?_⟩
  (repeat' (first | (with_reducible exact Below.refl _ _) | (with_reducible assumption) | (with_reducible refine belowNext ?_ (by with_reducible assumption)) | (with_reducible refine belowAlloc ?_ _) | (with_reducible refine Below.drew ?_) | (with_reducible refine below_drewN ?_ _) | (with_reducible refine Below.setCell ?_ ?_ _) | go_size | (with_reducible refine sizeOf' ?_) | (with_reducible refine sizeAdd ?_) | (dsimp only; first | (with_reducible refine sizeOf' ?_) | (with_reducible refine sizeAdd ?_))))

set_option maxHeartbeats 4000000 in
theorem lawPairMatrix (n d : Int) (_ : (Lit.int .i64 n).wf = true) (_ : (Lit.int .i64 d).wf = true) (w : World) :
    Calls Try.prog 5 #[ang n d] w fun e w' => e = .returned (.bool true) ∧ Below w.heap.size w w' := by
  have HA := Lib.hid (fun w => specPM n d w)
  have HB := Lib.hid (fun w => implPM n d w)
  have hN : (prL (o8 n d).length).length ≤ 1000000 := Nat.le_trans (prL_len (o8_len n d)) (by omega)
  have hT : totN (fun _ => (prL (o8 n d).length).length) ((prL (o8 n d).length).length) ≤ 1000000 := totNN (prL_len (o8_len n d))
  obtain ⟨LN, hLN⟩ : ∃ LN : Nat → Nat, (fun _ => (prL (o8 n d).length).length) = LN := ⟨_, rfl⟩
  rw [hLN] at HA HB hT
  clear hLN
  generalize (prL (o8 n d).length).length = N at *
  generalize mxF (o8 n d) = F at *
  generalize c8 n d = C at *
  obtain ⟨T, hTe⟩ : ∃ T, totN LN N = T := ⟨_, rfl⟩
  have HTe := Lib.hid hTe
  have HT2 := Lib.hid hT
  rw [hTe] at hT
  clear hTe
  go_enter Try.func5, Try.ntmps5
  go_wp2_with fail
  refine (toAngX _ _ _).mono ?_
  rintro e w1 ⟨rfl, rfl⟩
  go_wp2_with fail
  refine (HA.out _).mono ?_
  rintro e w2 ⟨A, cap, rfl, ha, hb2⟩
  have hc2 := bcell hb2
  have c0 : w2.cell? ⟨w.heap.size, 0, none⟩ = some (.int .i64 n) := cellThru hb2 (by simp <;> omega) (by simp [go_sem])
  have c1 : w2.cell? ⟨w.heap.size, 1, none⟩ = some (.int .i64 d) := cellThru hb2 (by simp <;> omega) (by simp [go_sem])
  have z2 : w.heap.size < w2.heap.size := by have := hb2.size; simp at this; omega
  have B2 : Below w.heap.size w w2 := by
    (repeat' (first | (with_reducible exact Below.refl _ _) | (with_reducible assumption) | (with_reducible refine belowNext ?_ (by with_reducible assumption)) | (with_reducible refine belowAlloc ?_ _) | (with_reducible refine Below.drew ?_) | (with_reducible refine below_drewN ?_ _) | (with_reducible refine Below.setCell ?_ ?_ _) | go_size | (with_reducible refine sizeOf' ?_) | (with_reducible refine sizeAdd ?_) | (dsimp only; first | (with_reducible refine sizeOf' ?_) | (with_reducible refine sizeAdd ?_))))
  clear hc2 hb2
  have R := Lib.hid ha
  clear ha
  go_wp2_with fail
  refine (toAngX _ _ _).mono ?_
  rintro e w3 ⟨rfl, rfl⟩
  go_wp2_with fail
  refine (HB.out _).mono ?_
  rintro e w4 ⟨A', cap', rfl, ha', hb4⟩
  have s4 := hb4.size
  simp at s4
  have z4 : w.heap.size < w4.heap.size := by omega
  have B24 : Below w2.heap.size w2 w4 := by
    (repeat' (first | (with_reducible exact Below.refl _ _) | (with_reducible assumption) | (with_reducible refine belowNext ?_ (by with_reducible assumption)) | (with_reducible refine belowAlloc ?_ _) | (with_reducible refine Below.drew ?_) | (with_reducible refine below_drewN ?_ _) | (with_reducible refine Below.setCell ?_ ?_ _) | go_size | (with_reducible refine sizeOf' ?_) | (with_reducible refine sizeAdd ?_) | (dsimp only; first | (with_reducible refine sizeOf' ?_) | (with_reducible refine sizeAdd ?_))))
  have c0 : w4.cell? ⟨w.heap.size, 0, none⟩ = some (.int .i64 n) := cellThru B24 z2 c0
  have c1 : w4.cell? ⟨w.heap.size, 1, none⟩ = some (.int .i64 d) := cellThru B24 z2 c1
  have R4 := Lib.hid (R.out.below B24)
  have Rs4 := Lib.hid (R4.out.more B24.size)
  have Q4 := Lib.hid ha'
  clear ha' hb4
  go_wp2_with fail
  refine (eqTab _ _ _ _ _ LN F _ Q4.out.rd Rs4.out hN HT2.out).mono ?_
  rintro e w5 ⟨rfl, hb5⟩
  have c0 : w5.cell? ⟨w.heap.size, 0, none⟩ = some (.int .i64 n) := cellThru hb5 z4 c0
  have c1 : w5.cell? ⟨w.heap.size, 1, none⟩ = some (.int .i64 d) := cellThru hb5 z4 c1
  have z5 : w.heap.size < w5.heap.size := by have := hb5.size; omega
  have R5 := Lib.hid (R4.out.below (hb5.mono B24.size))
  have Q5 := Lib.hid (Q4.out.next hb5)
  have B25 : Below w2.heap.size w2 w5 := belowNext B24 hb5
  go_wp2_with fail
  refine (markTab _ _ _ LN F _ _ Q5.out hN HT2.out).mono ?_
  rintro e w6 ⟨rfl, H6⟩
  rw [HTe.out]
  simp only [World.size_alloc] at H6
  have b6 := H6.out.2.mono (show w2.heap.size ≤ w2.heap.size + 1 + 1 + 1 by omega)
  have c0 : w6.cell? ⟨w.heap.size, 0, none⟩ = some (.int .i64 n) := (b6.cell (p := ⟨w.heap.size, 0, none⟩) z2).trans c0
  have c1 : w6.cell? ⟨w.heap.size, 1, none⟩ = some (.int .i64 d) := (b6.cell (p := ⟨w.heap.size, 1, none⟩) z2).trans c1
  have z6 : w.heap.size < w6.heap.size := by have := b6.size; omega
  have R6 := Lib.hid (R5.out.below b6)
  have Q6 := Lib.hid H6.out.1
  have B26 : Below w2.heap.size w2 w6 := B25.trans b6
  have nn : (1 + (T : Int) < 0) = False := by simp; omega
  clear b6 H6 hb5
  go_wp2_with fail
  refine (heldTab _ _ _ LN _ Q6.out.rd hN HT2.out).mono ?_
  rintro e w7 ⟨rfl, rfl⟩
  rw [HTe.out]
  go_wp2_with fail
  refine (toAngX _ _ _).mono ?_
  rintro e w8 ⟨rfl, rfl⟩
  go_wp2_with fail
  refine (HB.out _).mono ?_
  rintro e w9 ⟨A'', cap'', rfl, ha'', hb9⟩
  have s9 := hb9.size
  simp at s9
  have B69 : Below w6.heap.size w6 w9 := by
    (repeat' (first | (with_reducible exact Below.refl _ _) | (with_reducible assumption) | (with_reducible refine belowNext ?_ (by with_reducible assumption)) | (with_reducible refine belowAlloc ?_ _) | (with_reducible refine Below.drew ?_) | (with_reducible refine below_drewN ?_ _) | (with_reducible refine Below.setCell ?_ ?_ _) | go_size | (with_reducible refine sizeOf' ?_) | (with_reducible refine sizeAdd ?_) | (dsimp only; first | (with_reducible refine sizeOf' ?_) | (with_reducible refine sizeAdd ?_))))
  have B29 : Below w2.heap.size w2 w9 := belowNext B26 B69
  have R9 := Lib.hid ((R6.out.below (B69.mono B26.size)).more B29.size)
  have Q9 := Lib.hid (Q6.out.next B69)
  have P9 := Lib.hid ha''.rd
  clear ha'' hb9
  go_wp2_with fail
  refine (eqTab _ _ _ _ _ LN F _ P9.out R9.out hN HT2.out).mono ?_
  rintro e w10 ⟨rfl, hb10⟩
  have Q10 := Lib.hid (Q9.out.next hb10)
  go_wp2_with fail
  refine (heldTab _ _ _ LN _ Q10.out.rd hN HT2.out).mono ?_
  rintro e w11 ⟨rfl, rfl⟩
  rw [HTe.out]
  go_wp2
  go_ret
  exact ⟨rfl, belowNext (belowNext B2 B29) hb10⟩
end Go.Proofs.Ytjomgbjiognmmaa

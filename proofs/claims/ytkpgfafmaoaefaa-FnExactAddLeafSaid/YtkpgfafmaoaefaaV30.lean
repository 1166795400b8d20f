/-
  Contracts: leaves in order searched for the place of one, by halving.
-/
import Derived.Test.YtkpgfafmaoaefaaV28
import Derived.Test.YtkpgfafmaoaefaaV17
namespace Go.Proofs.Ytkpgfafmaoaefaa
open Go.RowKit

theorem lf_lowB {a b c d : Int} (h : isLf a b c d = true) : angOk a b := by
  obtain ⟨h1, h2, h3, h4, _⟩ := (isLf_yes h).1
  exact ⟨h1, h2, h3, h4⟩
theorem lf_upB {a b c d : Int} (h : isLf a b c d = true) : angOk c d := by
  obtain ⟨h1, h2, h3, h4, _⟩ := (isLf_yes h).2.1
  exact ⟨h1, h2, h3, h4⟩
theorem cmpL_eq {a b c d e f g h : Int} (hx : isLf a b c d = true) (hy : isLf e f g h = true) : cmpL a b c d e f g h = 0 ↔ (a, b, c, d) = (e, f, g, h) := by
  obtain ⟨r1, r2, -⟩ := isLf_yes hx
  obtain ⟨r3, r4, -⟩ := isLf_yes hy
  constructor
  · intro h0
    unfold cmpL at h0
    split at h0
    · next h1 =>
      have e1 := redEq r1 r3 (cmpI_zero h1)
      have e2 := redEq r2 r4 (cmpI_zero h0)
      simp only [Prod.mk.injEq] at e1 e2 ⊢
      exact ⟨e1.1, e1.2, e2.1, e2.2⟩
    · next h1 => exact absurd h0 h1
  · intro h0
    simp only [Prod.mk.injEq] at h0
    obtain ⟨rfl, rfl, rfl, rfl⟩ := h0
    unfold cmpL
    rw [cmpI_same, cmpI_same]
    rfl

set_option maxRecDepth 100000 in
set_option maxHeartbeats 2000000 in
theorem binSearch (A : Option Addr) (len cap : Nat) (l : List Lf4) (p1 p2 p3 p4 : Int) (w : World) (hr : LfRow w w.heap.size A l) (hl : l.length = len) (hm : len ≤ 1000000) (hA : allLf l = true) (hs : Asc l) (hp : isLf p1 p2 p3 p4 = true) :
    Calls Try.prog 97 #[.slice A len cap, leafV p1 p2 p3 p4, .func (Fn.func 93) #[] #[]] w fun e w' => (∃ t : Bool, e = .returned (.tuple #[.int .i64 (lessNL l (p1, p2, p3, p4) : Int), .bool t]) ∧ Hid (t = true ↔ l[lessNL l (p1, p2, p3, p4)]? = some (p1, p2, p3, p4))) ∧ Below w.heap.size w w' := by
  have HR := Lib.hid hr
  have HL := Lib.hid hl
  have HA := Lib.hid hA
  have HS := Lib.hid hs
  have HP := Lib.hid hp
  obtain ⟨n, hn⟩ : ∃ n, lessNL l (p1, p2, p3, p4) = n := ⟨_, rfl⟩
  have HNn := Lib.hid hn
  rw [hn]
  clear hr hl hA hs hp hn
  go_enter Try.func97, Try.ntmps97
  go_wp2_with fail
  obtain ⟨w1, hw1⟩ : ∃ w1, w.alloc (.cells #[.int .i64 p1, .int .i64 p2, .int .i64 p3, .int .i64 p4] 31) = w1 := ⟨_, rfl⟩
  have hg1 : w.heap.size < w1.heap.size := by rw [← hw1]; simp
  have y0 : w1.cell? ⟨w.heap.size, 0, none⟩ = some (.int .i64 p1) := by rw [← hw1]; simp [go_sem]
  have y1 : w1.cell? ⟨w.heap.size, 1, none⟩ = some (.int .i64 p2) := by rw [← hw1]; simp [go_sem]
  have y2 : w1.cell? ⟨w.heap.size, 2, none⟩ = some (.int .i64 p3) := by rw [← hw1]; simp [go_sem]
  have y3 : w1.cell? ⟨w.heap.size, 3, none⟩ = some (.int .i64 p4) := by rw [← hw1]; simp [go_sem]
  have B1 : Hid (Below w.heap.size w w1) := Lib.hid (by rw [← hw1]; exact belowAlloc (Below.refl _ _) _)
  rw [hw1]
  clear hw1
  go_loopg [9, 10] len (fun g s9 s10 wx => ∃ i j : Nat, i ≤ j ∧ j ≤ len ∧ j = i + g ∧ s9 = .int .i64 i ∧ s10 = .int .i64 j ∧ Hid (∀ t, t < i → ∀ q, l[t]? = some q → lessX q (p1, p2, p3, p4) = true) ∧ Hid (∀ t, j ≤ t → ∀ q, l[t]? = some q → lessX q (p1, p2, p3, p4) = false) ∧ Hid (Below w1.heap.size w1 wx))
  case atStart => exact ⟨0, len, by omega, by omega, by omega, rfl, rfl, Lib.hid (fun t h => absurd h (by omega)), Lib.hid (fun t h q hq => by rw [List.getElem?_eq_none (by have := HL.out; omega)] at hq; cases hq), Lib.hid (Below.refl _ _)⟩
  case round =>
    obtain ⟨i, j, hij, hjl, hg, rfl, rfl, HLo, HHi, BX⟩ := hrel
    have hgw : w.heap.size < wr.heap.size := Nat.lt_of_lt_of_le hg1 BX.out.size
    have a0 := cellThru BX.out hg1 y0
    have a1 := cellThru BX.out hg1 y1
    have a2 := cellThru BX.out hg1 y2
    have a3 := cellThru BX.out hg1 y3
    cases gk with
    | zero =>
      obtain rfl : j = i := by omega
      clear hg hij
      have hli : ¬ ((j : Int) < (j : Int)) := by omega
      by_cases hjn : j < len
      · have hjn2 : (j : Int) < (len : Int) := by omega
        obtain ⟨q1, q2, q3, q4, hx⟩ := lfAt (l := l) (k := j) (by have := HL.out; omega)
        have hne : l ≠ [] := by intro h0; rw [h0] at hx; simp at hx
        obtain ⟨b, off, rfl, hbb, hcells⟩ := row_at HR.out hne
        have hbe : Below w.heap.size w wr := B1.out.trans (BX.out.mono B1.out.size)
        obtain ⟨x0, x1, x2, x3⟩ := (hcells j q1 q2 q3 q4 hx).next hbe hbb
        have hbw : b < wr.heap.size := Nat.lt_of_lt_of_le hbb hbe.size
        have hlf : isLf q1 q2 q3 q4 = true := allLf_at HA.out hx
        have HC := Lib.hid (fun w => implCmpL q1 q2 q3 q4 p1 p2 p3 p4 w (lf_lowB hlf) (lf_upB hlf) (lf_lowB HP.out) (lf_upB HP.out))
        have HN : Hid (n = j) := Lib.hid (by
          rw [← HNn.out]
          exact lessNL_stop (by have := HL.out; omega) HLo.out hx (HHi.out j (Nat.le_refl _) _ hx))
        have HQ := Lib.hid (cmpL_eq hlf HP.out)
        have hrg := cmpL_range q1 q2 q3 q4 p1 p2 p3 p4
        generalize cmpL q1 q2 q3 q4 p1 p2 p3 p4 = R at *
        have HT : Hid (decide (R = 0) = true ↔ l[n]? = some (p1, p2, p3, p4)) := Lib.hid (by
          rw [decide_eq_true_eq, HQ.out, HN.out, hx, Option.some.injEq])
        obtain ⟨t, ht⟩ : ∃ t, decide (R = 0) = t := ⟨_, rfl⟩
        rw [ht] at HT
        have ht2 : (R == 0) = t := by rw [← ht]; rfl
        clear hcells hne hx hlf HQ
        go_wp2_with fail
        refine wp_region_any (by kernel_rfl) ?_
        try (change wpAny _ _ _ _ _ _ _ (World.drew _))
        refine wpAny_take (i := 0) (v := ?_) rfl (by kernel_rfl) (by kernel_rfl) (by kernel_rfl) (fun _ _ _ h => h) (Or.inl ⟨by kernel_rfl, ?_⟩) ?_
        rotate_left
        · intro w; first | (go_simp; done) | (go_simp; with_reducible rfl)
        refine wpAny_take (i := 1) (v := ?_) rfl (by kernel_rfl) (by kernel_rfl) (by kernel_rfl) (fun _ _ _ h => h) (Or.inl ⟨by kernel_rfl, ?_⟩) ?_
        rotate_left
        · intro w; first | (go_simp; done) | (go_simp; with_reducible rfl)
        refine wpAny_take (i := 2) (v := ?_) rfl (by kernel_rfl) (by kernel_rfl) (by kernel_rfl) (fun _ _ _ h => h) (Or.inl ⟨by kernel_rfl, ?_⟩) ?_
        rotate_left
        · intro w; first | (go_simp; done) | (go_simp; with_reducible rfl)
        refine wpAny_take (i := 3) (v := ?_) rfl (by kernel_rfl) (by kernel_rfl) (by kernel_rfl) (fun _ _ _ h => h) (Or.inl ⟨by kernel_rfl, ?_⟩) ?_
        rotate_left
        · intro w; first | (go_simp; done) | (go_simp; with_reducible rfl)
        refine wpAny_take (i := 4) (v := ?_) rfl (by kernel_rfl) (by kernel_rfl) (by kernel_rfl) (fun _ _ _ h => h) (Or.inl ⟨by kernel_rfl, ?_⟩) ?_
        rotate_left
        · intro w; first | (go_simp; done) | (go_simp; with_reducible rfl)
        refine wpAny_take (i := 5) (v := ?_) rfl (by kernel_rfl) (by kernel_rfl) (by kernel_rfl) (fun _ _ _ h => h) (Or.inl ⟨by kernel_rfl, ?_⟩) ?_
        rotate_left
        · intro w; first | (go_simp; done) | (go_simp; with_reducible rfl)
        refine wpAny_take (i := 6) (v := ?_) rfl (by kernel_rfl) (by kernel_rfl) (by kernel_rfl) (fun _ _ _ h => h) (Or.inl ⟨by kernel_rfl, ?_⟩) ?_
        rotate_left
        · intro w; first | (go_simp; done) | (go_simp; with_reducible rfl)
        refine wpAny_take (i := 7) (v := ?_) rfl (by kernel_rfl) (by kernel_rfl) (by kernel_rfl) (fun _ _ _ h => h) (Or.inl ⟨by kernel_rfl, ?_⟩) ?_
        rotate_left
        · intro w; first | (go_simp; done) | (go_simp; with_reducible rfl)
        refine wpAny_take (i := 8) (v := ?_) rfl (by kernel_rfl) (by kernel_rfl) (by kernel_rfl) (fun _ _ _ h => h) (Or.inl ⟨by kernel_rfl, ?_⟩) ?_
        rotate_left
        · intro w; first | (go_simp; done) | (go_simp; with_reducible rfl)
        refine wpAny_ready (rs := [9, 10]) (by kernel_rfl) (by simp) ?_
        refine AllReady.cons rfl (fun K hK => ?_) (AllReady.cons rfl (fun K hK => ?_) AllReady.nil)
        · go_simp
          refine hK _ _ ?_
          clear hK K
          refine wpAny_ready (rs := [10]) (by kernel_rfl) (by simp) ?_
          refine AllReady.cons rfl (fun K hK => ?_) AllReady.nil
          go_simp
          refine hK _ _ ?_
          clear hK K
          refine wpAny_ready (rs := [11]) (by kernel_rfl) (by simp) ?_
          refine AllReady.cons rfl (fun K hK => ?_) AllReady.nil
          go_simp
          go_wp2_with (go_at_call 93; (with_reducible refine (HC.out _).mono ?_); rintro e w2 ⟨rfl, hb2⟩)
          refine wpAny_take (i := 12) (v := ?_) rfl (by kernel_rfl) (by kernel_rfl) (by kernel_rfl) (fun _ _ _ h => h) (Or.inl ⟨by kernel_rfl, ?_⟩) ?_
          rotate_left
          · intro w; first | (go_simp; done) | (go_simp; with_reducible rfl)
          refine wpAny_take (i := 13) (v := ?_) rfl (by kernel_rfl) (by kernel_rfl) (by kernel_rfl) (fun _ _ _ h => h) (Or.inl ⟨by kernel_rfl, ?_⟩) ?_
          rotate_left
          · intro w; first | (go_simp; done) | (go_simp; with_reducible rfl)
          refine wpAny_take (i := 14) (v := ?_) rfl (by kernel_rfl) (by kernel_rfl) (by kernel_rfl) (fun _ _ _ h => h) (Or.inl ⟨by kernel_rfl, ?_⟩) ?_
          rotate_left
          · intro w; first | (go_simp; done) | (go_simp; with_reducible rfl)
          refine wpAny_take (i := 15) (v := ?_) rfl (by kernel_rfl) (by kernel_rfl) (by kernel_rfl) (fun _ _ _ h => h) (Or.inl ⟨by kernel_rfl, ?_⟩) ?_
          rotate_left
          · intro w; first | (go_simp; done) | (go_simp; with_reducible rfl)
          refine wpAny_done (by kernel_rfl) ?_ _
          have hB : Below w.heap.size w w2 := B1.out.trans ((belowNext BX.out.drew hb2).mono B1.out.size)
          go_wp2_with fail
          go_ret2
          exact ⟨⟨_, by rw [HN.out]; rfl, HT⟩, hB⟩
        · go_simp
          refine hK _ _ ?_
          clear hK K
          refine wpAny_ready (rs := [9]) (by kernel_rfl) (by simp) ?_
          refine AllReady.cons rfl (fun K hK => ?_) AllReady.nil
          go_simp
          refine hK _ _ ?_
          clear hK K
          refine wpAny_ready (rs := [11]) (by kernel_rfl) (by simp) ?_
          refine AllReady.cons rfl (fun K hK => ?_) AllReady.nil
          go_simp
          go_wp2_with (go_at_call 93; (with_reducible refine (HC.out _).mono ?_); rintro e w2 ⟨rfl, hb2⟩)
          refine wpAny_take (i := 12) (v := ?_) rfl (by kernel_rfl) (by kernel_rfl) (by kernel_rfl) (fun _ _ _ h => h) (Or.inl ⟨by kernel_rfl, ?_⟩) ?_
          rotate_left
          · intro w; first | (go_simp; done) | (go_simp; with_reducible rfl)
          refine wpAny_take (i := 13) (v := ?_) rfl (by kernel_rfl) (by kernel_rfl) (by kernel_rfl) (fun _ _ _ h => h) (Or.inl ⟨by kernel_rfl, ?_⟩) ?_
          rotate_left
          · intro w; first | (go_simp; done) | (go_simp; with_reducible rfl)
          refine wpAny_take (i := 14) (v := ?_) rfl (by kernel_rfl) (by kernel_rfl) (by kernel_rfl) (fun _ _ _ h => h) (Or.inl ⟨by kernel_rfl, ?_⟩) ?_
          rotate_left
          · intro w; first | (go_simp; done) | (go_simp; with_reducible rfl)
          refine wpAny_take (i := 15) (v := ?_) rfl (by kernel_rfl) (by kernel_rfl) (by kernel_rfl) (fun _ _ _ h => h) (Or.inl ⟨by kernel_rfl, ?_⟩) ?_
          rotate_left
          · intro w; first | (go_simp; done) | (go_simp; with_reducible rfl)
          refine wpAny_done (by kernel_rfl) ?_ _
          have hB : Below w.heap.size w w2 := B1.out.trans ((belowNext BX.out.drew hb2).mono B1.out.size)
          go_wp2_with fail
          go_ret2
          exact ⟨⟨_, by rw [HN.out]; rfl, HT⟩, hB⟩
      · have HN : Hid (n = j) := Lib.hid (by
          rw [← HNn.out, show j = l.length by have := HL.out; omega]
          exact lessNL_end (fun t ht q hq => HLo.out t (by have := HL.out; omega) q hq))
        have HT : Hid (false = true ↔ l[n]? = some (p1, p2, p3, p4)) := Lib.hid (by
          rw [HN.out, List.getElem?_eq_none (by have := HL.out; omega)]; simp)
        have hjn2 : ¬ ((j : Int) < (len : Int)) := by omega
        go_wp2_with fail
        refine wp_region_any (by kernel_rfl) ?_
        try (change wpAny _ _ _ _ _ _ _ (World.drew _))
        refine wpAny_take (i := 0) (v := ?_) rfl (by kernel_rfl) (by kernel_rfl) (by kernel_rfl) (fun _ _ _ h => h) (Or.inl ⟨by kernel_rfl, ?_⟩) ?_
        rotate_left
        · intro w; first | (go_simp; done) | (go_simp; with_reducible rfl)
        refine wpAny_take (i := 1) (v := ?_) rfl (by kernel_rfl) (by kernel_rfl) (by kernel_rfl) (fun _ _ _ h => h) (Or.inl ⟨by kernel_rfl, ?_⟩) ?_
        rotate_left
        · intro w; first | (go_simp; done) | (go_simp; with_reducible rfl)
        refine wpAny_take (i := 2) (v := ?_) rfl (by kernel_rfl) (by kernel_rfl) (by kernel_rfl) (fun _ _ _ h => h) (Or.inl ⟨by kernel_rfl, ?_⟩) ?_
        rotate_left
        · intro w; first | (go_simp; done) | (go_simp; with_reducible rfl)
        refine wpAny_take (i := 3) (v := ?_) rfl (by kernel_rfl) (by kernel_rfl) (by kernel_rfl) (fun _ _ _ h => h) (Or.inl ⟨by kernel_rfl, ?_⟩) ?_
        rotate_left
        · intro w; first | (go_simp; done) | (go_simp; with_reducible rfl)
        refine wpAny_take (i := 4) (v := ?_) rfl (by kernel_rfl) (by kernel_rfl) (by kernel_rfl) (fun _ _ _ h => h) (Or.inl ⟨by kernel_rfl, ?_⟩) ?_
        rotate_left
        · intro w; first | (go_simp; done) | (go_simp; with_reducible rfl)
        refine wpAny_take (i := 5) (v := undef) rfl (by kernel_rfl) (by kernel_rfl) (by kernel_rfl) (fun _ _ _ h => h) (Or.inr ⟨by kernel_rfl, rfl⟩) ?_
        go_simp
        refine wpAny_take (i := 6) (v := undef) rfl (by kernel_rfl) (by kernel_rfl) (by kernel_rfl) (fun _ _ _ h => h) (Or.inr ⟨by kernel_rfl, rfl⟩) ?_
        go_simp
        refine wpAny_take (i := 7) (v := undef) rfl (by kernel_rfl) (by kernel_rfl) (by kernel_rfl) (fun _ _ _ h => h) (Or.inr ⟨by kernel_rfl, rfl⟩) ?_
        go_simp
        refine wpAny_take (i := 8) (v := undef) rfl (by kernel_rfl) (by kernel_rfl) (by kernel_rfl) (fun _ _ _ h => h) (Or.inr ⟨by kernel_rfl, rfl⟩) ?_
        go_simp
        refine wpAny_take (i := 9) (v := undef) rfl (by kernel_rfl) (by kernel_rfl) (by kernel_rfl) (fun _ _ _ h => h) (Or.inr ⟨by kernel_rfl, rfl⟩) ?_
        go_simp
        refine wpAny_take (i := 10) (v := undef) rfl (by kernel_rfl) (by kernel_rfl) (by kernel_rfl) (fun _ _ _ h => h) (Or.inr ⟨by kernel_rfl, rfl⟩) ?_
        go_simp
        refine wpAny_take (i := 11) (v := undef) rfl (by kernel_rfl) (by kernel_rfl) (by kernel_rfl) (fun _ _ _ h => h) (Or.inr ⟨by kernel_rfl, rfl⟩) ?_
        go_simp
        refine wpAny_take (i := 12) (v := undef) rfl (by kernel_rfl) (by kernel_rfl) (by kernel_rfl) (fun _ _ _ h => h) (Or.inr ⟨by kernel_rfl, rfl⟩) ?_
        go_simp
        refine wpAny_take (i := 13) (v := ?_) rfl (by kernel_rfl) (by kernel_rfl) (by kernel_rfl) (fun _ _ _ h => h) (Or.inl ⟨by kernel_rfl, ?_⟩) ?_
        rotate_left
        · intro w; first | (go_simp; done) | (go_simp; with_reducible rfl)
        refine wpAny_take (i := 14) (v := ?_) rfl (by kernel_rfl) (by kernel_rfl) (by kernel_rfl) (fun _ _ _ h => h) (Or.inl ⟨by kernel_rfl, ?_⟩) ?_
        rotate_left
        · intro w; first | (go_simp; done) | (go_simp; with_reducible rfl)
        refine wpAny_take (i := 15) (v := ?_) rfl (by kernel_rfl) (by kernel_rfl) (by kernel_rfl) (fun _ _ _ h => h) (Or.inl ⟨by kernel_rfl, ?_⟩) ?_
        rotate_left
        · intro w; first | (go_simp; done) | (go_simp; with_reducible rfl)
        refine wpAny_done (by kernel_rfl) ?_ _
        have hB : Below w.heap.size w wr.drew := B1.out.trans (BX.out.drew.mono B1.out.size)
        go_wp2_with fail
        go_ret2
        exact ⟨⟨false, by rw [HN.out]; rfl, HT⟩, hB⟩
    | succ g =>
      have hlt : (i : Int) < (j : Int) := by omega
      obtain ⟨h, hh⟩ : ∃ h : Nat, h = (i + j) / 2 := ⟨_, rfl⟩
      have hE : ((i : Int) + (j : Int)) / 2 = (h : Int) := by omega
      have hil : i ≤ h := by omega
      have hhj : h < j := by omega
      have hhl : (h : Int) < (len : Int) := by omega
      have HG := Lib.hid hg
      clear hh hg
      obtain ⟨q1, q2, q3, q4, hx⟩ := lfAt (l := l) (k := h) (by have := HL.out; omega)
      have hne : l ≠ [] := by intro h0; rw [h0] at hx; simp at hx
      obtain ⟨b, off, rfl, hbb, hcells⟩ := row_at HR.out hne
      have hbe : Below w.heap.size w wr := B1.out.trans (BX.out.mono B1.out.size)
      obtain ⟨x0, x1, x2, x3⟩ := (hcells h q1 q2 q3 q4 hx).next hbe hbb
      have hbw : b < wr.heap.size := Nat.lt_of_lt_of_le hbb hbe.size
      have hlf : isLf q1 q2 q3 q4 = true := allLf_at HA.out hx
      have HC := Lib.hid (fun w => implCmpL q1 q2 q3 q4 p1 p2 p3 p4 w (lf_lowB hlf) (lf_upB hlf) (lf_lowB HP.out) (lf_upB HP.out))
      obtain ⟨r1, r2, -⟩ := isLf_yes hlf
      obtain ⟨r3, r4, -⟩ := isLf_yes HP.out
      have HE := Lib.hid (lessX_cmp r1 r2 r3 r4)
      have hrg := cmpL_range q1 q2 q3 q4 p1 p2 p3 p4
      generalize cmpL q1 q2 q3 q4 p1 p2 p3 p4 = R at *
      have HX := Lib.hid hx
      clear hcells hne hx hlf r1 r2 r3 r4
      by_cases hR : R < 0
      · have HLo2 : Hid (∀ t, t < h + 1 → ∀ q, l[t]? = some q → lessX q (p1, p2, p3, p4) = true) := Lib.hid (by
          have e : lessX (q1, q2, q3, q4) (p1, p2, p3, p4) = true := by
            have := HE.out
            rw [decide_eq_true hR] at this
            exact this.symm
          exact fun t ht q hq => head_less HS.out HA.out (lf_pos (x := (p1, p2, p3, p4)) HP.out) HX.out e t (by omega) q hq)
        go_wp2_with fail
        refine wp_region_any (by kernel_rfl) ?_
        try (change wpAny _ _ _ _ _ _ _ (World.drew _))
        refine wpAny_take (i := 0) (v := ?_) rfl (by kernel_rfl) (by kernel_rfl) (by kernel_rfl) (fun _ _ _ h => h) (Or.inl ⟨by kernel_rfl, ?_⟩) ?_
        rotate_left
        · intro w; first | (go_simp; done) | (go_simp; with_reducible rfl)
        refine wpAny_take (i := 1) (v := ?_) rfl (by kernel_rfl) (by kernel_rfl) (by kernel_rfl) (fun _ _ _ h => h) (Or.inl ⟨by kernel_rfl, ?_⟩) ?_
        rotate_left
        · intro w; first | (go_simp; done) | (go_simp; with_reducible rfl)
        refine wpAny_take (i := 2) (v := ?_) rfl (by kernel_rfl) (by kernel_rfl) (by kernel_rfl) (fun _ _ _ h => h) (Or.inl ⟨by kernel_rfl, ?_⟩) ?_
        rotate_left
        · intro w; first | (go_simp; done) | (go_simp; with_reducible rfl)
        refine wpAny_take (i := 3) (v := ?_) rfl (by kernel_rfl) (by kernel_rfl) (by kernel_rfl) (fun _ _ _ h => h) (Or.inl ⟨by kernel_rfl, ?_⟩) ?_
        rotate_left
        · intro w; first | (go_simp; done) | (go_simp; with_reducible rfl)
        refine wpAny_ready (rs := [4, 5]) (by kernel_rfl) (by simp) ?_
        refine AllReady.cons rfl (fun K hK => ?_) (AllReady.cons rfl (fun K hK => ?_) AllReady.nil)
        · go_simp
          refine hK _ _ ?_
          clear hK K
          refine wpAny_ready (rs := [5]) (by kernel_rfl) (by simp) ?_
          refine AllReady.cons rfl (fun K hK => ?_) AllReady.nil
          go_simp
          refine hK _ _ ?_
          clear hK K
          refine wpAny_ready (rs := [6]) (by kernel_rfl) (by simp) ?_
          refine AllReady.cons rfl (fun K hK => ?_) AllReady.nil
          go_simp
          go_wp2_with (go_at_call 93; (with_reducible refine (HC.out _).mono ?_); rintro e w2 ⟨rfl, hb2⟩)
          refine wpAny_take (i := 7) (v := ?_) rfl (by kernel_rfl) (by kernel_rfl) (by kernel_rfl) (fun _ _ _ h => h) (Or.inl ⟨by kernel_rfl, ?_⟩) ?_
          rotate_left
          · intro w; first | (go_simp; done) | (go_simp; with_reducible rfl)
          refine wpAny_done (by kernel_rfl) ?_ _
          have hB : Below w1.heap.size w1 w2 := belowNext BX.out.drew hb2
          clear x0 x1 x2 x3 a0 a1 a2 a3
          go_wp2
          go_roundg (j - (h + 1))
          case measure => have := HG.out; omega
          case rel => exact ⟨h + 1, j, by omega, hjl, by omega, by go_num, rfl, HLo2, HHi, Lib.hid hB⟩
        · go_simp
          refine hK _ _ ?_
          clear hK K
          refine wpAny_ready (rs := [4]) (by kernel_rfl) (by simp) ?_
          refine AllReady.cons rfl (fun K hK => ?_) AllReady.nil
          go_simp
          refine hK _ _ ?_
          clear hK K
          refine wpAny_ready (rs := [6]) (by kernel_rfl) (by simp) ?_
          refine AllReady.cons rfl (fun K hK => ?_) AllReady.nil
          go_simp
          go_wp2_with (go_at_call 93; (with_reducible refine (HC.out _).mono ?_); rintro e w2 ⟨rfl, hb2⟩)
          refine wpAny_take (i := 7) (v := ?_) rfl (by kernel_rfl) (by kernel_rfl) (by kernel_rfl) (fun _ _ _ h => h) (Or.inl ⟨by kernel_rfl, ?_⟩) ?_
          rotate_left
          · intro w; first | (go_simp; done) | (go_simp; with_reducible rfl)
          refine wpAny_done (by kernel_rfl) ?_ _
          have hB : Below w1.heap.size w1 w2 := belowNext BX.out.drew hb2
          clear x0 x1 x2 x3 a0 a1 a2 a3
          go_wp2
          go_roundg (j - (h + 1))
          case measure => have := HG.out; omega
          case rel => exact ⟨h + 1, j, by omega, hjl, by omega, by go_num, rfl, HLo2, HHi, Lib.hid hB⟩
      · have HHi2 : Hid (∀ t, h ≤ t → ∀ q, l[t]? = some q → lessX q (p1, p2, p3, p4) = false) := Lib.hid (by
          have e : lessX (q1, q2, q3, q4) (p1, p2, p3, p4) = false := by
            have := HE.out
            rw [decide_eq_false hR] at this
            exact this.symm
          exact fun t ht q hq => tail_not HS.out HA.out (lf_pos (x := (p1, p2, p3, p4)) HP.out) HX.out e t ht q hq)
        go_wp2_with fail
        refine wp_region_any (by kernel_rfl) ?_
        try (change wpAny _ _ _ _ _ _ _ (World.drew _))
        refine wpAny_take (i := 0) (v := ?_) rfl (by kernel_rfl) (by kernel_rfl) (by kernel_rfl) (fun _ _ _ h => h) (Or.inl ⟨by kernel_rfl, ?_⟩) ?_
        rotate_left
        · intro w; first | (go_simp; done) | (go_simp; with_reducible rfl)
        refine wpAny_take (i := 1) (v := ?_) rfl (by kernel_rfl) (by kernel_rfl) (by kernel_rfl) (fun _ _ _ h => h) (Or.inl ⟨by kernel_rfl, ?_⟩) ?_
        rotate_left
        · intro w; first | (go_simp; done) | (go_simp; with_reducible rfl)
        refine wpAny_take (i := 2) (v := ?_) rfl (by kernel_rfl) (by kernel_rfl) (by kernel_rfl) (fun _ _ _ h => h) (Or.inl ⟨by kernel_rfl, ?_⟩) ?_
        rotate_left
        · intro w; first | (go_simp; done) | (go_simp; with_reducible rfl)
        refine wpAny_take (i := 3) (v := ?_) rfl (by kernel_rfl) (by kernel_rfl) (by kernel_rfl) (fun _ _ _ h => h) (Or.inl ⟨by kernel_rfl, ?_⟩) ?_
        rotate_left
        · intro w; first | (go_simp; done) | (go_simp; with_reducible rfl)
        refine wpAny_ready (rs := [4, 5]) (by kernel_rfl) (by simp) ?_
        refine AllReady.cons rfl (fun K hK => ?_) (AllReady.cons rfl (fun K hK => ?_) AllReady.nil)
        · go_simp
          refine hK _ _ ?_
          clear hK K
          refine wpAny_ready (rs := [5]) (by kernel_rfl) (by simp) ?_
          refine AllReady.cons rfl (fun K hK => ?_) AllReady.nil
          go_simp
          refine hK _ _ ?_
          clear hK K
          refine wpAny_ready (rs := [6]) (by kernel_rfl) (by simp) ?_
          refine AllReady.cons rfl (fun K hK => ?_) AllReady.nil
          go_simp
          go_wp2_with (go_at_call 93; (with_reducible refine (HC.out _).mono ?_); rintro e w2 ⟨rfl, hb2⟩)
          refine wpAny_take (i := 7) (v := ?_) rfl (by kernel_rfl) (by kernel_rfl) (by kernel_rfl) (fun _ _ _ h => h) (Or.inl ⟨by kernel_rfl, ?_⟩) ?_
          rotate_left
          · intro w; first | (go_simp; done) | (go_simp; with_reducible rfl)
          refine wpAny_done (by kernel_rfl) ?_ _
          have hB : Below w1.heap.size w1 w2 := belowNext BX.out.drew hb2
          clear x0 x1 x2 x3 a0 a1 a2 a3
          go_wp2
          go_roundg (h - i)
          case measure => have := HG.out; omega
          case rel => exact ⟨i, h, hil, by omega, by omega, rfl, rfl, HLo, HHi2, Lib.hid hB⟩
        · go_simp
          refine hK _ _ ?_
          clear hK K
          refine wpAny_ready (rs := [4]) (by kernel_rfl) (by simp) ?_
          refine AllReady.cons rfl (fun K hK => ?_) AllReady.nil
          go_simp
          refine hK _ _ ?_
          clear hK K
          refine wpAny_ready (rs := [6]) (by kernel_rfl) (by simp) ?_
          refine AllReady.cons rfl (fun K hK => ?_) AllReady.nil
          go_simp
          go_wp2_with (go_at_call 93; (with_reducible refine (HC.out _).mono ?_); rintro e w2 ⟨rfl, hb2⟩)
          refine wpAny_take (i := 7) (v := ?_) rfl (by kernel_rfl) (by kernel_rfl) (by kernel_rfl) (fun _ _ _ h => h) (Or.inl ⟨by kernel_rfl, ?_⟩) ?_
          rotate_left
          · intro w; first | (go_simp; done) | (go_simp; with_reducible rfl)
          refine wpAny_done (by kernel_rfl) ?_ _
          have hB : Below w1.heap.size w1 w2 := belowNext BX.out.drew hb2
          clear x0 x1 x2 x3 a0 a1 a2 a3
          go_wp2
          go_roundg (h - i)
          case measure => have := HG.out; omega
          case rel => exact ⟨i, h, hil, by omega, by omega, rfl, rfl, HLo, HHi2, Lib.hid hB⟩
end Go.Proofs.Ytkpgfafmaoaefaa

/-
  PairsOfOrbit on both sides; the walk of its law.
-/
import Derived.Test.YtjomgbjiognmmaaH4
namespace Go.Proofs.Ytjomgbjiognmmaa
open Go.RowKit

theorem tot8 {n : Nat} (h : n ≤ 21) : totN (fun _ => 2) n ≤ 1000000 := by rw [totN_const]; omega
theorem o8_len (n d : Int) : (o8 n d).length ≤ 7 := by
  rcases o8_cases n d with ⟨_, _, _, e, _⟩ | ⟨_, _, _, e, _⟩ | ⟨_, _, _, e, _⟩ | ⟨_, b, _, _, e, _⟩
  · rw [e]; simp
  · rw [e]; simp
  · rw [e]; simp
  · rw [e]; exact b
theorem orbList_mem {p : Int × Int} {k : Nat} {q : Int × Int} (h : q ∈ orbList p k) : ∃ i, i < k ∧ q = orb p i := by
  obtain ⟨i, hi⟩ := List.getElem?_of_mem h
  obtain ⟨a, b⟩ := q
  obtain ⟨h1, h2⟩ := orbList_at hi
  exact ⟨i, h1, h2.symm⟩
theorem red_isAng8 {p : Int × Int} (h : Red p) : isAng p.1 p.2 = true := by
  obtain ⟨a, b, c, d, e⟩ := h
  unfold isAng
  exact decide_eq_true ⟨a, b, c, d, e⟩
theorem o8_ang (n d : Int) : allAng (o8 n d) = true := by
  rcases o8_cases n d with ⟨_, _, _, e, _⟩ | ⟨_, _, _, e, _⟩ | ⟨_, _, _, e, _⟩ | ⟨_, _, _, _, e, h1⟩
  · rw [e]; rfl
  · rw [e]; rfl
  · rw [e]; rfl
  · rw [e]
    cases hf : findOrb (n, d) 65 0 with
    | none => unfold oL; simp [h1, hf]; rfl
    | some k =>
      have e1 : oL n d = orbList (n, d) k := by unfold oL; simp [h1, hf]
      rw [e1]
      unfold allAng
      rw [List.all_eq_true]
      intro q hq
      obtain ⟨i, _, rfl⟩ := orbList_mem hq
      exact red_isAng8 (orb_red (ang_red h1) i)
/-- The first angle of an orbit is the angle. -/
theorem o8_first {n d : Int} (h : 0 < (o8 n d).length) : cA (o8 n d) 0 = (n, d) := by
  rcases o8_cases n d with ⟨_, _, _, e, _⟩ | ⟨_, _, _, e, _⟩ | ⟨_, _, _, e, _⟩ | ⟨_, _, h0, _, e, h1⟩
  · rw [e] at h; simp at h
  · rw [e] at h; simp at h
  · rw [e] at h; simp at h
  · rw [e]
    cases hf : findOrb (n, d) 65 0 with
    | none => unfold oL at h0; simp [h1, hf] at h0
    | some k =>
      have e1 : oL n d = orbList (n, d) k := by unfold oL; simp [h1, hf]
      rw [e1] at h0 ⊢
      rw [orbList_len] at h0
      refine cA_of ?_
      unfold orbList
      rw [List.getElem?_map, List.getElem?_range h0]; rfl
theorem o8_no {n d : Int} (h : c8 n d ≠ 0) : o8 n d = [] := by unfold o8; rw [if_neg h]

set_option maxRecDepth 8000 in
set_option maxHeartbeats 1000000 in
theorem specPO (n d : Int) (w : World) : Calls Try.prog 12 #[ang n d] w (ResTabR w (prL (o8 n d).length).length (fun _ => 2) (pF (prL (o8 n d).length)) (c8 n d)) := by
  have HO := Lib.hid (fun w => specOrb8 n d w)
  have hl := o8_len n d
  by_cases h : c8 n d = 0
  · rw [h] at HO ⊢
    clear h
    generalize o8 n d = L at *
    obtain ⟨m, hm⟩ : ∃ m, L.length = m := ⟨_, rfl⟩
    rw [hm] at hl ⊢
    have HP := Lib.hid (fun w => specPairs8 m hl w)
    have HLm := Lib.hid hm
    obtain ⟨N, hN⟩ : ∃ N, (prL m).length = N := ⟨_, rfl⟩
    rw [hN] at HP ⊢
    clear hm hN
    go_enter Try.func12, Try.ntmps12
    go_wp2_with fail
    refine (HO.out _).mono ?_
    rintro e w1 ⟨A, cap, rfl, ha, hb1⟩
    rw [HLm.out]
    go_wp2_with fail
    refine (HP.out _).mono ?_
    rintro e w2 ⟨A2, cap2, rfl, H2, hb2⟩
    clear ha
    go_wp2
    go_ret2
    refine ⟨A2, cap2, rfl, H2.out.rd, ?_⟩
    (repeat' (first | (with_reducible exact Below.refl _ _) | (with_reducible assumption) | (with_reducible refine belowNext ?_ (by with_reducible assumption)) | (with_reducible refine belowAlloc ?_ _) | (with_reducible refine Below.drew ?_) | (with_reducible refine below_drewN ?_ _) | (with_reducible refine Below.setCell ?_ ?_ _) | go_size | (with_reducible refine sizeOf' ?_) | (with_reducible refine sizeAdd ?_) | (dsimp only; first | (with_reducible refine sizeOf' ?_) | (with_reducible refine sizeAdd ?_))))
  · rw [o8_no h] at HO ⊢
    have hC : (c8 n d == 0) = false := beq_eq_false_iff_ne.2 h
    generalize c8 n d = C at *
    clear h
    go_enter Try.func12, Try.ntmps12
    go_wp2_with fail
    refine (HO.out _).mono ?_
    rintro e w1 ⟨A, cap, rfl, ha, hb1⟩
    clear ha
    go_wp2
    go_ret2
    refine ⟨none, 0, rfl, tabRd_nil, ?_⟩
    (repeat' (first | (with_reducible exact Below.refl _ _) | (with_reducible assumption) | (with_reducible refine belowNext ?_ (by with_reducible assumption)) | (with_reducible refine belowAlloc ?_ _) | (with_reducible refine Below.drew ?_) | (with_reducible refine below_drewN ?_ _) | (with_reducible refine Below.setCell ?_ ?_ _) | go_size | (with_reducible refine sizeOf' ?_) | (with_reducible refine sizeAdd ?_) | (dsimp only; first | (with_reducible refine sizeOf' ?_) | (with_reducible refine sizeAdd ?_))))

set_option maxRecDepth 8000 in
set_option maxHeartbeats 1000000 in
theorem implPO (n d : Int) (w : World) : Calls Try.prog 14 #[ang n d] w (ResTab w (prL (o8 n d).length).length (fun _ => 2) (pF (prL (o8 n d).length)) (c8 n d)) := by
  have HO := Lib.hid (fun w => implPT n d w)
  generalize o8 n d = L at *
  generalize c8 n d = C at *
  obtain ⟨N, hN⟩ : ∃ N, (prL L.length).length = N := ⟨_, rfl⟩
  have HNn := Lib.hid hN
  obtain ⟨f, hf⟩ : ∃ f, pF (prL L.length) = f := ⟨_, rfl⟩
  have HF := Lib.hid hf
  rw [hN, hf]
  clear hN hf
  go_enter Try.func14, Try.ntmps14
  go_wp2_with fail
  refine (HO.out _).mono ?_
  rintro e w1 ⟨A, cap, A2, cap2, rfl, ha, ht, hb1⟩
  rw [HNn.out] at ht ⊢
  rw [HF.out] at ht
  have HT := Lib.hid (ht.low (lo' := w.heap.size) (by simp))
  clear ha ht
  have hz1 : w.heap.size < w1.heap.size := by have := hb1.size; simp at this; omega
  go_wp2
  all_goals
    go_ret2
    refine ⟨A2, cap2, rfl, ?_, ?_⟩
    · refine TabOwn.next HT.out ?_
      (repeat' (first | (with_reducible exact Below.refl _ _) | (with_reducible assumption) | (with_reducible refine belowNext ?_ (by with_reducible assumption)) | (with_reducible refine belowAlloc ?_ _) | (with_reducible refine Below.drew ?_) | (with_reducible refine below_drewN ?_ _) | (with_reducible refine Below.setCell ?_ ?_ _) | go_size | (with_reducible refine sizeOf' ?_) | (with_reducible refine sizeAdd ?_) | (dsimp only; first | (with_reducible refine sizeOf' ?_) | (with_reducible refine sizeAdd ?_))))
    · (repeat' (first | (with_reducible exact Below.refl _ _) | (with_reducible assumption) | (with_reducible refine belowNext ?_ (by with_reducible assumption)) | (with_reducible refine belowAlloc ?_ _) | (with_reducible refine Below.drew ?_) | (with_reducible refine below_drewN ?_ _) | (with_reducible refine Below.setCell ?_ ?_ _) | go_size | (with_reducible refine sizeOf' ?_) | (with_reducible refine sizeAdd ?_) | (dsimp only; first | (with_reducible refine sizeOf' ?_) | (with_reducible refine sizeAdd ?_))))

set_option maxHeartbeats 4000000 in
theorem lawPairsOfOrbit (n d : Int) (_ : (Lit.int .i64 n).wf = true) (_ : (Lit.int .i64 d).wf = true) (w : World) :
    Calls Try.prog 3 #[ang n d] w fun e w' => e = .returned (.bool true) ∧ Below w.heap.size w w' := by
  have HA := Lib.hid (fun w => specPO n d w)
  have HB := Lib.hid (fun w => implPO n d w)
  have hN : (prL (o8 n d).length).length ≤ 1000000 := Nat.le_trans (prL_len (o8_len n d)) (by omega)
  have hT : totN (fun _ => 2) ((prL (o8 n d).length).length) ≤ 1000000 := tot8 (prL_len (o8_len n d))
  generalize (prL (o8 n d).length).length = N at *
  generalize pF (prL (o8 n d).length) = F at *
  generalize c8 n d = C at *
  obtain ⟨LN, hLN⟩ : ∃ LN : Nat → Nat, (fun _ => 2) = LN := ⟨_, rfl⟩
  rw [hLN] at HA HB hT
  clear hLN
  obtain ⟨T, hTe⟩ : ∃ T, totN LN N = T := ⟨_, rfl⟩
  have HTe := Lib.hid hTe
  have HT2 := Lib.hid hT
  rw [hTe] at hT
  clear hTe
  go_enter Try.func3, Try.ntmps3
  go_wp2_with fail
  refine (toAngX _ _ _).mono ?_
  rintro e w1 ⟨rfl, rfl⟩
  go_wp2_with fail
  refine (HA.out _).mono ?_
  rintro e w2 ⟨A, cap, rfl, ha, hb2⟩
  have hc2 := bcell hb2
  have c0 : w2.cell? ⟨w.heap.size, 0, none⟩ = some (.int .i64 n) := cellThru hb2 (by simp <;> omega) (by simp [go_sem])
  have c1 : w2.cell? ⟨w.heap.size, 1, none⟩ = some (.int .i64 d) := cellThru hb2 (by simp <;> omega) (by simp [go_sem])
  have z2 : w.heap.size < w2.heap.size := by have := hb2.size; simp at this; omega
  have B2 : Below w.heap.size w w2 := by
    (repeat' (first | (with_reducible exact Below.refl _ _) | (with_reducible assumption) | (with_reducible refine belowNext ?_ (by with_reducible assumption)) | (with_reducible refine belowAlloc ?_ _) | (with_reducible refine Below.drew ?_) | (with_reducible refine below_drewN ?_ _) | (with_reducible refine Below.setCell ?_ ?_ _) | go_size | (with_reducible refine sizeOf' ?_) | (with_reducible refine sizeAdd ?_) | (dsimp only; first | (with_reducible refine sizeOf' ?_) | (with_reducible refine sizeAdd ?_))))
  clear hc2 hb2
  have R := Lib.hid ha
  clear ha
  go_wp2_with fail
  refine (toAngX _ _ _).mono ?_
  rintro e w3 ⟨rfl, rfl⟩
  go_wp2_with fail
  refine (HB.out _).mono ?_
  rintro e w4 ⟨A', cap', rfl, ha', hb4⟩
  have s4 := hb4.size
  simp at s4
  have z4 : w.heap.size < w4.heap.size := by omega
  have B24 : Below w2.heap.size w2 w4 := by
    (repeat' (first | (with_reducible exact Below.refl _ _) | (with_reducible assumption) | (with_reducible refine belowNext ?_ (by with_reducible assumption)) | (with_reducible refine belowAlloc ?_ _) | (with_reducible refine Below.drew ?_) | (with_reducible refine below_drewN ?_ _) | (with_reducible refine Below.setCell ?_ ?_ _) | go_size | (with_reducible refine sizeOf' ?_) | (with_reducible refine sizeAdd ?_) | (dsimp only; first | (with_reducible refine sizeOf' ?_) | (with_reducible refine sizeAdd ?_))))
  have c0 : w4.cell? ⟨w.heap.size, 0, none⟩ = some (.int .i64 n) := cellThru B24 z2 c0
  have c1 : w4.cell? ⟨w.heap.size, 1, none⟩ = some (.int .i64 d) := cellThru B24 z2 c1
  have R4 := Lib.hid (R.out.below B24)
  have Rs4 := Lib.hid (R4.out.more B24.size)
  have Q4 := Lib.hid ha'
  clear ha' hb4
  go_wp2_with fail
  refine (eqTab _ _ _ _ _ LN F _ Q4.out.rd Rs4.out hN HT2.out).mono ?_
  rintro e w5 ⟨rfl, hb5⟩
  have c0 : w5.cell? ⟨w.heap.size, 0, none⟩ = some (.int .i64 n) := cellThru hb5 z4 c0
  have c1 : w5.cell? ⟨w.heap.size, 1, none⟩ = some (.int .i64 d) := cellThru hb5 z4 c1
  have z5 : w.heap.size < w5.heap.size := by have := hb5.size; omega
  have R5 := Lib.hid (R4.out.below (hb5.mono B24.size))
  have Q5 := Lib.hid (Q4.out.next hb5)
  have B25 : Below w2.heap.size w2 w5 := belowNext B24 hb5
  go_wp2_with fail
  refine (markTab _ _ _ LN F _ _ Q5.out hN HT2.out).mono ?_
  rintro e w6 ⟨rfl, H6⟩
  rw [HTe.out]
  simp only [World.size_alloc] at H6
  have b6 := H6.out.2.mono (show w2.heap.size ≤ w2.heap.size + 1 + 1 + 1 by omega)
  have c0 : w6.cell? ⟨w.heap.size, 0, none⟩ = some (.int .i64 n) := (b6.cell (p := ⟨w.heap.size, 0, none⟩) z2).trans c0
  have c1 : w6.cell? ⟨w.heap.size, 1, none⟩ = some (.int .i64 d) := (b6.cell (p := ⟨w.heap.size, 1, none⟩) z2).trans c1
  have z6 : w.heap.size < w6.heap.size := by have := b6.size; omega
  have R6 := Lib.hid (R5.out.below b6)
  have Q6 := Lib.hid H6.out.1
  have B26 : Below w2.heap.size w2 w6 := B25.trans b6
  have nn : (1 + (T : Int) < 0) = False := by simp; omega
  clear b6 H6 hb5
  go_wp2_with fail
  refine (heldTab _ _ _ LN _ Q6.out.rd hN HT2.out).mono ?_
  rintro e w7 ⟨rfl, rfl⟩
  rw [HTe.out]
  go_wp2_with fail
  refine (toAngX _ _ _).mono ?_
  rintro e w8 ⟨rfl, rfl⟩
  go_wp2_with fail
  refine (HB.out _).mono ?_
  rintro e w9 ⟨A'', cap'', rfl, ha'', hb9⟩
  have s9 := hb9.size
  simp at s9
  have B69 : Below w6.heap.size w6 w9 := by
    (repeat' (first | (with_reducible exact Below.refl _ _) | (with_reducible assumption) | (with_reducible refine belowNext ?_ (by with_reducible assumption)) | (with_reducible refine belowAlloc ?_ _) | (with_reducible refine Below.drew ?_) | (with_reducible refine below_drewN ?_ _) | (with_reducible refine Below.setCell ?_ ?_ _) | go_size | (with_reducible refine sizeOf' ?_) | (with_reducible refine sizeAdd ?_) | (dsimp only; first | (with_reducible refine sizeOf' ?_) | (with_reducible refine sizeAdd ?_))))
  have B29 : Below w2.heap.size w2 w9 := belowNext B26 B69
  have R9 := Lib.hid ((R6.out.below (B69.mono B26.size)).more B29.size)
  have Q9 := Lib.hid (Q6.out.next B69)
  have P9 := Lib.hid ha''.rd
  clear ha'' hb9
  go_wp2_with fail
  refine (eqTab _ _ _ _ _ LN F _ P9.out R9.out hN HT2.out).mono ?_
  rintro e w10 ⟨rfl, hb10⟩
  have Q10 := Lib.hid (Q9.out.next hb10)
  go_wp2_with fail
  refine (heldTab _ _ _ LN _ Q10.out.rd hN HT2.out).mono ?_
  rintro e w11 ⟨rfl, rfl⟩
  rw [HTe.out]
  go_wp2
  go_ret
  exact ⟨rfl, belowNext (belowNext B2 B29) hb10⟩

end Go.Proofs.Ytjomgbjiognmmaa

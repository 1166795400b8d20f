/-
  Contracts: whether a pair is a satellite, as the model tells it; the law of IsSatellite.
-/
import Derived.Test.YtillliangojdkaaR21
import Derived.Test.YtillliangojdkaaR17
namespace Go.Proofs.Ytillliangojdkaa
open Go.RowKit

theorem neqlAng (a1 a2 b1 b2 : Int) (W : World) : (binOp .neq 42 (ang a1 a2) (ang b1 b2)).run Try.prog W = .ok (.bool (!eqA a1 a2 b1 b2)) W := by
  by_cases h1 : a1 = b1
  · by_cases h2 : a2 = b2
    · subst h1 h2
      simp [go_sem, eqA]
    · subst h1
      simp [go_sem, eqA, h2]
  · simp [go_sem, eqA, h1]

/-- The orbit of an angle whose period is s. -/
theorem oL_per {a b : Int} (h : isAng a b = true) (h2 : 1 ≤ shortP b) : oL a b = orbList (a, b) (shortP b) ∧ orb (a, b) (shortP b) = (a, b) ∧ ∀ k, 1 ≤ k → k < shortP b → orb (a, b) k ≠ (a, b) := by
  have hr := ang_red h
  have hle := shortP_le b
  have hp : perS (a, b) = shortP b := (per_short hr h2 hle).2 rfl
  have ho : b % 2 = 1 := by
    rcases (show b % 2 = 1 ∨ b % 2 = 0 by omega) with h | h
    · exact h
    · rcases shortF_spec b 8 1 with ⟨h3, _⟩ | ⟨h3, _, h4, _⟩
      · unfold shortP at h2; omega
      · rw [divs_even h h3] at h4; cases h4
  have hf : findOrb (a, b) 65 0 = some (shortP b) := by
    unfold perS at hp
    cases hf : findOrb (a, b) 65 0 with
    | none => rw [hf] at hp; simp at hp; omega
    | some k =>
      rw [hf] at hp
      rw [show pre (a, b) = 0 from twos_odd 14 b (by omega)] at hp
      simp at hp
      rw [hp]
  obtain ⟨_, _, h3, h4⟩ := find_le _ _ _ hf
  refine ⟨by unfold oL; simp [h, hf], ?_, fun k hk1 hk2 => ?_⟩
  · exact (orb_back hr ho _).2 ((hit_odd hr ho _).1 h3).2
  · intro e
    have := h4 k (by omega) hk2
    rw [(hit_odd hr ho k).2 ⟨hk1, (orb_back hr ho k).1 e⟩] at this
    cases this

set_option maxRecDepth 100000 in
set_option maxHeartbeats 1000000 in
theorem specSat (a b x y : Int) (w : World) (h : isLf a b x y = true) (h2 : 2 ≤ shortP b) :
    Calls Try.prog 72 #[leafV a b x y] w fun e w' => e = .returned (.bool (hasA (oL a b) x y)) ∧ Below w.heap.size w w' := by
  obtain ⟨r1, r2, hlt⟩ := isLf_yes h
  have hang : isAng a b = true := red_isAng r1
  obtain ⟨e1, e2, e3⟩ := oL_per hang (by omega)
  have hne : eqA x y a b = false := by
    cases hq : eqA x y a b
    · rfl
    · obtain ⟨rfl, rfl⟩ := (eqA_iff3 _ _ _ _).1 hq
      rw [ltA_irr] at hlt; cases hlt
  have HRed := Lib.hid r1
  have hle := shortP_le b
  have HE2 := Lib.hid e2
  have HE3 := Lib.hid e3
  obtain ⟨R, hR⟩ : ∃ R, hasA (oL a b) x y = R := ⟨_, rfl⟩
  rw [hR]
  rw [e1] at hR
  have HR := Lib.hid hR
  have HNe := Lib.hid hne
  obtain ⟨sp, hsp⟩ : ∃ sp, shortP b = sp := ⟨_, rfl⟩
  rw [hsp] at h2 hle HE2 HE3 HR
  have b1 := r1.1
  have b2 := r1.2.1
  have b3 := r1.2.2.1
  have b4 := r1.2.2.2.1
  dsimp only at b1 b2 b3 b4
  have HD := Lib.hid (fun w => specDbl a b w (by omega) (by omega) (by omega) (by omega))
  have HD1 : Hid ((orb (a, b) 1).1 = redN (2 * a) b ∧ (orb (a, b) 1).2 = redD (2 * a) b) := Lib.hid ⟨rfl, rfl⟩
  clear h r1 r2 hlt hang e1 e2 e3 hne hR hsp
  generalize redN (2 * a) b = n1 at *
  generalize redD (2 * a) b = d1 at *
  go_enter Try.func72, Try.ntmps72
  go_wp2_with fail
  refine (HD.out _).mono ?_
  rintro e w1 ⟨rfl, hb1⟩
  have s1 := hb1.size
  simp at s1
  have k0 : w1.cell? ⟨w.heap.size, 0, none⟩ = some (.int .i64 a) := cellThru hb1 (by simp) (by simp [go_sem])
  have k1 : w1.cell? ⟨w.heap.size, 1, none⟩ = some (.int .i64 b) := cellThru hb1 (by simp) (by simp [go_sem])
  have k2 : w1.cell? ⟨w.heap.size, 2, none⟩ = some (.int .i64 x) := cellThru hb1 (by simp) (by simp [go_sem])
  have k3 : w1.cell? ⟨w.heap.size, 3, none⟩ = some (.int .i64 y) := cellThru hb1 (by simp) (by simp [go_sem])
  have z1 : w.heap.size < w1.heap.size := by omega
  have B1 : Below w.heap.size w w1 := by
    (repeat' (first | (with_reducible exact Below.refl _ _) | (with_reducible assumption) | (with_reducible refine belowNext ?_ (by with_reducible assumption)) | (with_reducible refine belowAlloc ?_ _) | (with_reducible refine Below.drew ?_) | (with_reducible refine below_drewN ?_ _) | (with_reducible refine Below.setCell ?_ ?_ _) | go_size | (with_reducible refine sizeOf' ?_) | (with_reducible refine sizeAdd ?_) | (dsimp only; first | (with_reducible refine sizeOf' ?_) | (with_reducible refine sizeAdd ?_))))
  have up := belowAlloc (Below.refl _ w1) (.cells #[.int .i64 n1, .int .i64 d1] 42)
  have HC : Hid (Cells4 (w1.alloc (.cells #[.int .i64 n1, .int .i64 d1] 42)) w.heap.size 0 a b x y) := Lib.hid ⟨cellThru up z1 k0, cellThru up z1 k1, cellThru up z1 k2, cellThru up z1 k3⟩
  have HB : Hid (Below w.heap.size w (w1.alloc (.cells #[.int .i64 n1, .int .i64 d1] 42))) := Lib.hid (belowAlloc B1 _)
  clear hb1 k0 k1 k2 k3 B1 up s1
  go_wp2_with fail
  go_loopg [3] (sp - 1) (fun g s3 wr => ∃ (k bx : Nat), k + g = sp ∧ 1 ≤ k ∧ s3 = .pointer (some ⟨bx, 0, none⟩) ∧ w.heap.size < bx ∧ bx < wr.heap.size ∧ Hid (∀ j, j < k → eqA x y (orb (a, b) j).1 (orb (a, b) j).2 = false) ∧ wr.cell? ⟨bx, 0, none⟩ = some (.int .i64 (orb (a, b) k).1) ∧ wr.cell? ⟨bx, 1, none⟩ = some (.int .i64 (orb (a, b) k).2) ∧
      wr.frozen? ⟨bx, 0, none⟩ = false ∧ wr.frozen? ⟨bx, 1, none⟩ = false ∧ Hid (Cells4 wr w.heap.size 0 a b x y) ∧ Hid (Below w.heap.size w wr))
  case atStart =>
    refine ⟨1, w1.heap.size, by omega, Nat.le_refl _, rfl, z1, by simp, Lib.hid (fun j hj => ?_), by rw [HD1.out.1]; simp [go_sem], by rw [HD1.out.2]; simp [go_sem], by simp [go_sem], by simp [go_sem], HC, HB⟩
    obtain rfl : j = 0 := by omega
    exact HNe.out
  case round =>
    clear HC HB
    obtain ⟨k, bx, hkg, hk1, rfl, hbx, hbz, HN, x0, x1, f0, f1, HC, HB⟩ := hrel
    obtain ⟨c0, c1, c2, c3⟩ := HC.out
    have c1' : wr.cell? ⟨w.heap.size, 1, none⟩ = some (.int .i64 b) := c1
    have c2' : wr.cell? ⟨w.heap.size, 2, none⟩ = some (.int .i64 x) := c2
    have c3' : wr.cell? ⟨w.heap.size, 3, none⟩ = some (.int .i64 y) := c3
    have hwz : w.heap.size < wr.heap.size := by omega
    clear c1 c2 c3
    obtain ⟨nx, hnx⟩ : ∃ nx, (orb (a, b) k).1 = nx := ⟨_, rfl⟩
    obtain ⟨dx, hdx⟩ : ∃ dx, (orb (a, b) k).2 = dx := ⟨_, rfl⟩
    have hrd := orb_red HRed.out k
    have m1 := hrd.1
    have m2 := hrd.2.1
    have m3 := hrd.2.2.1
    have m4 := hrd.2.2.2.1
    rw [hnx] at x0 m3 m4
    rw [hdx] at x1 m1 m2 m4
    have HX := Lib.hid (And.intro hnx hdx)
    have Q1 := fun W => neqlAng nx dx a b W
    have Q2 := fun W => eqlAng nx dx x y W
    clear hnx hdx hrd
    cases gk with
    | zero =>
      obtain rfl : k = sp := by omega
      have hq : eqA nx dx a b = true := by
        have := HE2.out
        rw [eqA_iff3, ← HX.out.1, ← HX.out.2, this]
        exact ⟨rfl, rfl⟩
      rw [hq] at Q1
      have E : Hid (R = false) := Lib.hid (by
        rw [← HR.out]
        refine hasA_no (fun i n d hi => ?_)
        obtain ⟨hik, e⟩ := orbList_at hi
        have := HN.out i hik
        rw [e] at this
        exact this)
      clear hq Q2
      go_wp2
      go_ret
      exact ⟨by rw [E.out]; rfl, HB.out⟩
    | succ g =>
      have hq : eqA nx dx a b = false := by
        cases hq : eqA nx dx a b
        · rfl
        · obtain ⟨h1, h2⟩ := (eqA_iff3 _ _ _ _).1 hq
          exact absurd (Prod.ext (HX.out.1.trans h1) (HX.out.2.trans h2)) (HE3.out k hk1 (by omega))
      rw [hq] at Q1
      obtain ⟨t, ht⟩ : ∃ t, eqA nx dx x y = t := ⟨_, rfl⟩
      rw [ht] at Q2
      have ht2 : eqA x y nx dx = t := by
        rw [← ht, Bool.eq_iff_iff, eqA_iff3, eqA_iff3]
        exact ⟨fun ⟨h1, h2⟩ => ⟨h1.symm, h2.symm⟩, fun ⟨h1, h2⟩ => ⟨h1.symm, h2.symm⟩⟩
      have HT := Lib.hid ht2
      clear hq ht ht2
      cases t
      · have HD2 := Lib.hid (fun w => specDbl nx dx w (by omega) (by omega) (by omega) (by omega))
        have HD3 : Hid ((orb (a, b) (k + 1)).1 = redN (2 * nx) dx ∧ (orb (a, b) (k + 1)).2 = redD (2 * nx) dx) := Lib.hid (by
          show (dbl (orb (a, b) k)).1 = _ ∧ (dbl (orb (a, b) k)).2 = _
          unfold dbl; rw [HX.out.1, HX.out.2]; exact ⟨rfl, rfl⟩)
        generalize redN (2 * nx) dx = nn at *
        generalize redD (2 * nx) dx = dn at *
        go_wp2_with fail
        refine (HD2.out _).mono ?_
        rintro e w3 ⟨rfl, hb3⟩
        have s3 := hb3.size
        simp at s3
        have y0 : w3.cell? ⟨wr.heap.size, 0, none⟩ = some (.int .i64 nx) := cellThru hb3 (by simp) (by simp [go_sem])
        have y1 : w3.cell? ⟨wr.heap.size, 1, none⟩ = some (.int .i64 dx) := cellThru hb3 (by simp) (by simp [go_sem])
        have z0 : w3.frozen? ⟨wr.heap.size, 0, none⟩ = false := frozThru hb3 (by simp) (by simp [go_sem])
        have z1 : w3.frozen? ⟨wr.heap.size, 1, none⟩ = false := frozThru hb3 (by simp) (by simp [go_sem])
        have up3 : Below wr.heap.size wr w3 := by
          (repeat' (first | (with_reducible exact Below.refl _ _) | (with_reducible assumption) | (with_reducible refine belowNext ?_ (by with_reducible assumption)) | (with_reducible refine belowAlloc ?_ _) | (with_reducible refine Below.drew ?_) | (with_reducible refine below_drewN ?_ _) | (with_reducible refine Below.setCell ?_ ?_ _) | go_size | (with_reducible refine sizeOf' ?_) | (with_reducible refine sizeAdd ?_) | (dsimp only; first | (with_reducible refine sizeOf' ?_) | (with_reducible refine sizeAdd ?_))))
        have HC3 := Lib.hid (HC.out.next up3 hwz)
        have HB3 := Lib.hid (belowNext HB.out up3)
        clear hb3 up3 c0 c1' c2' c3' HC HB
        go_wp2
        go_roundg g
        case measure => omega
        case rel =>
          refine ⟨k + 1, wr.heap.size, by omega, by omega, rfl, hwz, by simp; omega, Lib.hid (fun j hj => ?_), by rw [HD3.out.1]; exact (storeB y0 y1).1, by rw [HD3.out.2]; exact (storeB y0 y1).2, by simpa using z0, by simpa using z1, Lib.hid ?_, Lib.hid ((HB3.out.setCell (by dsimp only; omega) _).setCell (by dsimp only; omega) _)⟩
          · by_cases hjk : j = k
            · subst hjk
              rw [HX.out.1, HX.out.2]; exact HT.out
            · exact HN.out j (by omega)
          · obtain ⟨c0, c1, c2, c3⟩ := HC3.out
            have ne : ∀ i o : Nat, (⟨wr.heap.size, o, none⟩ : Addr) ≠ ⟨w.heap.size, i, none⟩ := fun i o e => by injection e with e1; omega
            exact ⟨(World.cell?_setCell_other _ _ _ _ (ne _ _)).trans ((World.cell?_setCell_other _ _ _ _ (ne _ _)).trans c0), (World.cell?_setCell_other _ _ _ _ (ne _ _)).trans ((World.cell?_setCell_other _ _ _ _ (ne _ _)).trans c1),
              (World.cell?_setCell_other _ _ _ _ (ne _ _)).trans ((World.cell?_setCell_other _ _ _ _ (ne _ _)).trans c2), (World.cell?_setCell_other _ _ _ _ (ne _ _)).trans ((World.cell?_setCell_other _ _ _ _ (ne _ _)).trans c3)⟩
      · have E : Hid (R = true) := Lib.hid (by
          rw [← HR.out]
          refine hasA_yes (k := k) (a := nx) (b := dx) ?_ HT.out
          unfold orbList
          rw [List.getElem?_map, List.getElem?_range (by omega)]
          show some (orb (a, b) k) = _
          rw [← HX.out.1, ← HX.out.2])
        go_wp2
        go_ret
        exact ⟨by rw [E.out]; rfl, HB.out⟩

set_option maxHeartbeats 1000000 in
theorem specIsSat (n d : Int) (w : World) :
    Calls Try.prog 39 #[ang n d] w fun e w' => e = .returned (.tuple #[.bool (saB n d), .int .i64 (poC n d)]) ∧ Below w.heap.size w w' := by
  have HP := Lib.hid (fun w => specPairOf n d w)
  by_cases hc : poC n d = 0
  · have e : saB n d = hasA (oL (poP n d).1 (poP n d).2.1) (poP n d).2.2.1 (poP n d).2.2.2 := if_pos hc
    have hcase : isAng n d = true ∧ 2 ≤ shortP d := by
      rcases po_cases n d with ⟨h1, h2, h3⟩ | ⟨h1, h2, h3, h4⟩ | ⟨h1, h2, h3, h4⟩
      · omega
      · omega
      · exact ⟨h1, h2⟩
    obtain ⟨q, _, _, g3, g4, g5, _⟩ := po_good hcase.1 hcase.2
    rw [← g3] at g4 g5
    have HS := Lib.hid (fun w => specSat (poP n d).1 (poP n d).2.1 (poP n d).2.2.1 (poP n d).2.2.2 w g4 (by have := hcase.2; omega))
    rw [← e] at HS
    rw [hc] at HP ⊢
    generalize saB n d = R at *
    generalize poP n d = V at *
    obtain ⟨a, b, x, y⟩ := V
    try dsimp only at HP HS
    clear hc e hcase g3 g4 g5
    go_enter Try.func39, Try.ntmps39
    go_wp2_with fail
    refine (HP.out _).mono ?_
    rintro e w1 ⟨rfl, hb1⟩
    obtain ⟨hc1, hf1⟩ := bcell hb1
    have hz1_0 : w.heap.size < w1.heap.size := by have := hb1.size; first | omega | (simp at this; omega)
    go_wp2_with fail
    refine (HS.out _).mono ?_
    rintro e w2 ⟨rfl, hb2⟩
    obtain ⟨hc2, hf2⟩ := bcell hb2
    have hz2_0 : w.heap.size < w2.heap.size := by have := hb2.size; first | omega | (simp at this; omega)
    go_wp2
    go_ret2
    refine ⟨rfl, ?_⟩
    (repeat' (first | (with_reducible exact Below.refl _ _) | (with_reducible assumption) | (with_reducible refine belowNext ?_ (by with_reducible assumption)) | (with_reducible refine belowAlloc ?_ _) | (with_reducible refine Below.drew ?_) | (with_reducible refine below_drewN ?_ _) | (with_reducible refine Below.setCell ?_ ?_ _) | go_size | (with_reducible refine sizeOf' ?_) | (with_reducible refine sizeAdd ?_) | (dsimp only; first | (with_reducible refine sizeOf' ?_) | (with_reducible refine sizeAdd ?_))))
  · have e : saB n d = false := if_neg hc
    have hcb : (poC n d == 0) = false := beq_eq_false_iff_ne.2 hc
    rw [e]
    generalize poC n d = c at *
    generalize poP n d = V at *
    obtain ⟨a, b, x, y⟩ := V
    try dsimp only at HP
    clear e
    go_enter Try.func39, Try.ntmps39
    go_wp2_with fail
    refine (HP.out _).mono ?_
    rintro e w1 ⟨rfl, hb1⟩
    obtain ⟨hc1, hf1⟩ := bcell hb1
    have hz1_0 : w.heap.size < w1.heap.size := by have := hb1.size; first | omega | (simp at this; omega)
    go_wp2
    go_ret2
    refine ⟨rfl, ?_⟩
    (repeat' (first | (with_reducible exact Below.refl _ _) | (with_reducible assumption) | (with_reducible refine belowNext ?_ (by with_reducible assumption)) | (with_reducible refine belowAlloc ?_ _) | (with_reducible refine Below.drew ?_) | (with_reducible refine below_drewN ?_ _) | (with_reducible refine Below.setCell ?_ ?_ _) | go_size | (with_reducible refine sizeOf' ?_) | (with_reducible refine sizeAdd ?_) | (dsimp only; first | (with_reducible refine sizeOf' ?_) | (with_reducible refine sizeAdd ?_))))

set_option maxHeartbeats 1000000 in
theorem lawIsSatellite (n d : Int) (_ : (Lit.int .i64 n).wf = true) (_ : (Lit.int .i64 d).wf = true) (w : World) :
    Calls Try.prog 9 #[ang n d] w fun e w' => e = .returned (.bool true) ∧ Below w.heap.size w w' := by
  have HS := Lib.hid (fun w => specIsSat n d w)
  have HI := Lib.hid (fun w => implIsSat n d w)
  generalize saB n d = R at *
  generalize poC n d = c at *
  go_enter Try.func9, Try.ntmps9
  go_wp2_with fail
  refine (toAngX _ _ _).mono ?_
  rintro e w1 ⟨rfl, rfl⟩
  go_wp2_with fail
  refine (HS.out _).mono ?_
  rintro e w2 ⟨rfl, hb2⟩
  have s2 := hb2.size
  simp at s2
  have k0 : w2.cell? ⟨w.heap.size, 0, none⟩ = some (.int .i64 n) := cellThru hb2 (by simp <;> omega) (by simp [go_sem])
  have k1 : w2.cell? ⟨w.heap.size, 1, none⟩ = some (.int .i64 d) := cellThru hb2 (by simp <;> omega) (by simp [go_sem])
  have z2 : w.heap.size < w2.heap.size := by omega
  have B2 : Below w.heap.size w w2 := by
    (repeat' (first | (with_reducible exact Below.refl _ _) | (with_reducible assumption) | (with_reducible refine belowNext ?_ (by with_reducible assumption)) | (with_reducible refine belowAlloc ?_ _) | (with_reducible refine Below.drew ?_) | (with_reducible refine below_drewN ?_ _) | (with_reducible refine Below.setCell ?_ ?_ _) | go_size | (with_reducible refine sizeOf' ?_) | (with_reducible refine sizeAdd ?_) | (dsimp only; first | (with_reducible refine sizeOf' ?_) | (with_reducible refine sizeAdd ?_))))
  clear hb2 s2
  go_wp2_with fail
  refine (toAngX _ _ _).mono ?_
  rintro e w3 ⟨rfl, rfl⟩
  go_wp2_with fail
  refine (HI.out _).mono ?_
  rintro e w4 ⟨rfl, hb4⟩
  go_wp2
  go_ret
  refine ⟨rfl, ?_⟩
  (repeat' (first | (with_reducible exact Below.refl _ _) | (with_reducible assumption) | (with_reducible refine belowNext ?_ (by with_reducible assumption)) | (with_reducible refine belowAlloc ?_ _) | (with_reducible refine Below.drew ?_) | (with_reducible refine below_drewN ?_ _) | (with_reducible refine Below.setCell ?_ ?_ _) | go_size | (with_reducible refine sizeOf' ?_) | (with_reducible refine sizeAdd ?_) | (dsimp only; first | (with_reducible refine sizeOf' ?_) | (with_reducible refine sizeAdd ?_))))
end Go.Proofs.Ytillliangojdkaa

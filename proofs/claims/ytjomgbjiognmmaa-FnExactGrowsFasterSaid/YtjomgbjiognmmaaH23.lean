/-
  GrowsFaster on both sides; its law.
-/
import Derived.Test.YtjomgbjiognmmaaHF
import Derived.Test.YtjomgbjiognmmaaW6
namespace Go.Proofs.Ytjomgbjiognmmaa
open Go.RowKit

def gC8 (n d m c k : Int) : Int := if isAng n d = true ∧ isAng m c = true then (if lC8 n d k 40 = 0 ∧ lC8 m c k 40 = 0 then 0 else 2) else 1
def gB8 (n d m c k : Int) : Bool := if gC8 n d m c k = 0 then decide (pC8 n d k > pC8 m c k) else false

set_option maxRecDepth 8000 in
set_option maxHeartbeats 4000000 in
theorem implGF (n d m c k : Int) (w : World) : Calls Try.prog 36 #[ang n d, ang m c, .int .i64 k] w fun e w' => e = .returned (.tuple #[.bool (gB8 n d m c k), .int .i64 (gC8 n d m c k)]) ∧ Below w.heap.size w w' := by
  have HA : Hid (∀ (w : World) b cap, AngRow w w.heap.size (some ⟨b, 0, none⟩) [(n, d), (m, c)] → Calls Try.prog 62 #[.slice (some ⟨b, 0, none⟩) 2 cap] w fun e w' => e = .returned (.bool (allAng [(n, d), (m, c)])) ∧ Below w.heap.size w w') := Lib.hid (fun w b cap h => areAng (some ⟨b, 0, none⟩) 2 cap [(n, d), (m, c)] w h rfl (by omega))
  have HP1 := Lib.hid (fun w => implPC8 n d k w)
  have HP2 := Lib.hid (fun w => implPC8 m c k w)
  have e2 : gB8 n d m c k = if gC8 n d m c k = 0 then decide (pC8 n d k > pC8 m c k) else false := rfl
  have e1 : gC8 n d m c k = if isAng n d = true ∧ isAng m c = true then (if lC8 n d k 40 = 0 ∧ lC8 m c k 40 = 0 then 0 else 2) else 1 := rfl
  rw [e2, e1]
  clear e1 e2
  have hal : allAng [(n, d), (m, c)] = (isAng n d && isAng m c) := by simp [allAng]
  rw [hal] at HA
  clear hal
  generalize pC8 n d k = V1 at *
  generalize pC8 m c k = V2 at *
  generalize lC8 n d k 40 = C1 at *
  generalize lC8 m c k 40 = C2 at *
  by_cases hok : isAng n d = true ∧ isAng m c = true
  · have hb : (isAng n d && isAng m c) = true := by simp [hok]
    rw [hb] at HA
    simp only [if_pos hok]
    clear hok hb
    obtain ⟨R, hR⟩ : ∃ R, (if (if C1 = 0 ∧ C2 = 0 then (0 : Int) else 2) = 0 then decide (V1 > V2) else false) = R := ⟨_, rfl⟩
    rw [hR]
    have HRr := Lib.hid hR
    clear hR
    by_cases h1 : C1 = 0
    · by_cases h2 : C2 = 0
      · subst h1
        subst h2
        have hRe : R = decide (V1 > V2) := by rw [← HRr.out]; simp
        rw [if_pos ⟨rfl, rfl⟩]
        have HE := Lib.hid hRe
        clear hRe HRr
        go_enter Try.func36, Try.ntmps36
        go_wp2_with fail
        refine (HA.out _ _ _ (row2 _ _ _ _ _ _ _ (by simp))).mono ?_
        rintro e w1 ⟨rfl, hb1⟩
        have hz : w.heap.size + 1 < w1.heap.size := by have := hb1.size; simp at this; omega
        have c0 : w1.cell? ⟨w.heap.size, 0, none⟩ = some (.int .i64 n) := cellThru hb1 (by simp <;> omega) (by simp [go_sem])
        have c1 : w1.cell? ⟨w.heap.size, 1, none⟩ = some (.int .i64 d) := cellThru hb1 (by simp <;> omega) (by simp [go_sem])
        have c2 : w1.cell? ⟨w.heap.size + 1, 0, none⟩ = some (.int .i64 m) := cellThru hb1 (by simp <;> omega) (by simp [go_sem])
        have c3 : w1.cell? ⟨w.heap.size + 1, 1, none⟩ = some (.int .i64 c) := cellThru hb1 (by simp <;> omega) (by simp [go_sem])
        have B1 : Below w.heap.size w w1 := by
          (repeat' (first | (with_reducible exact Below.refl _ _) | (with_reducible assumption) | (with_reducible refine belowNext ?_ (by with_reducible assumption)) | (with_reducible refine belowAlloc ?_ _) | (with_reducible refine Below.drew ?_) | (with_reducible refine below_drewN ?_ _) | (with_reducible refine Below.setCell ?_ ?_ _) | go_size | (with_reducible refine sizeOf' ?_) | (with_reducible refine sizeAdd ?_) | (dsimp only; first | (with_reducible refine sizeOf' ?_) | (with_reducible refine sizeAdd ?_))))
        clear hb1 HA
        go_wp2_with fail
        refine (HP1.out _).mono ?_
        rintro e w2 ⟨rfl, hb2⟩
        have c2 := cellThru hb2 hz c2
        have c3 := cellThru hb2 hz c3
        have B2 := belowNext B1 hb2
        clear hb2 B1 c0 c1
        go_wp2_with fail
        refine (HP2.out _).mono ?_
        rintro e w3 ⟨rfl, hb3⟩
        have B3 := belowNext B2 hb3
        clear hb3 B2 c2 c3 hz
        go_wp2
        go_ret2
        exact ⟨by rw [HE.out]; rfl, B3⟩
      · have hRe : R = false := by rw [← HRr.out, if_neg]; simp [h2]
        have hne : ¬ (C1 = 0 ∧ C2 = 0) := fun h => h2 h.2
        rw [if_neg hne, hRe]
        have h2' : (C2 == 0) = false := beq_eq_false_iff_ne.2 h2
        subst h1
        clear hRe HRr h2 hne
        go_enter Try.func36, Try.ntmps36
        go_wp2_with fail
        refine (HA.out _ _ _ (row2 _ _ _ _ _ _ _ (by simp))).mono ?_
        rintro e w1 ⟨rfl, hb1⟩
        have hz : w.heap.size + 1 < w1.heap.size := by have := hb1.size; simp at this; omega
        have c0 : w1.cell? ⟨w.heap.size, 0, none⟩ = some (.int .i64 n) := cellThru hb1 (by simp <;> omega) (by simp [go_sem])
        have c1 : w1.cell? ⟨w.heap.size, 1, none⟩ = some (.int .i64 d) := cellThru hb1 (by simp <;> omega) (by simp [go_sem])
        have c2 : w1.cell? ⟨w.heap.size + 1, 0, none⟩ = some (.int .i64 m) := cellThru hb1 (by simp <;> omega) (by simp [go_sem])
        have c3 : w1.cell? ⟨w.heap.size + 1, 1, none⟩ = some (.int .i64 c) := cellThru hb1 (by simp <;> omega) (by simp [go_sem])
        have B1 : Below w.heap.size w w1 := by
          (repeat' (first | (with_reducible exact Below.refl _ _) | (with_reducible assumption) | (with_reducible refine belowNext ?_ (by with_reducible assumption)) | (with_reducible refine belowAlloc ?_ _) | (with_reducible refine Below.drew ?_) | (with_reducible refine below_drewN ?_ _) | (with_reducible refine Below.setCell ?_ ?_ _) | go_size | (with_reducible refine sizeOf' ?_) | (with_reducible refine sizeAdd ?_) | (dsimp only; first | (with_reducible refine sizeOf' ?_) | (with_reducible refine sizeAdd ?_))))
        clear hb1 HA
        go_wp2_with fail
        refine (HP1.out _).mono ?_
        rintro e w2 ⟨rfl, hb2⟩
        have c2 := cellThru hb2 hz c2
        have c3 := cellThru hb2 hz c3
        have B2 := belowNext B1 hb2
        clear hb2 B1 c0 c1
        go_wp2_with fail
        refine (HP2.out _).mono ?_
        rintro e w3 ⟨rfl, hb3⟩
        have B3 := belowNext B2 hb3
        clear hb3 B2 c2 c3 hz
        go_wp2
        go_ret2
        exact ⟨rfl, B3⟩
    · have hRe : R = false := by rw [← HRr.out, if_neg]; simp [h1]
      have hne : ¬ (C1 = 0 ∧ C2 = 0) := fun h => h1 h.1
      rw [if_neg hne, hRe]
      have h1' : (C1 == 0) = false := beq_eq_false_iff_ne.2 h1
      clear hRe HRr h1 hne
      go_enter Try.func36, Try.ntmps36
      go_wp2_with fail
      refine (HA.out _ _ _ (row2 _ _ _ _ _ _ _ (by simp))).mono ?_
      rintro e w1 ⟨rfl, hb1⟩
      have hz : w.heap.size + 1 < w1.heap.size := by have := hb1.size; simp at this; omega
      have c0 : w1.cell? ⟨w.heap.size, 0, none⟩ = some (.int .i64 n) := cellThru hb1 (by simp <;> omega) (by simp [go_sem])
      have c1 : w1.cell? ⟨w.heap.size, 1, none⟩ = some (.int .i64 d) := cellThru hb1 (by simp <;> omega) (by simp [go_sem])
      have c2 : w1.cell? ⟨w.heap.size + 1, 0, none⟩ = some (.int .i64 m) := cellThru hb1 (by simp <;> omega) (by simp [go_sem])
      have c3 : w1.cell? ⟨w.heap.size + 1, 1, none⟩ = some (.int .i64 c) := cellThru hb1 (by simp <;> omega) (by simp [go_sem])
      have B1 : Below w.heap.size w w1 := by
        (repeat' (first | (with_reducible exact Below.refl _ _) | (with_reducible assumption) | (with_reducible refine belowNext ?_ (by with_reducible assumption)) | (with_reducible refine belowAlloc ?_ _) | (with_reducible refine Below.drew ?_) | (with_reducible refine below_drewN ?_ _) | (with_reducible refine Below.setCell ?_ ?_ _) | go_size | (with_reducible refine sizeOf' ?_) | (with_reducible refine sizeAdd ?_) | (dsimp only; first | (with_reducible refine sizeOf' ?_) | (with_reducible refine sizeAdd ?_))))
      clear hb1 HA
      go_wp2_with fail
      refine (HP1.out _).mono ?_
      rintro e w2 ⟨rfl, hb2⟩
      have c2 := cellThru hb2 hz c2
      have c3 := cellThru hb2 hz c3
      have B2 := belowNext B1 hb2
      clear hb2 B1 c0 c1
      go_wp2_with fail
      refine (HP2.out _).mono ?_
      rintro e w3 ⟨rfl, hb3⟩
      have B3 := belowNext B2 hb3
      clear hb3 B2 c2 c3 hz
      go_wp2
      go_ret2
      exact ⟨rfl, B3⟩
  · have hb : (isAng n d && isAng m c) = false := by
      cases h1 : isAng n d
      · rfl
      · cases h2 : isAng m c
        · rfl
        · exact absurd ⟨h1, h2⟩ hok
    rw [hb] at HA
    simp only [if_neg hok, show ((1 : Int) = 0) = False by simp, if_false]
    clear hok hb
    go_enter Try.func36, Try.ntmps36
    go_wp2_with fail
    refine (HA.out _ _ _ (row2 _ _ _ _ _ _ _ (by simp))).mono ?_
    rintro e w1 ⟨rfl, hb1⟩
    go_wp2
    go_ret2
    refine ⟨rfl, ?_⟩
    (repeat' (first | (with_reducible exact Below.refl _ _) | (with_reducible assumption) | (with_reducible refine belowNext ?_ (by with_reducible assumption)) | (with_reducible refine belowAlloc ?_ _) | (with_reducible refine Below.drew ?_) | (with_reducible refine below_drewN ?_ _) | (with_reducible refine Below.setCell ?_ ?_ _) | go_size | (with_reducible refine sizeOf' ?_) | (with_reducible refine sizeAdd ?_) | (dsimp only; first | (with_reducible refine sizeOf' ?_) | (with_reducible refine sizeAdd ?_))))

set_option maxRecDepth 8000 in
set_option maxHeartbeats 4000000 in
theorem specGF (n d m c k : Int) (w : World) : Calls Try.prog 35 #[ang n d, ang m c, .int .i64 k] w fun e w' => e = .returned (.tuple #[.bool (gB8 n d m c k), .int .i64 (gC8 n d m c k)]) ∧ Below w.heap.size w w' := by
  have HI1 := Lib.hid (fun w => specIs1 n d w)
  have HI2 := Lib.hid (fun w => specIs1 m c w)
  have HO1 := Lib.hid (fun w => specLen8 n d k 40 w)
  have HO2 := Lib.hid (fun w => specLen8 m c k 40 w)
  have e2 : gB8 n d m c k = if gC8 n d m c k = 0 then decide (pC8 n d k > pC8 m c k) else false := rfl
  have e1 : gC8 n d m c k = if isAng n d = true ∧ isAng m c = true then (if lC8 n d k 40 = 0 ∧ lC8 m c k 40 = 0 then 0 else 2) else 1 := rfl
  rw [e2, e1]
  clear e1 e2
  cases h1 : isAng n d
  · rw [h1] at HI1
    simp only [Bool.false_eq_true, false_and, if_false, show ((1 : Int) = 0) = False by simp]
    clear h1
    go_enter Try.func35, Try.ntmps35
    go_wp2_with fail
    refine (HI1.out _).mono ?_
    rintro e w1 ⟨rfl, hb1⟩
    go_wp2
    go_ret2
    refine ⟨rfl, ?_⟩
    (repeat' (first | (with_reducible exact Below.refl _ _) | (with_reducible assumption) | (with_reducible refine belowNext ?_ (by with_reducible assumption)) | (with_reducible refine belowAlloc ?_ _) | (with_reducible refine Below.drew ?_) | (with_reducible refine below_drewN ?_ _) | (with_reducible refine Below.setCell ?_ ?_ _) | go_size | (with_reducible refine sizeOf' ?_) | (with_reducible refine sizeAdd ?_) | (dsimp only; first | (with_reducible refine sizeOf' ?_) | (with_reducible refine sizeAdd ?_))))
  · rw [h1] at HI1
    clear h1
    cases h2 : isAng m c
    · rw [h2] at HI2
      simp only [Bool.false_eq_true, and_false, if_false, show ((1 : Int) = 0) = False by simp]
      clear h2
      go_enter Try.func35, Try.ntmps35
      go_wp2_with fail
      refine (HI1.out _).mono ?_
      rintro e w1 ⟨rfl, hb1⟩
      have hz : w.heap.size + 1 < w1.heap.size := by have := hb1.size; simp at this; omega
      have c2 : w1.cell? ⟨w.heap.size + 1, 0, none⟩ = some (.int .i64 m) := cellThru hb1 (by simp <;> omega) (by simp [go_sem])
      have c3 : w1.cell? ⟨w.heap.size + 1, 1, none⟩ = some (.int .i64 c) := cellThru hb1 (by simp <;> omega) (by simp [go_sem])
      have B1 : Below w.heap.size w w1 := by
        (repeat' (first | (with_reducible exact Below.refl _ _) | (with_reducible assumption) | (with_reducible refine belowNext ?_ (by with_reducible assumption)) | (with_reducible refine belowAlloc ?_ _) | (with_reducible refine Below.drew ?_) | (with_reducible refine below_drewN ?_ _) | (with_reducible refine Below.setCell ?_ ?_ _) | go_size | (with_reducible refine sizeOf' ?_) | (with_reducible refine sizeAdd ?_) | (dsimp only; first | (with_reducible refine sizeOf' ?_) | (with_reducible refine sizeAdd ?_))))
      clear hb1
      go_wp2_with fail
      refine (HI2.out _).mono ?_
      rintro e w2 ⟨rfl, hb2⟩
      go_wp2
      go_ret2
      exact ⟨rfl, belowNext B1 hb2⟩
    · rw [h2] at HI2
      clear h2
      simp only [and_self, if_true]
      by_cases hC : lC8 n d k 40 = 0 ∧ lC8 m c k 40 = 0
      · simp only [if_pos hC, if_true]
        obtain ⟨_, h0, h40⟩ := lC_zero hC.1
        obtain ⟨K, rfl⟩ : ∃ K : Nat, k = (K : Int) := ⟨k.toNat, by omega⟩
        have hK : K ≤ 1000 := by omega
        have hm1 := o8_len n d
        have hm2 := o8_len m c
        have ha1 := o8_ang n d
        have ha2 := o8_ang m c
        have v1 : pC8 n d K = cntF (prL (o8 n d).length).length (powF (prL (o8 n d).length).length (mxF (o8 n d)) K) := by
          have e1 : pC8 n d K = if lC8 n d K 40 = 0 then cntF (prL (o8 n d).length).length (powF (prL (o8 n d).length).length (mxF (o8 n d)) (K : Int).toNat) else 0 := rfl
          rw [e1, if_pos hC.1]; rfl
        have v2 : pC8 m c K = cntF (prL (o8 m c).length).length (powF (prL (o8 m c).length).length (mxF (o8 m c)) K) := by
          have e1 : pC8 m c K = if lC8 m c K 40 = 0 then cntF (prL (o8 m c).length).length (powF (prL (o8 m c).length).length (mxF (o8 m c)) (K : Int).toNat) else 0 := rfl
          rw [e1, if_pos hC.2]; rfl
        rw [hC.1] at HO1
        rw [hC.2] at HO2
        have HM1 := Lib.hid (fun A cap W (hr : AngRow W W.heap.size A (o8 n d)) => specPaths8 A (o8 n d).length cap K (o8 n d) _ W hr rfl hm1 ha1 rfl hK)
        have HM2 := Lib.hid (fun A cap W (hr : AngRow W W.heap.size A (o8 m c)) => specPaths8 A (o8 m c).length cap K (o8 m c) _ W hr rfl hm2 ha2 rfl hK)
        rw [← v1] at HM1
        rw [← v2] at HM2
        clear v1 v2 hC h0 h40 hm1 hm2 ha1 ha2
        generalize pC8 n d K = V1 at *
        generalize pC8 m c K = V2 at *
        generalize o8 n d = L1 at *
        generalize o8 m c = L2 at *
        obtain ⟨q1, hq1⟩ : ∃ q, L1.length = q := ⟨_, rfl⟩
        obtain ⟨q2, hq2⟩ : ∃ q, L2.length = q := ⟨_, rfl⟩
        have HQ1 := Lib.hid hq1
        have HQ2 := Lib.hid hq2
        rw [hq1] at HM1
        rw [hq2] at HM2
        clear hq1 hq2
        go_enter Try.func35, Try.ntmps35
        go_wp2_with fail
        refine (HI1.out _).mono ?_
        rintro e w1 ⟨rfl, hb1⟩
        have hz : w.heap.size + 1 < w1.heap.size := by have := hb1.size; simp at this; omega
        have hz0 : w.heap.size < w1.heap.size := by omega
        have c0 : w1.cell? ⟨w.heap.size, 0, none⟩ = some (.int .i64 n) := cellThru hb1 (by simp <;> omega) (by simp [go_sem])
        have c1 : w1.cell? ⟨w.heap.size, 1, none⟩ = some (.int .i64 d) := cellThru hb1 (by simp <;> omega) (by simp [go_sem])
        have c2 : w1.cell? ⟨w.heap.size + 1, 0, none⟩ = some (.int .i64 m) := cellThru hb1 (by simp <;> omega) (by simp [go_sem])
        have c3 : w1.cell? ⟨w.heap.size + 1, 1, none⟩ = some (.int .i64 c) := cellThru hb1 (by simp <;> omega) (by simp [go_sem])
        have B1 : Below w.heap.size w w1 := by
          (repeat' (first | (with_reducible exact Below.refl _ _) | (with_reducible assumption) | (with_reducible refine belowNext ?_ (by with_reducible assumption)) | (with_reducible refine belowAlloc ?_ _) | (with_reducible refine Below.drew ?_) | (with_reducible refine below_drewN ?_ _) | (with_reducible refine Below.setCell ?_ ?_ _) | go_size | (with_reducible refine sizeOf' ?_) | (with_reducible refine sizeAdd ?_) | (dsimp only; first | (with_reducible refine sizeOf' ?_) | (with_reducible refine sizeAdd ?_))))
        clear hb1 HI1
        go_wp2_with fail
        refine (HI2.out _).mono ?_
        rintro e w2 ⟨rfl, hb2⟩
        have c0 := cellThru hb2 hz0 c0
        have c1 := cellThru hb2 hz0 c1
        have c2 := cellThru hb2 hz c2
        have c3 := cellThru hb2 hz c3
        have hz0 := Nat.lt_of_lt_of_le hz0 hb2.size
        have hz := Nat.lt_of_lt_of_le hz hb2.size
        have B2 := belowNext B1 hb2
        clear hb2 HI2
        go_wp2_with fail
        refine (HO1.out _).mono ?_
        rintro e w3 ⟨A1, cap1, rfl, hA1, hb3⟩
        rw [HQ1.out]
        have c2 := cellThru hb3 hz c2
        have c3 := cellThru hb3 hz c3
        have B3 := belowNext B2 hb3
        have HR1 := Lib.hid hA1.row
        clear hA1 hb3 B2 c0 c1 hz0
        go_wp2_with fail
        refine (HO2.out _).mono ?_
        rintro e w4 ⟨A2, cap2, rfl, hA2, hb4⟩
        rw [HQ2.out]
        have B4 := belowNext B3 hb4
        have HR2 := Lib.hid hA2.row
        clear hA2 c2 c3 hz HO1 HO2
        go_wp2_with fail
        refine (HM1.out A1 cap1 _ ((HR1.out.below hb4).more hb4.size)).mono ?_
        rintro e w5 ⟨rfl, hb5⟩
        have B5 := belowNext B4 hb5
        go_wp2_with fail
        refine (HM2.out A2 cap2 _ ((HR2.out.below hb5).more hb5.size)).mono ?_
        rintro e w6 ⟨rfl, hb6⟩
        have B6 := belowNext B5 hb6
        clear B1 B3 B4 B5 hb4 hb5 hb6
        go_wp2
        go_ret2
        exact ⟨rfl, B6⟩
      · simp only [if_neg hC, show ((2 : Int) = 0) = False by simp, if_false]
        have HC := Lib.hid hC
        generalize lC8 n d k 40 = C1 at *
        generalize lC8 m c k 40 = C2 at *
        generalize o8 n d = L1 at *
        generalize o8 m c = L2 at *
        obtain ⟨q1, hq1⟩ : ∃ q, L1.length = q := ⟨_, rfl⟩
        obtain ⟨q2, hq2⟩ : ∃ q, L2.length = q := ⟨_, rfl⟩
        have HQ1 := Lib.hid hq1
        have HQ2 := Lib.hid hq2
        clear hC hq1 hq2
        by_cases z1 : C1 = 0
        · have z2 : ¬ C2 = 0 := fun h => HC.out ⟨z1, h⟩
          subst z1
          have z2' : (C2 == 0) = false := beq_eq_false_iff_ne.2 z2
          clear z2 HC
          go_enter Try.func35, Try.ntmps35
          go_wp2_with fail
          refine (HI1.out _).mono ?_
          rintro e w1 ⟨rfl, hb1⟩
          have hz : w.heap.size + 1 < w1.heap.size := by have := hb1.size; simp at this; omega
          have hz0 : w.heap.size < w1.heap.size := by omega
          have c0 : w1.cell? ⟨w.heap.size, 0, none⟩ = some (.int .i64 n) := cellThru hb1 (by simp <;> omega) (by simp [go_sem])
          have c1 : w1.cell? ⟨w.heap.size, 1, none⟩ = some (.int .i64 d) := cellThru hb1 (by simp <;> omega) (by simp [go_sem])
          have c2 : w1.cell? ⟨w.heap.size + 1, 0, none⟩ = some (.int .i64 m) := cellThru hb1 (by simp <;> omega) (by simp [go_sem])
          have c3 : w1.cell? ⟨w.heap.size + 1, 1, none⟩ = some (.int .i64 c) := cellThru hb1 (by simp <;> omega) (by simp [go_sem])
          have B1 : Below w.heap.size w w1 := by
            (repeat' (first | (with_reducible exact Below.refl _ _) | (with_reducible assumption) | (with_reducible refine belowNext ?_ (by with_reducible assumption)) | (with_reducible refine belowAlloc ?_ _) | (with_reducible refine Below.drew ?_) | (with_reducible refine below_drewN ?_ _) | (with_reducible refine Below.setCell ?_ ?_ _) | go_size | (with_reducible refine sizeOf' ?_) | (with_reducible refine sizeAdd ?_) | (dsimp only; first | (with_reducible refine sizeOf' ?_) | (with_reducible refine sizeAdd ?_))))
          clear hb1 HI1
          go_wp2_with fail
          refine (HI2.out _).mono ?_
          rintro e w2 ⟨rfl, hb2⟩
          have c0 := cellThru hb2 hz0 c0
          have c1 := cellThru hb2 hz0 c1
          have c2 := cellThru hb2 hz c2
          have c3 := cellThru hb2 hz c3
          have hz0 := Nat.lt_of_lt_of_le hz0 hb2.size
          have hz := Nat.lt_of_lt_of_le hz hb2.size
          have B2 := belowNext B1 hb2
          clear hb2 HI2
          go_wp2_with fail
          refine (HO1.out _).mono ?_
          rintro e w3 ⟨A1, cap1, rfl, hA1, hb3⟩
          rw [HQ1.out]
          have c2 := cellThru hb3 hz c2
          have c3 := cellThru hb3 hz c3
          have B3 := belowNext B2 hb3
          have HR1 := Lib.hid hA1.row
          clear hA1 hb3 B2 c0 c1 hz0
          go_wp2_with fail
          refine (HO2.out _).mono ?_
          rintro e w4 ⟨A2, cap2, rfl, hA2, hb4⟩
          rw [HQ2.out]
          have B4 := belowNext B3 hb4
          have HR2 := Lib.hid hA2.row
          clear hA2 c2 c3 hz HO1 HO2
          go_wp2
          go_ret2
          exact ⟨rfl, B4⟩
        · have z1' : (C1 == 0) = false := beq_eq_false_iff_ne.2 z1
          clear z1 HC
          go_enter Try.func35, Try.ntmps35
          go_wp2_with fail
          refine (HI1.out _).mono ?_
          rintro e w1 ⟨rfl, hb1⟩
          have hz : w.heap.size + 1 < w1.heap.size := by have := hb1.size; simp at this; omega
          have hz0 : w.heap.size < w1.heap.size := by omega
          have c0 : w1.cell? ⟨w.heap.size, 0, none⟩ = some (.int .i64 n) := cellThru hb1 (by simp <;> omega) (by simp [go_sem])
          have c1 : w1.cell? ⟨w.heap.size, 1, none⟩ = some (.int .i64 d) := cellThru hb1 (by simp <;> omega) (by simp [go_sem])
          have c2 : w1.cell? ⟨w.heap.size + 1, 0, none⟩ = some (.int .i64 m) := cellThru hb1 (by simp <;> omega) (by simp [go_sem])
          have c3 : w1.cell? ⟨w.heap.size + 1, 1, none⟩ = some (.int .i64 c) := cellThru hb1 (by simp <;> omega) (by simp [go_sem])
          have B1 : Below w.heap.size w w1 := by
            (repeat' (first | (with_reducible exact Below.refl _ _) | (with_reducible assumption) | (with_reducible refine belowNext ?_ (by with_reducible assumption)) | (with_reducible refine belowAlloc ?_ _) | (with_reducible refine Below.drew ?_) | (with_reducible refine below_drewN ?_ _) | (with_reducible refine Below.setCell ?_ ?_ _) | go_size | (with_reducible refine sizeOf' ?_) | (with_reducible refine sizeAdd ?_) | (dsimp only; first | (with_reducible refine sizeOf' ?_) | (with_reducible refine sizeAdd ?_))))
          clear hb1 HI1
          go_wp2_with fail
          refine (HI2.out _).mono ?_
          rintro e w2 ⟨rfl, hb2⟩
          have c0 := cellThru hb2 hz0 c0
          have c1 := cellThru hb2 hz0 c1
          have c2 := cellThru hb2 hz c2
          have c3 := cellThru hb2 hz c3
          have hz0 := Nat.lt_of_lt_of_le hz0 hb2.size
          have hz := Nat.lt_of_lt_of_le hz hb2.size
          have B2 := belowNext B1 hb2
          clear hb2 HI2
          go_wp2_with fail
          refine (HO1.out _).mono ?_
          rintro e w3 ⟨A1, cap1, rfl, hA1, hb3⟩
          rw [HQ1.out]
          have c2 := cellThru hb3 hz c2
          have c3 := cellThru hb3 hz c3
          have B3 := belowNext B2 hb3
          have HR1 := Lib.hid hA1.row
          clear hA1 hb3 B2 c0 c1 hz0
          go_wp2_with fail
          refine (HO2.out _).mono ?_
          rintro e w4 ⟨A2, cap2, rfl, hA2, hb4⟩
          rw [HQ2.out]
          have B4 := belowNext B3 hb4
          have HR2 := Lib.hid hA2.row
          clear hA2 c2 c3 hz HO1 HO2
          go_wp2
          go_ret2
          exact ⟨rfl, B4⟩

set_option maxRecDepth 8000 in
set_option maxHeartbeats 4000000 in
theorem lawGrowsFaster (n d : Int) (_ : (Lit.int .i64 n).wf = true) (_ : (Lit.int .i64 d).wf = true) (m c : Int) (_ : (Lit.int .i64 m).wf = true) (_ : (Lit.int .i64 c).wf = true) (k : Int) (_ : (Lit.int .i64 k).wf = true) (w : World) :
    Calls Try.prog 10 #[ang n d, ang m c, .int .i64 k] w fun e w' => e = .returned (.bool true) ∧ Below w.heap.size w w' := by
  have HA := Lib.hid (fun w => specGF n d m c k w)
  have HB := Lib.hid (fun w => implGF n d m c k w)
  have HT1 : Hid (∀ w : World, Calls Try.prog 13 #[ang n d] w fun e w' => e = .returned (ang n d) ∧ Below w.heap.size w w') := Lib.hid (fun w => (toAngX n d w).mono fun e w' h => ⟨h.1, by rw [← h.2]; exact belowAlloc (belowAlloc (belowAlloc (Below.refl _ _) _) _) _⟩)
  have HT2 : Hid (∀ w : World, Calls Try.prog 13 #[ang m c] w fun e w' => e = .returned (ang m c) ∧ Below w.heap.size w w') := Lib.hid (fun w => (toAngX m c w).mono fun e w' h => ⟨h.1, by rw [← h.2]; exact belowAlloc (belowAlloc (belowAlloc (Below.refl _ _) _) _) _⟩)
  generalize gB8 n d m c k = V at *
  generalize gC8 n d m c k = C at *
  go_enter Try.func10, Try.ntmps10
  go_wp2_with fail
  have S0 : (H4 w ⟨w.heap.size, 0, none⟩ ⟨w.heap.size, 1, none⟩ ⟨w.heap.size + 1, 0, none⟩ ⟨w.heap.size + 1, 1, none⟩ (.int .i64 n) (.int .i64 d) (.int .i64 m) (.int .i64 c)) ((w.alloc (.cells #[.int .i64 n, .int .i64 d] 23)).alloc (.cells #[.int .i64 m, .int .i64 c] 23)) := by
    refine ⟨?_, by simp <;> omega, by simp <;> omega, by simp <;> omega, by simp <;> omega, ?_, ?_, ?_, ?_⟩
    · (repeat' (first | (with_reducible exact Below.refl _ _) | (with_reducible assumption) | (with_reducible refine belowNext ?_ (by with_reducible assumption)) | (with_reducible refine belowAlloc ?_ _) | (with_reducible refine Below.drew ?_) | (with_reducible refine below_drewN ?_ _) | (with_reducible refine Below.setCell ?_ ?_ _) | go_size | (with_reducible refine sizeOf' ?_) | (with_reducible refine sizeAdd ?_) | (dsimp only; first | (with_reducible refine sizeOf' ?_) | (with_reducible refine sizeAdd ?_))))
    all_goals simp [go_sem]
  refine wp_region_held_drew (S := (H4 w ⟨w.heap.size, 0, none⟩ ⟨w.heap.size, 1, none⟩ ⟨w.heap.size + 1, 0, none⟩ ⟨w.heap.size + 1, 1, none⟩ (.int .i64 n) (.int .i64 d) (.int .i64 m) (.int .i64 c))) (by kernel_rfl) ?_ (fun hHeld => ?_)
  · exact S0.on (Below.refl _ _).drew
  refine wpAnyH_take (i := 0) (v := ?_) rfl (by kernel_rfl) (by kernel_rfl) (by kernel_rfl) (fun _ _ _ h => h) (Or.inl ⟨by kernel_rfl, ?_⟩) hHeld ?_
  rotate_left
  · intro w hSw; obtain ⟨B, z1, z2, z3, z4, x1, x2, x3, x4⟩ := hSw; first | (go_simp; done) | (go_simp; with_reducible rfl)
  refine wpAnyH_take (i := 2) (v := ?_) rfl (by kernel_rfl) (by kernel_rfl) (by kernel_rfl) (fun _ _ _ h => h) (Or.inl ⟨by kernel_rfl, ?_⟩) hHeld ?_
  rotate_left
  · intro w hSw; obtain ⟨B, z1, z2, z3, z4, x1, x2, x3, x4⟩ := hSw; first | (go_simp; done) | (go_simp; with_reducible rfl)
  refine wpAnyH_take (i := 4) (v := ?_) rfl (by kernel_rfl) (by kernel_rfl) (by kernel_rfl) (fun _ _ _ h => h) (Or.inl ⟨by kernel_rfl, ?_⟩) hHeld ?_
  rotate_left
  · intro w hSw; obtain ⟨B, z1, z2, z3, z4, x1, x2, x3, x4⟩ := hSw; first | (go_simp; done) | (go_simp; with_reducible rfl)
  refine wpAnyH_ready (rs := [1]) (by kernel_rfl) (by simp) ?_
  refine AllReadyH.cons rfl (fun K hK => ?_) AllReadyH.nil
  go_simp
  go_wp2_with (go_at_call 13; (with_reducible refine (HT1.out _).mono ?_); rintro e w11 ⟨rfl, hb11⟩)
  have S11 := hHeld.on hb11
  refine hK.out _ _ ?_ (fun hHeld => ?_)
  · exact S11
  clear hK K
  refine wpAnyH_ready (rs := [3]) (by kernel_rfl) (by simp) ?_
  refine AllReadyH.cons rfl (fun K hK => ?_) AllReadyH.nil
  go_simp
  go_wp2_with (go_at_call 13; (with_reducible refine (HT2.out _).mono ?_); rintro e w12 ⟨rfl, hb12⟩)
  have S12 := hHeld.on hb12
  refine hK.out _ _ ?_ (fun hHeld => ?_)
  · exact S12
  clear hK K
  refine wpAnyH_ready (rs := [5]) (by kernel_rfl) (by simp) ?_
  refine AllReadyH.cons rfl (fun K hK => ?_) AllReadyH.nil
  go_simp
  go_wp2_with (go_at_call 35; (with_reducible refine (HA.out _).mono ?_); rintro e w13 ⟨rfl, hb13⟩)
  have S13 := hHeld.on hb13
  refine hK.out _ _ ?_ (fun hHeld => ?_)
  · exact S13
  clear hK K
  refine wpAnyH_take (i := 6) (v := ?_) rfl (by kernel_rfl) (by kernel_rfl) (by kernel_rfl) (fun _ _ _ h => h) (Or.inl ⟨by kernel_rfl, ?_⟩) hHeld ?_
  rotate_left
  · intro w hSw; obtain ⟨B, z1, z2, z3, z4, x1, x2, x3, x4⟩ := hSw; first | (go_simp; done) | (go_simp; with_reducible rfl)
  refine wpAnyH_take (i := 7) (v := ?_) rfl (by kernel_rfl) (by kernel_rfl) (by kernel_rfl) (fun _ _ _ h => h) (Or.inl ⟨by kernel_rfl, ?_⟩) hHeld ?_
  rotate_left
  · intro w hSw; obtain ⟨B, z1, z2, z3, z4, x1, x2, x3, x4⟩ := hSw; first | (go_simp; done) | (go_simp; with_reducible rfl)
  refine wpAnyH_take (i := 8) (v := ?_) rfl (by kernel_rfl) (by kernel_rfl) (by kernel_rfl) (fun _ _ _ h => h) (Or.inl ⟨by kernel_rfl, ?_⟩) hHeld ?_
  rotate_left
  · intro w hSw; obtain ⟨B, z1, z2, z3, z4, x1, x2, x3, x4⟩ := hSw; first | (go_simp; done) | (go_simp; with_reducible rfl)
  refine wpAnyH_take (i := 9) (v := ?_) rfl (by kernel_rfl) (by kernel_rfl) (by kernel_rfl) (fun _ _ _ h => h) (Or.inl ⟨by kernel_rfl, ?_⟩) hHeld ?_
  rotate_left
  · intro w hSw; obtain ⟨B, z1, z2, z3, z4, x1, x2, x3, x4⟩ := hSw; first | (go_simp; done) | (go_simp; with_reducible rfl)
  refine wpAnyH_take (i := 10) (v := ?_) rfl (by kernel_rfl) (by kernel_rfl) (by kernel_rfl) (fun _ _ _ h => h) (Or.inl ⟨by kernel_rfl, ?_⟩) hHeld ?_
  rotate_left
  · intro w hSw; obtain ⟨B, z1, z2, z3, z4, x1, x2, x3, x4⟩ := hSw; first | (go_simp; done) | (go_simp; with_reducible rfl)
  refine wpAnyH_done (by kernel_rfl) ?_ _
  have T0 := S13
  clear S0 hHeld S11 S12 S13
  go_wp2_with fail
  refine wp_region_held_drew (S := (H4 w ⟨w.heap.size, 0, none⟩ ⟨w.heap.size, 1, none⟩ ⟨w.heap.size + 1, 0, none⟩ ⟨w.heap.size + 1, 1, none⟩ (.int .i64 n) (.int .i64 d) (.int .i64 m) (.int .i64 c))) (by kernel_rfl) ?_ (fun hHeld => ?_)
  · exact T0.on (Below.refl _ _).drew
  refine wpAnyH_take (i := 0) (v := ?_) rfl (by kernel_rfl) (by kernel_rfl) (by kernel_rfl) (fun _ _ _ h => h) (Or.inl ⟨by kernel_rfl, ?_⟩) hHeld ?_
  rotate_left
  · intro w hSw; obtain ⟨B, z1, z2, z3, z4, x1, x2, x3, x4⟩ := hSw; first | (go_simp; done) | (go_simp; with_reducible rfl)
  refine wpAnyH_take (i := 2) (v := ?_) rfl (by kernel_rfl) (by kernel_rfl) (by kernel_rfl) (fun _ _ _ h => h) (Or.inl ⟨by kernel_rfl, ?_⟩) hHeld ?_
  rotate_left
  · intro w hSw; obtain ⟨B, z1, z2, z3, z4, x1, x2, x3, x4⟩ := hSw; first | (go_simp; done) | (go_simp; with_reducible rfl)
  refine wpAnyH_take (i := 4) (v := ?_) rfl (by kernel_rfl) (by kernel_rfl) (by kernel_rfl) (fun _ _ _ h => h) (Or.inl ⟨by kernel_rfl, ?_⟩) hHeld ?_
  rotate_left
  · intro w hSw; obtain ⟨B, z1, z2, z3, z4, x1, x2, x3, x4⟩ := hSw; first | (go_simp; done) | (go_simp; with_reducible rfl)
  refine wpAnyH_ready (rs := [1]) (by kernel_rfl) (by simp) ?_
  refine AllReadyH.cons rfl (fun K hK => ?_) AllReadyH.nil
  go_simp
  go_wp2_with (go_at_call 13; (with_reducible refine (HT1.out _).mono ?_); rintro e w14 ⟨rfl, hb14⟩)
  have S14 := hHeld.on hb14
  refine hK.out _ _ ?_ (fun hHeld => ?_)
  · exact S14
  clear hK K
  refine wpAnyH_ready (rs := [3]) (by kernel_rfl) (by simp) ?_
  refine AllReadyH.cons rfl (fun K hK => ?_) AllReadyH.nil
  go_simp
  go_wp2_with (go_at_call 13; (with_reducible refine (HT2.out _).mono ?_); rintro e w15 ⟨rfl, hb15⟩)
  have S15 := hHeld.on hb15
  refine hK.out _ _ ?_ (fun hHeld => ?_)
  · exact S15
  clear hK K
  refine wpAnyH_ready (rs := [5]) (by kernel_rfl) (by simp) ?_
  refine AllReadyH.cons rfl (fun K hK => ?_) AllReadyH.nil
  go_simp
  go_wp2_with (go_at_call 36; (with_reducible refine (HB.out _).mono ?_); rintro e w16 ⟨rfl, hb16⟩)
  have S16 := hHeld.on hb16
  refine hK.out _ _ ?_ (fun hHeld => ?_)
  · exact S16
  clear hK K
  refine wpAnyH_take (i := 6) (v := ?_) rfl (by kernel_rfl) (by kernel_rfl) (by kernel_rfl) (fun _ _ _ h => h) (Or.inl ⟨by kernel_rfl, ?_⟩) hHeld ?_
  rotate_left
  · intro w hSw; obtain ⟨B, z1, z2, z3, z4, x1, x2, x3, x4⟩ := hSw; first | (go_simp; done) | (go_simp; with_reducible rfl)
  refine wpAnyH_take (i := 7) (v := ?_) rfl (by kernel_rfl) (by kernel_rfl) (by kernel_rfl) (fun _ _ _ h => h) (Or.inl ⟨by kernel_rfl, ?_⟩) hHeld ?_
  rotate_left
  · intro w hSw; obtain ⟨B, z1, z2, z3, z4, x1, x2, x3, x4⟩ := hSw; first | (go_simp; done) | (go_simp; with_reducible rfl)
  refine wpAnyH_take (i := 8) (v := ?_) rfl (by kernel_rfl) (by kernel_rfl) (by kernel_rfl) (fun _ _ _ h => h) (Or.inl ⟨by kernel_rfl, ?_⟩) hHeld ?_
  rotate_left
  · intro w hSw; obtain ⟨B, z1, z2, z3, z4, x1, x2, x3, x4⟩ := hSw; first | (go_simp; done) | (go_simp; with_reducible rfl)
  refine wpAnyH_take (i := 9) (v := ?_) rfl (by kernel_rfl) (by kernel_rfl) (by kernel_rfl) (fun _ _ _ h => h) (Or.inl ⟨by kernel_rfl, ?_⟩) hHeld ?_
  rotate_left
  · intro w hSw; obtain ⟨B, z1, z2, z3, z4, x1, x2, x3, x4⟩ := hSw; first | (go_simp; done) | (go_simp; with_reducible rfl)
  refine wpAnyH_take (i := 10) (v := ?_) rfl (by kernel_rfl) (by kernel_rfl) (by kernel_rfl) (fun _ _ _ h => h) (Or.inl ⟨by kernel_rfl, ?_⟩) hHeld ?_
  rotate_left
  · intro w hSw; obtain ⟨B, z1, z2, z3, z4, x1, x2, x3, x4⟩ := hSw; first | (go_simp; done) | (go_simp; with_reducible rfl)
  refine wpAnyH_done (by kernel_rfl) ?_ _
  have BE := S16.B
  clear T0 hHeld S14 S15 S16
  go_wp2
  go_ret
  exact ⟨rfl, BE⟩

end Go.Proofs.Ytjomgbjiognmmaa

/-
  Contracts: looking an angle up in a list; whether a pair is a satellite, as the program tells it.
  Contracts: whether a pair is a satellite, as the model tells it; the law of IsSatellite.
  Contracts: the width of a wake; the law of WidthOf.
  Contracts: the width of a wake, as the model tells it; the law of WidthOf.
-/
import Derived.Test.YtnciiodgkanpjaaRQ
import Derived.Test.YtnciiodgkanpjaaR20
import Derived.Test.YtnciiodgkanpjaaW24
import Derived.BigQuiet
import Derived.Test.YtnciiodgkanpjaaWF
import Derived.Still
import Derived.StillTactics
import Derived.StillTailTactics
namespace Go.Proofs.Ytnciiodgkanpjaa
open Go.RowKit

/-- The angle is in the list. -/
def hasA (l : List (Int × Int)) (n d : Int) : Bool := l.any fun x => eqA n d x.1 x.2
theorem hasA_yes {l : List (Int × Int)} {k : Nat} {n d a b : Int} (h : l[k]? = some (a, b)) (hq : eqA n d a b = true) : hasA l n d = true := by
  unfold hasA
  rw [List.any_eq_true]
  exact ⟨(a, b), List.mem_of_getElem? h, hq⟩
theorem hasA_no {l : List (Int × Int)} {n d : Int} (h : ∀ (i : Nat) (a b : Int), l[i]? = some (a, b) → eqA n d a b = false) : hasA l n d = false := by
  unfold hasA
  rw [List.any_eq_false]
  intro x hx
  obtain ⟨i, hi, e⟩ := List.getElem_of_mem hx
  have := h i x.1 x.2 (by rw [List.getElem?_eq_getElem hi, e])
  simp [this]

set_option maxHeartbeats 1000000 in
theorem idxAn (A : Option Addr) (len cap : Nat) (l : List (Int × Int)) (n d : Int) (w : World) (hr : AngRow w w.heap.size A l) (hl : l.length = len) (hm : len ≤ 1000000000000) :
    Calls Try.prog 101 #[.slice A len cap, ang n d] w fun e w' => (∃ r : Int, e = .returned (.int .i64 r) ∧ -1 ≤ r ∧ r ≤ 1000000000000 ∧ Hid (hasA l n d = decide (0 ≤ r))) ∧ Below w.heap.size w w' := by
  have HR := Lib.hid hr
  have HL := Lib.hid hl
  clear hr hl
  go_enter Try.func101, Try.ntmps101
  go_wp2
  go_loopw [8] (fun i wr => ∃ k : Nat, k ≤ len ∧ i = .int .i64 k ∧ Hid (∀ j, j < k → ∀ a b, l[j]? = some (a, b) → eqA n d a b = false) ∧ ∃ q, wr = (w.alloc (.cells #[.int .i64 n, .int .i64 d] 25)).drewN q) (fun i _ => len - (intOf i).toNat)
  case atStart => exact ⟨0, by omega, rfl, Lib.hid (fun j h => absurd h (by omega)), 0, rfl⟩
  case round =>
    obtain ⟨k, hk, rfl, HY, q, rfl⟩ := hrel
    by_cases hlt : k < len
    · have hkl : k < l.length := by have := HL.out; omega
      obtain ⟨a, b, hnd⟩ : ∃ a b, l[k] = (a, b) := ⟨_, _, rfl⟩
      have hk2 : l[k]? = some (a, b) := by rw [List.getElem?_eq_getElem hkl, hnd]
      have hne : l ≠ [] := by intro h; rw [h] at hkl; simp at hkl
      obtain ⟨g, off, rfl, hbb, hcells⟩ := HR.out hne
      obtain ⟨x0, x1⟩ := hcells k a b hk2
      have HK := Lib.hid hk2
      have Q1 := fun W => eqlAng n d a b W
      clear hnd hcells hk2 hne
      cases hq : eqA n d a b
      · rw [hq] at Q1
        have HQ := Lib.hid hq
        clear hq
        go_wp2_with fail
        go_quiet (fail)
        go_wp2
        go_roundw
        case rel =>
          refine ⟨k + 1, by omega, by go_num, Lib.hid (fun j hj a' b' h' => ?_), _, rfl⟩
          by_cases hjk : j = k
          · subst hjk
            rw [HK.out] at h'
            injection h' with h'
            simp only [Prod.mk.injEq] at h'
            obtain ⟨rfl, rfl⟩ := h'
            exact HQ.out
          · exact HY.out j (by omega) _ _ h'
        case measure => simp [intOf]; omega
      · rw [hq] at Q1
        have HQ := Lib.hid (hasA_yes HK.out hq)
        clear hq
        go_wp2_with fail
        go_quiet (fail)
        go_wp2
        go_ret
        refine ⟨⟨_, rfl, by omega, by omega, Lib.hid (by rw [HQ.out]; exact (decide_eq_true (by omega)).symm)⟩, ?_⟩
        (repeat' (first | (with_reducible exact Below.refl _ _) | (with_reducible assumption) | (with_reducible refine belowNext ?_ (by with_reducible assumption)) | (with_reducible refine belowAlloc ?_ _) | (with_reducible refine Below.drew ?_) | (with_reducible refine below_drewN ?_ _) | (with_reducible refine Below.setCell ?_ ?_ _) | go_size | (with_reducible refine sizeOf' ?_) | (with_reducible refine sizeAdd ?_) | (dsimp only; first | (with_reducible refine sizeOf' ?_) | (with_reducible refine sizeAdd ?_))))
    · obtain rfl : k = len := by omega
      have HQ : Hid (hasA l n d = false) := Lib.hid (hasA_no (fun i a b hi => HY.out i (by
        rcases Nat.lt_or_ge i l.length with h1 | h1
        · have := HL.out; omega
        · rw [List.getElem?_eq_none h1] at hi; cases hi) _ _ hi))
      go_wp2
      go_ret
      refine ⟨⟨_, rfl, by omega, by omega, Lib.hid (by rw [HQ.out]; rfl)⟩, ?_⟩
      (repeat' (first | (with_reducible exact Below.refl _ _) | (with_reducible assumption) | (with_reducible refine belowNext ?_ (by with_reducible assumption)) | (with_reducible refine belowAlloc ?_ _) | (with_reducible refine Below.drew ?_) | (with_reducible refine below_drewN ?_ _) | (with_reducible refine Below.setCell ?_ ?_ _) | go_size | (with_reducible refine sizeOf' ?_) | (with_reducible refine sizeAdd ?_) | (dsimp only; first | (with_reducible refine sizeOf' ?_) | (with_reducible refine sizeAdd ?_))))

set_option maxHeartbeats 1000000 in
theorem hasAn (A : Option Addr) (len cap : Nat) (l : List (Int × Int)) (n d : Int) (w : World) (hr : AngRow w w.heap.size A l) (hl : l.length = len) (hm : len ≤ 1000000000000) :
    Calls Try.prog 91 #[.slice A len cap, ang n d] w fun e w' => e = .returned (.bool (hasA l n d)) ∧ Below w.heap.size w w' := by
  have HI : Hid (∀ W : World, Below w.heap.size w W → Calls Try.prog 101 #[.slice A len cap, ang n d] W fun e w' => (∃ r : Int, e = .returned (.int .i64 r) ∧ -1 ≤ r ∧ r ≤ 1000000000000 ∧ Hid (hasA l n d = decide (0 ≤ r))) ∧ Below W.heap.size W w') :=
    Lib.hid (fun W hB => idxAn A len cap l n d W ((hr.below hB).more hB.size) hl hm)
  clear hr hl
  generalize hasA l n d = R at *
  go_enter Try.func91, Try.ntmps91
  go_wp2_with fail
  refine (HI.out _ (by exact belowAlloc (Below.refl _ _) _)).mono ?_
  rintro e w1 ⟨⟨r, rfl, h1, h2, HR⟩, hb1⟩
  go_wp2
  go_ret
  refine ⟨retB (by rw [HR.out]), ?_⟩
  (repeat' (first | (with_reducible exact Below.refl _ _) | (with_reducible assumption) | (with_reducible refine belowNext ?_ (by with_reducible assumption)) | (with_reducible refine belowAlloc ?_ _) | (with_reducible refine Below.drew ?_) | (with_reducible refine below_drewN ?_ _) | (with_reducible refine Below.setCell ?_ ?_ _) | go_size | (with_reducible refine sizeOf' ?_) | (with_reducible refine sizeAdd ?_) | (dsimp only; first | (with_reducible refine sizeOf' ?_) | (with_reducible refine sizeAdd ?_))))

set_option maxHeartbeats 1000000 in
theorem implSat (a b x y : Int) (w : World) :
    Calls Try.prog 70 #[leafV a b x y] w fun e w' => e = .returned (.bool (hasA (oL a b) x y)) ∧ Below w.heap.size w w' := by
  have HO := Lib.hid (fun w => implOrbitOf a b w)
  have hlen := oL_len a b
  generalize oL a b = l at *
  generalize oC a b = c at *
  obtain ⟨len, hl⟩ : ∃ len, l.length = len := ⟨_, rfl⟩
  rw [hl] at hlen
  have HL := Lib.hid hl
  clear hl
  go_enter Try.func70, Try.ntmps70
  go_wp2_with fail
  refine (HO.out _).mono ?_
  rintro e w1 ⟨A, cap, rfl, ho, hb1⟩
  rw [HL.out]
  have s1 := hb1.size
  simp at s1
  have k2 : w1.cell? ⟨w.heap.size, 2, none⟩ = some (.int .i64 x) := cellThru hb1 (by simp) (by simp [go_sem])
  have k3 : w1.cell? ⟨w.heap.size, 3, none⟩ = some (.int .i64 y) := cellThru hb1 (by simp) (by simp [go_sem])
  have HB := Lib.hid (hasAn A len cap l x y w1 ho.row HL.out hlen)
  have B1 : Below w.heap.size w w1 := by
    (repeat' (first | (with_reducible exact Below.refl _ _) | (with_reducible assumption) | (with_reducible refine belowNext ?_ (by with_reducible assumption)) | (with_reducible refine belowAlloc ?_ _) | (with_reducible refine Below.drew ?_) | (with_reducible refine below_drewN ?_ _) | (with_reducible refine Below.setCell ?_ ?_ _) | go_size | (with_reducible refine sizeOf' ?_) | (with_reducible refine sizeAdd ?_) | (dsimp only; first | (with_reducible refine sizeOf' ?_) | (with_reducible refine sizeAdd ?_))))
  clear ho hb1
  go_wp2_with fail
  refine HB.out.mono ?_
  rintro e w2 ⟨rfl, hb2⟩
  go_wp2
  go_ret
  exact ⟨rfl, belowNext B1 hb2⟩

/-- What IsSatellite answers. -/
def saB (n d : Int) : Bool := if poC n d = 0 then hasA (oL (poP n d).1 (poP n d).2.1) (poP n d).2.2.1 (poP n d).2.2.2 else false
set_option maxHeartbeats 1000000 in
theorem implIsSat (n d : Int) (w : World) :
    Calls Try.prog 31 #[ang n d] w fun e w' => e = .returned (.tuple #[.bool (saB n d), .int .i64 (poC n d)]) ∧ Below w.heap.size w w' := by
  have HP := Lib.hid (fun w => implPairOf n d w)
  by_cases hc : poC n d = 0
  · have e : saB n d = hasA (oL (poP n d).1 (poP n d).2.1) (poP n d).2.2.1 (poP n d).2.2.2 := if_pos hc
    have HS := Lib.hid (fun w => implSat (poP n d).1 (poP n d).2.1 (poP n d).2.2.1 (poP n d).2.2.2 w)
    rw [← e] at HS
    rw [hc] at HP ⊢
    generalize saB n d = R at *
    generalize poP n d = V at *
    obtain ⟨a, b, x, y⟩ := V
    try dsimp only at HP HS
    clear hc e
    go_enter Try.func31, Try.ntmps31
    go_wp2_with fail
    refine (HP.out _).mono ?_
    rintro e w1 ⟨rfl, hb1⟩
    obtain ⟨hc1, hf1⟩ := bcell hb1
    have hz1_0 : w.heap.size < w1.heap.size := by have := hb1.size; first | omega | (simp at this; omega)
    go_wp2_with fail
    refine (HS.out _).mono ?_
    rintro e w2 ⟨rfl, hb2⟩
    obtain ⟨hc2, hf2⟩ := bcell hb2
    have hz2_0 : w.heap.size < w2.heap.size := by have := hb2.size; first | omega | (simp at this; omega)
    go_wp2
    go_ret2
    refine ⟨rfl, ?_⟩
    (repeat' (first | (with_reducible exact Below.refl _ _) | (with_reducible assumption) | (with_reducible refine belowNext ?_ (by with_reducible assumption)) | (with_reducible refine belowAlloc ?_ _) | (with_reducible refine Below.drew ?_) | (with_reducible refine below_drewN ?_ _) | (with_reducible refine Below.setCell ?_ ?_ _) | go_size | (with_reducible refine sizeOf' ?_) | (with_reducible refine sizeAdd ?_) | (dsimp only; first | (with_reducible refine sizeOf' ?_) | (with_reducible refine sizeAdd ?_))))
  · have e : saB n d = false := if_neg hc
    have hcb : (poC n d == 0) = false := beq_eq_false_iff_ne.2 hc
    rw [e]
    generalize poC n d = c at *
    generalize poP n d = V at *
    obtain ⟨a, b, x, y⟩ := V
    try dsimp only at HP
    clear e
    go_enter Try.func31, Try.ntmps31
    go_wp2_with fail
    refine (HP.out _).mono ?_
    rintro e w1 ⟨rfl, hb1⟩
    obtain ⟨hc1, hf1⟩ := bcell hb1
    have hz1_0 : w.heap.size < w1.heap.size := by have := hb1.size; first | omega | (simp at this; omega)
    go_wp2
    go_ret2
    refine ⟨rfl, ?_⟩
    (repeat' (first | (with_reducible exact Below.refl _ _) | (with_reducible assumption) | (with_reducible refine belowNext ?_ (by with_reducible assumption)) | (with_reducible refine belowAlloc ?_ _) | (with_reducible refine Below.drew ?_) | (with_reducible refine below_drewN ?_ _) | (with_reducible refine Below.setCell ?_ ?_ _) | go_size | (with_reducible refine sizeOf' ?_) | (with_reducible refine sizeAdd ?_) | (dsimp only; first | (with_reducible refine sizeOf' ?_) | (with_reducible refine sizeAdd ?_))))

theorem neqlAng (a1 a2 b1 b2 : Int) (W : World) : (binOp .neq 25 (ang a1 a2) (ang b1 b2)).run Try.prog W = .ok (.bool (!eqA a1 a2 b1 b2)) W := by
  by_cases h1 : a1 = b1
  · by_cases h2 : a2 = b2
    · subst h1 h2
      simp [go_sem, eqA]
    · subst h1
      simp [go_sem, eqA, h2]
  · simp [go_sem, eqA, h1]

/-- The orbit of an angle whose period is s. -/
theorem oL_per {a b : Int} (h : isAng a b = true) (h2 : 1 ≤ shortP b) : oL a b = orbList (a, b) (shortP b) ∧ orb (a, b) (shortP b) = (a, b) ∧ ∀ k, 1 ≤ k → k < shortP b → orb (a, b) k ≠ (a, b) := by
  have hr := ang_red h
  have hle := shortP_le b
  have hp : perS (a, b) = shortP b := (per_short hr h2 hle).2 rfl
  have ho : b % 2 = 1 := by
    rcases (show b % 2 = 1 ∨ b % 2 = 0 by omega) with h | h
    · exact h
    · rcases shortF_spec b 8 1 with ⟨h3, _⟩ | ⟨h3, _, h4, _⟩
      · unfold shortP at h2; omega
      · rw [divs_even h h3] at h4; cases h4
  have hf : findOrb (a, b) 65 0 = some (shortP b) := by
    unfold perS at hp
    cases hf : findOrb (a, b) 65 0 with
    | none => rw [hf] at hp; simp at hp; omega
    | some k =>
      rw [hf] at hp
      rw [show pre (a, b) = 0 from twos_odd 14 b (by omega)] at hp
      simp at hp
      rw [hp]
  obtain ⟨_, _, h3, h4⟩ := find_le _ _ _ hf
  refine ⟨by unfold oL; simp [h, hf], ?_, fun k hk1 hk2 => ?_⟩
  · exact (orb_back hr ho _).2 ((hit_odd hr ho _).1 h3).2
  · intro e
    have := h4 k (by omega) hk2
    rw [(hit_odd hr ho k).2 ⟨hk1, (orb_back hr ho k).1 e⟩] at this
    cases this

set_option maxRecDepth 100000 in
set_option maxHeartbeats 1000000 in
theorem specSat (a b x y : Int) (w : World) (h : isLf a b x y = true) (h2 : 2 ≤ shortP b) :
    Calls Try.prog 71 #[leafV a b x y] w fun e w' => e = .returned (.bool (hasA (oL a b) x y)) ∧ Below w.heap.size w w' := by
  obtain ⟨r1, r2, hlt⟩ := isLf_yes h
  have hang : isAng a b = true := red_isAng r1
  obtain ⟨e1, e2, e3⟩ := oL_per hang (by omega)
  have hne : eqA x y a b = false := by
    cases hq : eqA x y a b
    · rfl
    · obtain ⟨rfl, rfl⟩ := (eqA_iff3 _ _ _ _).1 hq
      rw [ltA_irr] at hlt; cases hlt
  have HRed := Lib.hid r1
  have hle := shortP_le b
  have HE2 := Lib.hid e2
  have HE3 := Lib.hid e3
  obtain ⟨R, hR⟩ : ∃ R, hasA (oL a b) x y = R := ⟨_, rfl⟩
  rw [hR]
  rw [e1] at hR
  have HR := Lib.hid hR
  have HNe := Lib.hid hne
  obtain ⟨sp, hsp⟩ : ∃ sp, shortP b = sp := ⟨_, rfl⟩
  rw [hsp] at h2 hle HE2 HE3 HR
  have b1 := r1.1
  have b2 := r1.2.1
  have b3 := r1.2.2.1
  have b4 := r1.2.2.2.1
  dsimp only at b1 b2 b3 b4
  have HD := Lib.hid (fun w => specDbl a b w (by omega) (by omega) (by omega) (by omega))
  have HD1 : Hid ((orb (a, b) 1).1 = redN (2 * a) b ∧ (orb (a, b) 1).2 = redD (2 * a) b) := Lib.hid ⟨rfl, rfl⟩
  clear h r1 r2 hlt hang e1 e2 e3 hne hR hsp
  generalize redN (2 * a) b = n1 at *
  generalize redD (2 * a) b = d1 at *
  go_enter Try.func71, Try.ntmps71
  go_wp2_with fail
  refine (HD.out _).mono ?_
  rintro e w1 ⟨rfl, hb1⟩
  have s1 := hb1.size
  simp at s1
  have k0 : w1.cell? ⟨w.heap.size, 0, none⟩ = some (.int .i64 a) := cellThru hb1 (by simp) (by simp [go_sem])
  have k1 : w1.cell? ⟨w.heap.size, 1, none⟩ = some (.int .i64 b) := cellThru hb1 (by simp) (by simp [go_sem])
  have k2 : w1.cell? ⟨w.heap.size, 2, none⟩ = some (.int .i64 x) := cellThru hb1 (by simp) (by simp [go_sem])
  have k3 : w1.cell? ⟨w.heap.size, 3, none⟩ = some (.int .i64 y) := cellThru hb1 (by simp) (by simp [go_sem])
  have z1 : w.heap.size < w1.heap.size := by omega
  have B1 : Below w.heap.size w w1 := by
    (repeat' (first | (with_reducible exact Below.refl _ _) | (with_reducible assumption) | (with_reducible refine belowNext ?_ (by with_reducible assumption)) | (with_reducible refine belowAlloc ?_ _) | (with_reducible refine Below.drew ?_) | (with_reducible refine below_drewN ?_ _) | (with_reducible refine Below.setCell ?_ ?_ _) | go_size | (with_reducible refine sizeOf' ?_) | (with_reducible refine sizeAdd ?_) | (dsimp only; first | (with_reducible refine sizeOf' ?_) | (with_reducible refine sizeAdd ?_))))
  have up := belowAlloc (Below.refl _ w1) (.cells #[.int .i64 n1, .int .i64 d1] 25)
  have HC : Hid (Cells4 (w1.alloc (.cells #[.int .i64 n1, .int .i64 d1] 25)) w.heap.size 0 a b x y) := Lib.hid ⟨cellThru up z1 k0, cellThru up z1 k1, cellThru up z1 k2, cellThru up z1 k3⟩
  have HB : Hid (Below w.heap.size w (w1.alloc (.cells #[.int .i64 n1, .int .i64 d1] 25))) := Lib.hid (belowAlloc B1 _)
  clear hb1 k0 k1 k2 k3 B1 up s1
  go_wp2_with fail
  go_loopg [3] (sp - 1) (fun g s3 wr => ∃ (k bx : Nat), k + g = sp ∧ 1 ≤ k ∧ s3 = .pointer (some ⟨bx, 0, none⟩) ∧ w.heap.size < bx ∧ bx < wr.heap.size ∧ Hid (∀ j, j < k → eqA x y (orb (a, b) j).1 (orb (a, b) j).2 = false) ∧ wr.cell? ⟨bx, 0, none⟩ = some (.int .i64 (orb (a, b) k).1) ∧ wr.cell? ⟨bx, 1, none⟩ = some (.int .i64 (orb (a, b) k).2) ∧
      wr.frozen? ⟨bx, 0, none⟩ = false ∧ wr.frozen? ⟨bx, 1, none⟩ = false ∧ Hid (Cells4 wr w.heap.size 0 a b x y) ∧ Hid (Below w.heap.size w wr))
  case atStart =>
    refine ⟨1, w1.heap.size, by omega, Nat.le_refl _, rfl, z1, by simp, Lib.hid (fun j hj => ?_), by rw [HD1.out.1]; simp [go_sem], by rw [HD1.out.2]; simp [go_sem], by simp [go_sem], by simp [go_sem], HC, HB⟩
    obtain rfl : j = 0 := by omega
    exact HNe.out
  case round =>
    clear HC HB
    obtain ⟨k, bx, hkg, hk1, rfl, hbx, hbz, HN, x0, x1, f0, f1, HC, HB⟩ := hrel
    obtain ⟨c0, c1, c2, c3⟩ := HC.out
    have c1' : wr.cell? ⟨w.heap.size, 1, none⟩ = some (.int .i64 b) := c1
    have c2' : wr.cell? ⟨w.heap.size, 2, none⟩ = some (.int .i64 x) := c2
    have c3' : wr.cell? ⟨w.heap.size, 3, none⟩ = some (.int .i64 y) := c3
    have hwz : w.heap.size < wr.heap.size := by omega
    clear c1 c2 c3
    obtain ⟨nx, hnx⟩ : ∃ nx, (orb (a, b) k).1 = nx := ⟨_, rfl⟩
    obtain ⟨dx, hdx⟩ : ∃ dx, (orb (a, b) k).2 = dx := ⟨_, rfl⟩
    have hrd := orb_red HRed.out k
    have m1 := hrd.1
    have m2 := hrd.2.1
    have m3 := hrd.2.2.1
    have m4 := hrd.2.2.2.1
    rw [hnx] at x0 m3 m4
    rw [hdx] at x1 m1 m2 m4
    have HX := Lib.hid (And.intro hnx hdx)
    have Q1 := fun W => neqlAng nx dx a b W
    have Q2 := fun W => eqlAng nx dx x y W
    clear hnx hdx hrd
    cases gk with
    | zero =>
      obtain rfl : k = sp := by omega
      have hq : eqA nx dx a b = true := by
        have := HE2.out
        rw [eqA_iff3, ← HX.out.1, ← HX.out.2, this]
        exact ⟨rfl, rfl⟩
      rw [hq] at Q1
      have E : Hid (R = false) := Lib.hid (by
        rw [← HR.out]
        refine hasA_no (fun i n d hi => ?_)
        obtain ⟨hik, e⟩ := orbList_at hi
        have := HN.out i hik
        rw [e] at this
        exact this)
      clear hq Q2
      go_wp2
      go_ret
      exact ⟨by rw [E.out]; rfl, HB.out⟩
    | succ g =>
      have hq : eqA nx dx a b = false := by
        cases hq : eqA nx dx a b
        · rfl
        · obtain ⟨h1, h2⟩ := (eqA_iff3 _ _ _ _).1 hq
          exact absurd (Prod.ext (HX.out.1.trans h1) (HX.out.2.trans h2)) (HE3.out k hk1 (by omega))
      rw [hq] at Q1
      obtain ⟨t, ht⟩ : ∃ t, eqA nx dx x y = t := ⟨_, rfl⟩
      rw [ht] at Q2
      have ht2 : eqA x y nx dx = t := by
        rw [← ht, Bool.eq_iff_iff, eqA_iff3, eqA_iff3]
        exact ⟨fun ⟨h1, h2⟩ => ⟨h1.symm, h2.symm⟩, fun ⟨h1, h2⟩ => ⟨h1.symm, h2.symm⟩⟩
      have HT := Lib.hid ht2
      clear hq ht ht2
      cases t
      · have HD2 := Lib.hid (fun w => specDbl nx dx w (by omega) (by omega) (by omega) (by omega))
        have HD3 : Hid ((orb (a, b) (k + 1)).1 = redN (2 * nx) dx ∧ (orb (a, b) (k + 1)).2 = redD (2 * nx) dx) := Lib.hid (by
          show (dbl (orb (a, b) k)).1 = _ ∧ (dbl (orb (a, b) k)).2 = _
          unfold dbl; rw [HX.out.1, HX.out.2]; exact ⟨rfl, rfl⟩)
        generalize redN (2 * nx) dx = nn at *
        generalize redD (2 * nx) dx = dn at *
        go_wp2_with fail
        refine (HD2.out _).mono ?_
        rintro e w3 ⟨rfl, hb3⟩
        have s3 := hb3.size
        simp at s3
        have y0 : w3.cell? ⟨wr.heap.size, 0, none⟩ = some (.int .i64 nx) := cellThru hb3 (by simp) (by simp [go_sem])
        have y1 : w3.cell? ⟨wr.heap.size, 1, none⟩ = some (.int .i64 dx) := cellThru hb3 (by simp) (by simp [go_sem])
        have z0 : w3.frozen? ⟨wr.heap.size, 0, none⟩ = false := frozThru hb3 (by simp) (by simp [go_sem])
        have z1 : w3.frozen? ⟨wr.heap.size, 1, none⟩ = false := frozThru hb3 (by simp) (by simp [go_sem])
        have up3 : Below wr.heap.size wr w3 := by
          (repeat' (first | (with_reducible exact Below.refl _ _) | (with_reducible assumption) | (with_reducible refine belowNext ?_ (by with_reducible assumption)) | (with_reducible refine belowAlloc ?_ _) | (with_reducible refine Below.drew ?_) | (with_reducible refine below_drewN ?_ _) | (with_reducible refine Below.setCell ?_ ?_ _) | go_size | (with_reducible refine sizeOf' ?_) | (with_reducible refine sizeAdd ?_) | (dsimp only; first | (with_reducible refine sizeOf' ?_) | (with_reducible refine sizeAdd ?_))))
        have HC3 := Lib.hid (HC.out.next up3 hwz)
        have HB3 := Lib.hid (belowNext HB.out up3)
        clear hb3 up3 c0 c1' c2' c3' HC HB
        go_wp2
        go_roundg g
        case measure => omega
        case rel =>
          refine ⟨k + 1, wr.heap.size, by omega, by omega, rfl, hwz, by simp; omega, Lib.hid (fun j hj => ?_), by rw [HD3.out.1]; exact (storeB y0 y1).1, by rw [HD3.out.2]; exact (storeB y0 y1).2, by simpa using z0, by simpa using z1, Lib.hid ?_, Lib.hid ((HB3.out.setCell (by dsimp only; omega) _).setCell (by dsimp only; omega) _)⟩
          · by_cases hjk : j = k
            · subst hjk
              rw [HX.out.1, HX.out.2]; exact HT.out
            · exact HN.out j (by omega)
          · obtain ⟨c0, c1, c2, c3⟩ := HC3.out
            have ne : ∀ i o : Nat, (⟨wr.heap.size, o, none⟩ : Addr) ≠ ⟨w.heap.size, i, none⟩ := fun i o e => by injection e with e1; omega
            exact ⟨(World.cell?_setCell_other _ _ _ _ (ne _ _)).trans ((World.cell?_setCell_other _ _ _ _ (ne _ _)).trans c0), (World.cell?_setCell_other _ _ _ _ (ne _ _)).trans ((World.cell?_setCell_other _ _ _ _ (ne _ _)).trans c1),
              (World.cell?_setCell_other _ _ _ _ (ne _ _)).trans ((World.cell?_setCell_other _ _ _ _ (ne _ _)).trans c2), (World.cell?_setCell_other _ _ _ _ (ne _ _)).trans ((World.cell?_setCell_other _ _ _ _ (ne _ _)).trans c3)⟩
      · have E : Hid (R = true) := Lib.hid (by
          rw [← HR.out]
          refine hasA_yes (k := k) (a := nx) (b := dx) ?_ HT.out
          unfold orbList
          rw [List.getElem?_map, List.getElem?_range (by omega)]
          show some (orb (a, b) k) = _
          rw [← HX.out.1, ← HX.out.2])
        go_wp2
        go_ret
        exact ⟨by rw [E.out]; rfl, HB.out⟩

set_option maxHeartbeats 1000000 in
theorem specIsSat (n d : Int) (w : World) :
    Calls Try.prog 32 #[ang n d] w fun e w' => e = .returned (.tuple #[.bool (saB n d), .int .i64 (poC n d)]) ∧ Below w.heap.size w w' := by
  have HP := Lib.hid (fun w => specPairOf n d w)
  by_cases hc : poC n d = 0
  · have e : saB n d = hasA (oL (poP n d).1 (poP n d).2.1) (poP n d).2.2.1 (poP n d).2.2.2 := if_pos hc
    have hcase : isAng n d = true ∧ 2 ≤ shortP d := by
      rcases po_cases n d with ⟨h1, h2, h3⟩ | ⟨h1, h2, h3, h4⟩ | ⟨h1, h2, h3, h4⟩
      · omega
      · omega
      · exact ⟨h1, h2⟩
    obtain ⟨q, _, _, g3, g4, g5, _⟩ := po_good hcase.1 hcase.2
    rw [← g3] at g4 g5
    have HS := Lib.hid (fun w => specSat (poP n d).1 (poP n d).2.1 (poP n d).2.2.1 (poP n d).2.2.2 w g4 (by have := hcase.2; omega))
    rw [← e] at HS
    rw [hc] at HP ⊢
    generalize saB n d = R at *
    generalize poP n d = V at *
    obtain ⟨a, b, x, y⟩ := V
    try dsimp only at HP HS
    clear hc e hcase g3 g4 g5
    go_enter Try.func32, Try.ntmps32
    go_wp2_with fail
    refine (HP.out _).mono ?_
    rintro e w1 ⟨rfl, hb1⟩
    obtain ⟨hc1, hf1⟩ := bcell hb1
    have hz1_0 : w.heap.size < w1.heap.size := by have := hb1.size; first | omega | (simp at this; omega)
    go_wp2_with fail
    refine (HS.out _).mono ?_
    rintro e w2 ⟨rfl, hb2⟩
    obtain ⟨hc2, hf2⟩ := bcell hb2
    have hz2_0 : w.heap.size < w2.heap.size := by have := hb2.size; first | omega | (simp at this; omega)
    go_wp2
    go_ret2
    refine ⟨rfl, ?_⟩
    (repeat' (first | (with_reducible exact Below.refl _ _) | (with_reducible assumption) | (with_reducible refine belowNext ?_ (by with_reducible assumption)) | (with_reducible refine belowAlloc ?_ _) | (with_reducible refine Below.drew ?_) | (with_reducible refine below_drewN ?_ _) | (with_reducible refine Below.setCell ?_ ?_ _) | go_size | (with_reducible refine sizeOf' ?_) | (with_reducible refine sizeAdd ?_) | (dsimp only; first | (with_reducible refine sizeOf' ?_) | (with_reducible refine sizeAdd ?_))))
  · have e : saB n d = false := if_neg hc
    have hcb : (poC n d == 0) = false := beq_eq_false_iff_ne.2 hc
    rw [e]
    generalize poC n d = c at *
    generalize poP n d = V at *
    obtain ⟨a, b, x, y⟩ := V
    try dsimp only at HP
    clear e
    go_enter Try.func32, Try.ntmps32
    go_wp2_with fail
    refine (HP.out _).mono ?_
    rintro e w1 ⟨rfl, hb1⟩
    obtain ⟨hc1, hf1⟩ := bcell hb1
    have hz1_0 : w.heap.size < w1.heap.size := by have := hb1.size; first | omega | (simp at this; omega)
    go_wp2
    go_ret2
    refine ⟨rfl, ?_⟩
    (repeat' (first | (with_reducible exact Below.refl _ _) | (with_reducible assumption) | (with_reducible refine belowNext ?_ (by with_reducible assumption)) | (with_reducible refine belowAlloc ?_ _) | (with_reducible refine Below.drew ?_) | (with_reducible refine below_drewN ?_ _) | (with_reducible refine Below.setCell ?_ ?_ _) | go_size | (with_reducible refine sizeOf' ?_) | (with_reducible refine sizeAdd ?_) | (dsimp only; first | (with_reducible refine sizeOf' ?_) | (with_reducible refine sizeAdd ?_))))

/-- What WidthOf answers. -/
def wiA (n d : Int) : Int × Int := if poC n d = 0 then (redN ((poP n d).2.2.1 * (poP n d).2.1 - (poP n d).1 * (poP n d).2.2.2) ((poP n d).2.1 * (poP n d).2.2.2), redD ((poP n d).2.2.1 * (poP n d).2.1 - (poP n d).1 * (poP n d).2.2.2) ((poP n d).2.1 * (poP n d).2.2.2)) else (0, 0)

/-- What is known of the pair of an angle. -/
theorem po_bounds {n d : Int} (hc : poC n d = 0) : 1 ≤ (poP n d).2.1 ∧ (poP n d).2.1 ≤ 8191 ∧ 0 ≤ (poP n d).1 ∧ (poP n d).1 < (poP n d).2.1 ∧ 1 ≤ (poP n d).2.2.2 ∧ (poP n d).2.2.2 ≤ 8191 ∧ 0 ≤ (poP n d).2.2.1 ∧ (poP n d).2.2.1 < (poP n d).2.2.2 ∧
    (poP n d).1 * (poP n d).2.2.2 < (poP n d).2.2.1 * (poP n d).2.1 ∧ isAng n d = true ∧ 2 ≤ shortP d ∧ shortP d ≤ 8 ∧ shortP (poP n d).2.1 = shortP d ∧ shortP (poP n d).2.2.2 = shortP d := by
  have hcase : isAng n d = true ∧ 2 ≤ shortP d := by
    rcases po_cases n d with ⟨h1, h2, h3⟩ | ⟨h1, h2, h3, h4⟩ | ⟨h1, h2, h3, h4⟩
    · omega
    · omega
    · exact ⟨h1, h2⟩
  obtain ⟨q, _, _, g3, g4, g5, g6⟩ := po_good hcase.1 hcase.2
  rw [← g3] at g4 g5 g6
  obtain ⟨r1, r2, l⟩ := isLf_yes g4
  exact ⟨r1.1, r1.2.1, r1.2.2.1, r1.2.2.2.1, r2.1, r2.2.1, r2.2.2.1, r2.2.2.2.1, of_decide_eq_true l, hcase.1, hcase.2, shortP_le d, g5, g6⟩
/-- The difference over the product, and over the Den of the period. -/
theorem width_same {a b x y e f D : Int} (hb : 1 ≤ b) (hy : 1 ≤ y) (ha : 0 ≤ a) (_hx : 0 ≤ x) (hxy : x < y) (hlt : a * y < x * b) (he : b * e = D) (hf : y * f = D) (hD : 1 ≤ D) :
    redN (x * f - a * e) D = redN (x * b - a * y) (b * y) ∧ redD (x * f - a * e) D = redD (x * b - a * y) (b * y) ∧ 0 ≤ x * f - a * e ∧ x * f - a * e < D := by
  have hf0 : 0 < f := by
    rcases Int.lt_or_le 0 f with h | h
    · exact h
    · have := Int.mul_nonneg (show 0 ≤ y by omega) (show 0 ≤ -f by omega)
      rw [Int.mul_neg] at this; omega
  have he0 : 0 < e := by
    rcases Int.lt_or_le 0 e with h | h
    · exact h
    · have := Int.mul_nonneg (show 0 ≤ b by omega) (show 0 ≤ -e by omega)
      rw [Int.mul_neg] at this; omega
  have hby : 0 < b * y := Int.mul_pos (by omega) (by omega)
  have cr : (x * f - a * e) * (b * y) = (x * b - a * y) * D := by
    have e1 : x * f * (b * y) = x * b * D := by rw [← hf]; ac_rfl
    have e2 : a * e * (b * y) = a * y * D := by rw [← he]; ac_rfl
    rw [Int.sub_mul, Int.sub_mul, e1, e2]
  have p0 : 0 ≤ x * b - a * y := by omega
  have ay : 0 ≤ a * y := Int.mul_nonneg ha (by omega)
  have p1 : x * b - a * y < b * y := by
    have : x * b < y * b := Int.mul_lt_mul_of_pos_right hxy (by omega)
    rw [Int.mul_comm y b] at this; omega
  have ae : 0 ≤ a * e := Int.mul_nonneg ha (by omega)
  have q1 : x * f - a * e < D := by
    have : x * f < y * f := Int.mul_lt_mul_of_pos_right hxy hf0
    omega
  have q0 : 0 ≤ x * f - a * e := by
    rcases Int.lt_or_le (x * f - a * e) 0 with h | h
    · have h1 := Int.mul_neg_of_neg_of_pos h hby
      have h2 := Int.mul_nonneg p0 (show 0 ≤ D by omega)
      rw [cr] at h1; omega
    · exact h
  obtain ⟨s1, s2⟩ := red_same q0 q1 p0 p1 cr
  exact ⟨s1, s2, q0, q1⟩

set_option maxRecDepth 100000 in
set_option maxHeartbeats 600000 in
theorem implWidth (n d : Int) (w : World) :
    Calls Try.prog 29 #[ang n d] w fun e w' => e = .returned (.tuple #[ang (wiA n d).1 (wiA n d).2, .int .i64 (poC n d)]) ∧ Below w.heap.size w w' := by
  have HP := Lib.hid (fun w => implPairOf n d w)
  by_cases hc : poC n d = 0
  · have e : wiA n d = _ := if_pos hc
    obtain ⟨b1, b2, b3, b4, b5, b6, b7, b8, b9, -⟩ := po_bounds hc
    rw [hc] at HP ⊢
    rw [e]
    generalize poP n d = V at *
    obtain ⟨a, b, x, y⟩ := V
    dsimp only at HP b1 b2 b3 b4 b5 b6 b7 b8 b9 ⊢
    clear hc e
    have HR := Lib.hid (fun w => implWF a b x y w ⟨b1, b2, b3, b4⟩ ⟨b5, b6, b7, b8⟩)
    generalize redN (x * b - a * y) (b * y) = X at *
    generalize redD (x * b - a * y) (b * y) = Y at *
    go_enter Try.func29, Try.ntmps29
    go_wp2_with fail
    refine (HP.out _).mono ?_
    rintro e w1 ⟨rfl, hb1⟩
    obtain ⟨hc1, hf1⟩ := bcell hb1
    have hz1_0 : w.heap.size < w1.heap.size := by have := hb1.size; first | omega | (simp at this; omega)
    have hz1_1 : w.heap.size + 1 < w1.heap.size := by have := hb1.size; first | omega | (simp at this; omega)
    have q1_1_0 : w1.cell? ⟨w.heap.size + 1, 0, none⟩ = some (.int .i64 0) := cellThru hb1 (by simp <;> omega) (by simp [go_sem])
    have q1_1_1 : w1.cell? ⟨w.heap.size + 1, 1, none⟩ = some (.int .i64 0) := cellThru hb1 (by simp <;> omega) (by simp [go_sem])
    have j1_1_0 : w1.frozen? ⟨w.heap.size + 1, 0, none⟩ = false := frozThru hb1 (by simp <;> omega) (by simp [go_sem])
    have j1_1_1 : w1.frozen? ⟨w.heap.size + 1, 1, none⟩ = false := frozThru hb1 (by simp <;> omega) (by simp [go_sem])
    have B1 : Below w.heap.size w w1 := by
      (repeat' (first | (with_reducible exact Below.refl _ _) | (with_reducible assumption) | (with_reducible refine belowNext ?_ (by with_reducible assumption)) | (with_reducible refine belowAlloc ?_ _) | (with_reducible refine Below.drew ?_) | (with_reducible refine below_drewN ?_ _) | (with_reducible refine Below.setCell ?_ ?_ _) | go_size | (with_reducible refine sizeOf' ?_) | (with_reducible refine sizeAdd ?_) | (dsimp only; first | (with_reducible refine sizeOf' ?_) | (with_reducible refine sizeAdd ?_))))
    clear hc1 hf1 hb1
    all_goals
      go_wp2_with fail
      refine (HR.out _).mono ?_
      rintro e w3 ⟨rfl, hb3⟩
      have up : Below w1.heap.size w1 w3 := by
        (repeat' (first | (with_reducible exact Below.refl _ _) | (with_reducible assumption) | (with_reducible refine belowNext ?_ (by with_reducible assumption)) | (with_reducible refine belowAlloc ?_ _) | (with_reducible refine Below.drew ?_) | (with_reducible refine below_drewN ?_ _) | (with_reducible refine Below.setCell ?_ ?_ _) | go_size | (with_reducible refine sizeOf' ?_) | (with_reducible refine sizeAdd ?_) | (dsimp only; first | (with_reducible refine sizeOf' ?_) | (with_reducible refine sizeAdd ?_))))
      have k0 := cellThru up hz1_1 q1_1_0
      have k1 := cellThru up hz1_1 q1_1_1
      have f0 := frozThru up hz1_1 j1_1_0
      have f1 := frozThru up hz1_1 j1_1_1
      have B3 := belowNext B1 up
      clear hb3 up
      go_wp2
      refine bodyPost_ret (v := .tuple #[ang X Y, .int .i64 0]) (by simp [results, Try.results29, go_sem, k0, k1]) rfl ⟨rfl, ?_⟩
      have hle1 : w.heap.size ≤ w.heap.size + 1 := Nat.le_succ _
      exact (B3.setCell hle1 _).setCell hle1 _
  · have e : wiA n d = (0, 0) := if_neg hc
    have hcb : (poC n d == 0) = false := beq_eq_false_iff_ne.2 hc
    rw [e]
    generalize poC n d = c at *
    generalize poP n d = V at *
    obtain ⟨a, b, x, y⟩ := V
    try dsimp only at HP
    clear e
    go_enter Try.func29, Try.ntmps29
    go_wp2_with fail
    refine (HP.out _).mono ?_
    rintro e w1 ⟨rfl, hb1⟩
    obtain ⟨hc1, hf1⟩ := bcell hb1
    have hz1_0 : w.heap.size < w1.heap.size := by have := hb1.size; first | omega | (simp at this; omega)
    have hz1_1 : w.heap.size + 1 < w1.heap.size := by have := hb1.size; first | omega | (simp at this; omega)
    have q1_1_0 : w1.cell? ⟨w.heap.size + 1, 0, none⟩ = some (.int .i64 0) := cellThru hb1 (by simp <;> omega) (by simp [go_sem])
    have q1_1_1 : w1.cell? ⟨w.heap.size + 1, 1, none⟩ = some (.int .i64 0) := cellThru hb1 (by simp <;> omega) (by simp [go_sem])
    go_wp2
    refine bodyPost_ret (v := .tuple #[ang 0 0, .int .i64 c]) (by simp [results, Try.results29, go_sem, q1_1_0, q1_1_1, hz1_1]) rfl ⟨rfl, ?_⟩
    (repeat' (first | (with_reducible exact Below.refl _ _) | (with_reducible assumption) | (with_reducible refine belowNext ?_ (by with_reducible assumption)) | (with_reducible refine belowAlloc ?_ _) | (with_reducible refine Below.drew ?_) | (with_reducible refine below_drewN ?_ _) | (with_reducible refine Below.setCell ?_ ?_ _) | go_size | (with_reducible refine sizeOf' ?_) | (with_reducible refine sizeAdd ?_) | (dsimp only; first | (with_reducible refine sizeOf' ?_) | (with_reducible refine sizeAdd ?_))))

/-- What is known of the pair of an angle, in letters. -/
theorem po_facts {n d : Int} (hc : poC n d = 0) : ∃ a b x y : Int, ∃ (sp : Nat) (E F : Int), poP n d = (a, b, x, y) ∧ perS (n, d) = sp ∧ 2 ≤ sp ∧ sp ≤ 8 ∧ isAng n d = true ∧ 1 ≤ b ∧ b ≤ 8191 ∧ 0 ≤ a ∧ a < b ∧ 1 ≤ y ∧ y ≤ 8191 ∧ 0 ≤ x ∧ x < y ∧ a * y < x * b ∧ b * E = 2 ^ sp - 1 ∧ y * F = 2 ^ sp - 1 := by
  obtain ⟨b1, b2, b3, b4, b5, b6, b7, b8, b9, hang, h2, h8, g5, g6⟩ := po_bounds hc
  obtain ⟨E, hE⟩ := short_dvd (d := (poP n d).2.1) (by rw [g5]; exact Nat.le_trans (by decide) h2)
  obtain ⟨F, hF⟩ := short_dvd (d := (poP n d).2.2.2) (by rw [g6]; exact Nat.le_trans (by decide) h2)
  rw [g5] at hE
  rw [g6] at hF
  exact ⟨(poP n d).1, (poP n d).2.1, (poP n d).2.2.1, (poP n d).2.2.2, shortP d, E, F, rfl, (per_range (ang_red hang)).1 h2, h2, h8, hang, b1, b2, b3, b4, b5, b6, b7, b8, b9, hE, hF⟩

theorem width_den {sp : Nat} {b y E F : Int} (h8 : sp ≤ 8) (h2 : 2 ≤ sp) (hE : b * E = 2 ^ sp - 1) (hF : y * F = 2 ^ sp - 1) : ∃ DD D : Int, wrap64 ((2 : Int) ^ sp) = DD ∧ wrap64 (DD - 1) = D ∧ DD - 1 = D ∧ 3 ≤ D ∧ D ≤ 255 ∧ b * E = D ∧ y * F = D := by
  have hs := shl_run sp h8
  have hp := pow_le8 h8
  have hq : 4 ≤ 2 ^ sp := by
    obtain ⟨m, rfl⟩ : ∃ m, sp = m + 2 := ⟨sp - 2, by omega⟩
    have := pow_ge1 m
    rw [Nat.pow_succ, Nat.pow_succ]; omega
  have e : (2 : Int) ^ sp = ((2 ^ sp : Nat) : Int) := by rw [Int.natCast_pow]; rfl
  rw [e] at hE hF
  generalize 2 ^ sp = G at *
  have hG : wrap64 ((G : Int) - 1) = (G : Int) - 1 := IntWalk.wrap64_in _ (by omega)
  exact ⟨(G : Int), (G : Int) - 1, hs, hG, rfl, by omega, by omega, hE, hF⟩
theorem width_div {y F D : Int} (hy : 1 ≤ y) (hF : y * F = D) (d1 : 3 ≤ D) (d2 : D ≤ 255) : D.tdiv y = F ∧ D / y = F ∧ 0 ≤ F ∧ F ≤ 255 := by
  have t1 : D.tdiv y = F := by rw [← hF]; exact Int.mul_tdiv_cancel_left _ (by omega)
  have t2 : D / y = F := by rw [← hF]; exact Int.mul_ediv_cancel_left _ (by omega)
  have q0 : 0 ≤ D / y := Int.ediv_nonneg (by omega) (by omega)
  have q1 : D / y ≤ D := Int.ediv_le_self _ (by omega)
  rw [t2] at q0 q1
  exact ⟨t1, t2, q0, by omega⟩
theorem width_prod {x y F : Int} (h0 : 0 ≤ x) (h1 : x < y) (h2 : y ≤ 8191) (f0 : 0 ≤ F) (f1 : F ≤ 255) : 0 ≤ x * F ∧ x * F ≤ 67092481 := mul_bound (a := x) (b := F) (by omega) (by omega) (by omega) (by omega)
theorem width_red (x F a E D : Int) {y b : Int} (_h0 : 0 ≤ x) (_h1 : x < y) (_h2 : y ≤ 8191) (_g0 : 0 ≤ a) (_g1 : a < b) (_g2 : b ≤ 8191) (_f0 : 0 ≤ F) (_f1 : F ≤ 255) (_e0 : 0 ≤ E) (_e1 : E ≤ 255) (d1 : 3 ≤ D) (d2 : D ≤ 255) (s3 : 0 ≤ x * F - a * E) (s4 : x * F - a * E < D) :
    ∀ w, Calls Try.prog 65 #[.int .i64 (x * F - a * E), .int .i64 D] w fun e w' => e = .returned (ang (redN (x * F - a * E) D) (redD (x * F - a * E) D)) ∧ Below w.heap.size w w' := fun w => by
  generalize x * F - a * E = Z at *
  exact specRed Z D w (by omega) (by omega) (by omega) (by omega)

set_option maxRecDepth 100000 in
set_option maxHeartbeats 400000 in
theorem specWidth (n d : Int) (w : World) :
    Calls Try.prog 30 #[ang n d] w fun e w' => e = .returned (.tuple #[ang (wiA n d).1 (wiA n d).2, .int .i64 (poC n d)]) ∧ Below w.heap.size w w' := by
  have HP := Lib.hid (fun w => specPairOf n d w)
  by_cases hc : poC n d = 0
  · obtain ⟨a, b, x, y, sp, E, F, hV, hS, h2, h8, hang, b1, b2, b3, b4, b5, b6, b7, b8, b9, hE, hF⟩ := po_facts hc
    have e : wiA n d = (redN (x * b - a * y) (b * y), redD (x * b - a * y) (b * y)) := by unfold wiA; rw [if_pos hc, hV]
    have HS := Lib.hid (fun w => specPer n d w (ang_red hang))
    rw [hS] at HS
    rw [hc, hV] at HP
    rw [hc, e]
    clear hc e hang hV hS
    obtain ⟨DD, D, hs, hw2, hD, d1, d2, hE, hF⟩ := width_den (b := b) (y := y) (E := E) (F := F) h8 h2 hE hF
    obtain ⟨s1, s2, s3, s4⟩ := width_same b1 b5 b3 b7 b8 b9 hE hF (Int.le_trans (by decide) d1)
    rw [← s1, ← s2]
    obtain ⟨t1, t1', F0, F1⟩ := width_div b5 hF d1 d2
    obtain ⟨t2, t2', E0, E1⟩ := width_div b1 hE d1 d2
    have yn : ¬ y = 0 := Int.ne_of_gt (Int.lt_of_lt_of_le (by decide) b5)
    have bn : ¬ b = 0 := Int.ne_of_gt (Int.lt_of_lt_of_le (by decide) b1)
    have yb : (y == 0) = false := beq_eq_false_iff_ne.2 yn
    have bb : (b == 0) = false := beq_eq_false_iff_ne.2 bn
    have HR := Lib.hid (width_red x F a E D b7 b8 b6 b3 b4 b2 F0 F1 E0 E1 d1 d2 s3 s4)
    obtain ⟨p1, p2⟩ := width_prod b7 b8 b6 F0 F1
    obtain ⟨p3, p4⟩ := width_prod b3 b4 b2 E0 E1
    generalize redN (x * F - a * E) D = X at *
    generalize redD (x * F - a * E) D = Y at *
    clear s1 s2 hE hF b9
    go_enter Try.func30, Try.ntmps30
    go_wp2_with fail
    refine (HP.out _).mono ?_
    rintro e w1 ⟨rfl, hb1⟩
    obtain ⟨hc1, hf1⟩ := bcell hb1
    have hz1_0 : w.heap.size < w1.heap.size := by have := hb1.size; first | omega | (simp at this; omega)
    have hz1_1 : w.heap.size + 1 < w1.heap.size := by have := hb1.size; first | omega | (simp at this; omega)
    have q1_0_0 : w1.cell? ⟨w.heap.size, 0, none⟩ = some (.int .i64 n) := cellThru hb1 (by simp <;> omega) (by simp [go_sem])
    have q1_0_1 : w1.cell? ⟨w.heap.size, 1, none⟩ = some (.int .i64 d) := cellThru hb1 (by simp <;> omega) (by simp [go_sem])
    have q1_1_0 : w1.cell? ⟨w.heap.size + 1, 0, none⟩ = some (.int .i64 0) := cellThru hb1 (by simp <;> omega) (by simp [go_sem])
    have q1_1_1 : w1.cell? ⟨w.heap.size + 1, 1, none⟩ = some (.int .i64 0) := cellThru hb1 (by simp <;> omega) (by simp [go_sem])
    have j1_1_0 : w1.frozen? ⟨w.heap.size + 1, 0, none⟩ = false := frozThru hb1 (by simp <;> omega) (by simp [go_sem])
    have j1_1_1 : w1.frozen? ⟨w.heap.size + 1, 1, none⟩ = false := frozThru hb1 (by simp <;> omega) (by simp [go_sem])
    have B1 : Below w.heap.size w w1 := by
      (repeat' (first | (with_reducible exact Below.refl _ _) | (with_reducible assumption) | (with_reducible refine belowNext ?_ (by with_reducible assumption)) | (with_reducible refine belowAlloc ?_ _) | (with_reducible refine Below.drew ?_) | (with_reducible refine below_drewN ?_ _) | (with_reducible refine Below.setCell ?_ ?_ _) | go_size | (with_reducible refine sizeOf' ?_) | (with_reducible refine sizeAdd ?_) | (dsimp only; first | (with_reducible refine sizeOf' ?_) | (with_reducible refine sizeAdd ?_))))
    have hpz : w1.heap.size < (w1.alloc (.cells #[.int .i64 a, .int .i64 b, .int .i64 x, .int .i64 y] 52)).heap.size := by simp
    clear hc1 hf1 hb1
    go_wp2_with fail
    refine (HS.out _).mono ?_
    rintro e w2 ⟨rfl, hb2⟩
    have s2 := hb2.size
    simp at s2
    have c0 : w2.cell? ⟨w1.heap.size, 0, none⟩ = some (.int .i64 a) := cellThru hb2 (by simp) (by simp [go_sem])
    have c1 : w2.cell? ⟨w1.heap.size, 1, none⟩ = some (.int .i64 b) := cellThru hb2 (by simp) (by simp [go_sem])
    have c2 : w2.cell? ⟨w1.heap.size, 2, none⟩ = some (.int .i64 x) := cellThru hb2 (by simp) (by simp [go_sem])
    have c3 : w2.cell? ⟨w1.heap.size, 3, none⟩ = some (.int .i64 y) := cellThru hb2 (by simp) (by simp [go_sem])
    have up : Below w1.heap.size w1 w2 := by
      (repeat' (first | (with_reducible exact Below.refl _ _) | (with_reducible assumption) | (with_reducible refine belowNext ?_ (by with_reducible assumption)) | (with_reducible refine belowAlloc ?_ _) | (with_reducible refine Below.drew ?_) | (with_reducible refine below_drewN ?_ _) | (with_reducible refine Below.setCell ?_ ?_ _) | go_size | (with_reducible refine sizeOf' ?_) | (with_reducible refine sizeAdd ?_) | (dsimp only; first | (with_reducible refine sizeOf' ?_) | (with_reducible refine sizeAdd ?_))))
    have k0 := cellThru up hz1_1 q1_1_0
    have k1 := cellThru up hz1_1 q1_1_1
    have f0 := frozThru up hz1_1 j1_1_0
    have f1 := frozThru up hz1_1 j1_1_1
    have B2 := belowNext B1 up
    have z2 : w.heap.size + 1 < w2.heap.size := by omega
    clear hb2 up q1_0_0 q1_0_1 q1_1_0 q1_1_1 j1_1_0 j1_1_1 B1
    go_wp2_with fail
    go_still_tail 20, (by kernel_rfl)
    change wpList _ _ _ _ _ w2.drew
    have k0' : w2.drew.cell? ⟨w.heap.size + 1, 0, none⟩ = some (.int .i64 0) := k0
    have k1' : w2.drew.cell? ⟨w.heap.size + 1, 1, none⟩ = some (.int .i64 0) := k1
    have f0' : w2.drew.frozen? ⟨w.heap.size + 1, 0, none⟩ = false := f0
    have f1' : w2.drew.frozen? ⟨w.heap.size + 1, 1, none⟩ = false := f1
    have z2' : w.heap.size + 1 < w2.drew.heap.size := z2
    go_wp2_with fail
    refine (HR.out _).mono ?_
    rintro e w3 ⟨rfl, hb3⟩
    have k0 := cellThru hb3 z2' k0'
    have k1 := cellThru hb3 z2' k1'
    have f0 := frozThru hb3 z2' f0'
    have f1 := frozThru hb3 z2' f1'
    have B3 : Below w.heap.size w w3 := belowNext B2.drew hb3
    clear hb3
    go_wp2
    refine bodyPost_ret (v := .tuple #[ang X Y, .int .i64 0]) (by simp [results, Try.results30, go_sem, k0, k1]) rfl ⟨rfl, ?_⟩
    have hle1 : w.heap.size ≤ w.heap.size + 1 := Nat.le_succ _
    exact (B3.setCell hle1 _).setCell hle1 _
  · have e : wiA n d = (0, 0) := if_neg hc
    have hcb : (poC n d == 0) = false := beq_eq_false_iff_ne.2 hc
    rw [e]
    generalize poC n d = c at *
    generalize poP n d = V at *
    obtain ⟨a, b, x, y⟩ := V
    try dsimp only at HP
    clear e
    go_enter Try.func30, Try.ntmps30
    go_wp2_with fail
    refine (HP.out _).mono ?_
    rintro e w1 ⟨rfl, hb1⟩
    obtain ⟨hc1, hf1⟩ := bcell hb1
    have hz1_0 : w.heap.size < w1.heap.size := by have := hb1.size; first | omega | (simp at this; omega)
    have hz1_1 : w.heap.size + 1 < w1.heap.size := by have := hb1.size; first | omega | (simp at this; omega)
    have q1_1_0 : w1.cell? ⟨w.heap.size + 1, 0, none⟩ = some (.int .i64 0) := cellThru hb1 (by simp <;> omega) (by simp [go_sem])
    have q1_1_1 : w1.cell? ⟨w.heap.size + 1, 1, none⟩ = some (.int .i64 0) := cellThru hb1 (by simp <;> omega) (by simp [go_sem])
    go_wp2
    refine bodyPost_ret (v := .tuple #[ang 0 0, .int .i64 c]) (by simp [results, Try.results30, go_sem, q1_1_0, q1_1_1, hz1_1]) rfl ⟨rfl, ?_⟩
    (repeat' (first | (with_reducible exact Below.refl _ _) | (with_reducible assumption) | (with_reducible refine belowNext ?_ (by with_reducible assumption)) | (with_reducible refine belowAlloc ?_ _) | (with_reducible refine Below.drew ?_) | (with_reducible refine below_drewN ?_ _) | (with_reducible refine Below.setCell ?_ ?_ _) | go_size | (with_reducible refine sizeOf' ?_) | (with_reducible refine sizeAdd ?_) | (dsimp only; first | (with_reducible refine sizeOf' ?_) | (with_reducible refine sizeAdd ?_))))

end Go.Proofs.Ytnciiodgkanpjaa

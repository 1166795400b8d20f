/-
  Contracts: whether doubling keeps the cyclic order (the model's); by how much doubling turns (the program's); written by genQ4.py.
-/
import Derived.Test.YtlmgpecfbpcgaaaQ3
namespace Go.Proofs.Ytlmgpecfbpcgaaa
open Go.RowKit

theorem neqlQ (a1 a2 b1 b2 : Int) (W : World) : (binOp .neq 24 (ang a1 a2) (ang b1 b2)).run Try.prog W = .ok (.bool (!eqA a1 a2 b1 b2)) W := by
  by_cases h1 : a1 = b1
  · by_cases h2 : a2 = b2
    · subst h1 h2
      simp [go_sem, eqA]
    · subst h1
      simp [go_sem, eqA, h2]
  · simp [go_sem, eqA, h1]
/-- The cells of two angles, in every world of a region. -/
structure TwoQ (w : World) (a1 a2 b1 b2 : Addr) (n d m c : Int) (W : World) : Prop where
  B : Below w.heap.size w W
  z1 : a1.block < W.heap.size
  z2 : a2.block < W.heap.size
  z3 : b1.block < W.heap.size
  z4 : b2.block < W.heap.size
  x0 : W.cell? a1 = some (.int .i64 n)
  x1 : W.cell? a2 = some (.int .i64 d)
  y0 : W.cell? b1 = some (.int .i64 m)
  y1 : W.cell? b2 = some (.int .i64 c)
theorem TwoQ.on {w W W1 : World} {a1 a2 b1 b2 : Addr} {n d m c : Int} (H : TwoQ w a1 a2 b1 b2 n d m c W) (hb : Below W.heap.size W W1) : TwoQ w a1 a2 b1 b2 n d m c W1 := by
  have hs := hb.size
  have := H.z1; have := H.z2; have := H.z3; have := H.z4
  exact ⟨belowNext H.B hb, by omega, by omega, by omega, by omega, (hb.cell H.z1).trans H.x0, (hb.cell H.z2).trans H.x1, (hb.cell H.z3).trans H.y0, (hb.cell H.z4).trans H.y1⟩
theorem remQ {a n : Nat} (h : 0 < n) : ((a : Int)).tmod (n : Int) = ((a % n : Nat) : Int) ∧ ((a : Int)) % (n : Int) = ((a % n : Nat) : Int) ∧ a % n < n := by
  refine ⟨?_, by norm_cast, Nat.mod_lt _ h⟩
  rw [Int.tmod_eq_emod_of_nonneg (by omega)]
  norm_cast

set_option maxRecDepth 8000 in
set_option maxHeartbeats 2000000 in
theorem specOrd (A : Option Addr) (len cap : Nat) (l : List (Int × Int)) (B : Option Addr) (len2 cap2 : Nat) (m : List (Int × Int)) (w : World) (hr : AngRow w w.heap.size A l) (hl : l.length = len) (hm : len ≤ 1000000) (ha : allAng l = true) (hr2 : AngRow w w.heap.size B m) (hl2 : m.length = len2) (hL : LedP l m) :
    Calls Try.prog 83 #[.slice A len cap, .slice B len2 cap2] w (ResYesQ w (OrdP l m)) := by
  have HR := Lib.hid hr
  have HL := Lib.hid hl
  have HA := Lib.hid ha
  have HIn := Lib.hid hL.1
  have hlm : len2 = len := by have := hL.2.2; omega
  have HP := Lib.hid (fun W (hB : Below w.heap.size w W) n d => placeQ B len2 cap2 m n d W ((hr2.below hB).more hB.size) hl2 (by omega))
  have HMl := Lib.hid hl2
  have HLM := Lib.hid hlm
  clear hr hl hl2 ha hr2 hL hlm
  go_enter Try.func83, Try.ntmps83
  go_wp2_with fail
  go_loopw [6, 7, 8] (fun i _ _ wr => ∃ k : Nat, k ≤ len ∧ i = .int .i64 k ∧ Hid (∀ i, i < k → plc m (dA l ((i + 1) % l.length)) = (plc m (dA l i) + 1) % l.length) ∧ Below w.heap.size w wr) (fun i _ _ _ => len - (intOf i).toNat)
  case atStart => exact ⟨0, by omega, rfl, Lib.hid (fun i h => absurd h (by omega)), Below.refl _ _⟩
  case round =>
    obtain ⟨k, hk, rfl, HY, hbe⟩ := hrel
    by_cases hlt : k < len
    · have hkl : k < l.length := by have := HL.out; omega
      obtain ⟨hm1, hm2, hj⟩ := remQ (a := k + 1) (n := len) (by omega)
      obtain ⟨j, hje⟩ : ∃ j, (k + 1) % len = j := ⟨_, rfl⟩
      rw [hje] at hm1 hm2 hj
      have HJ : Hid ((k + 1) % l.length = j) := Lib.hid (by rw [HL.out]; exact hje)
      have hm1 : ((k : Int) + 1).tmod (len : Int) = (j : Int) := hm1
      have hm2 : ((k : Int) + 1) % (len : Int) = (j : Int) := hm2
      have hjl : j < l.length := by have := HL.out; omega
      have hjI : (j : Int) < (len : Int) := by omega
      have hwj : IntKind.i64.wrap (j : Int) = (j : Int) := IntWalk.i64_in _ (by omega)
      obtain ⟨b, off, rfl, hbb, hcells⟩ := HR.out (by rintro rfl; simp at hkl)
      obtain ⟨x0, x1⟩ := hcells k _ _ (cA_some hkl)
      obtain ⟨y0, y1⟩ := hcells j _ _ (cA_some hjl)
      have hbw : b < wr.heap.size := Nat.lt_of_lt_of_le hbb hbe.size
      have S0 : TwoQ w ⟨b, off + k * 2, none⟩ ⟨b, off + k * 2 + 1, none⟩ ⟨b, off + j * 2, none⟩ ⟨b, off + j * 2 + 1, none⟩ _ _ _ _ wr := ⟨hbe, hbw, hbw, hbw, hbw, cellThru hbe hbb x0, cellThru hbe hbb x1, cellThru hbe hbb y0, cellThru hbe hbb y1⟩
      have hp := isAng_yes (cA_ang HA.out hkl)
      have hp' := isAng_yes (cA_ang HA.out hjl)
      have HD : Hid (∀ w, Calls Try.prog 85 #[ang (cA l k).1 (cA l k).2] w fun e w' => e = .returned (ang (dA l k).1 (dA l k).2) ∧ Below w.heap.size w w') := Lib.hid (fun w => specDbl (cA l k).1 (cA l k).2 w (by omega) (by omega) (by omega) (by omega))
      have HD' : Hid (∀ w, Calls Try.prog 85 #[ang (cA l j).1 (cA l j).2] w fun e w' => e = .returned (ang (dA l j).1 (dA l j).2) ∧ Below w.heap.size w w') := Lib.hid (fun w => specDbl (cA l j).1 (cA l j).2 w (by omega) (by omega) (by omega) (by omega))
      have in1 := HIn.out k hkl
      have in2 := HIn.out j hjl
      have HP1 := Lib.hid (fun W (hB : Below w.heap.size w W) => HP.out W hB (dA l k).1 (dA l k).2)
      have HP2 := Lib.hid (fun W (hB : Below w.heap.size w W) => HP.out W hB (dA l j).1 (dA l j).2)
      rw [show ((dA l k).1, (dA l k).2) = dA l k from rfl, plcI_yes in1] at HP1
      rw [show ((dA l j).1, (dA l j).2) = dA l j from rfl, plcI_yes in2] at HP2
      have HO : Hid (OrdP l m → plc m (dA l j) = (plc m (dA l k) + 1) % len) := Lib.hid (fun h => by
        have := h k hkl
        rw [HJ.out, HL.out] at this
        exact this)
      have HO2 : Hid (plc m (dA l j) = (plc m (dA l k) + 1) % len → plc m (dA l ((k + 1) % l.length)) = (plc m (dA l k) + 1) % l.length) := Lib.hid (fun h => by rw [HJ.out, HL.out]; exact h)
      have pk : plc m (dA l k) < len := by have := HMl.out; have := HLM.out; omega
      have pj : plc m (dA l j) < len := by have := HMl.out; have := HLM.out; omega
      obtain ⟨P, hP⟩ : ∃ P, plc m (dA l k) = P := ⟨_, rfl⟩
      obtain ⟨P', hP'⟩ : ∃ P', plc m (dA l j) = P' := ⟨_, rfl⟩
      rw [hP] at HP1 HO HO2 pk
      rw [hP'] at HP2 HO HO2 pj
      have HPe := Lib.hid hP
      obtain ⟨q1, q2, hq⟩ := remQ (a := P + 1) (n := len) (by omega)
      obtain ⟨r, hre⟩ : ∃ r, (P + 1) % len = r := ⟨_, rfl⟩
      rw [hre] at q1 q2 hq HO HO2
      have q1 : ((P : Int) + 1).tmod (len : Int) = (r : Int) := q1
      have q2 : ((P : Int) + 1) % (len : Int) = (r : Int) := q2
      have hwr : IntKind.i64.wrap (r : Int) = (r : Int) := IntWalk.i64_in _ (by omega)
      have hln : ¬ (len : Int) = 0 := by omega
      have hln' : ¬ len = 0 := by omega
      have hw1 : IntKind.i64.wrap ((k : Int) + 1) = (k : Int) + 1 := IntWalk.i64_in _ (by omega)
      have hw2 : IntKind.i64.wrap ((P : Int) + 1) = (P : Int) + 1 := IntWalk.i64_in _ (by omega)
      clear hje hcells x0 x1 y0 y1 hp hp' in1 in2 hP hP' hre hkl hjl hbe HP HIn
      generalize (cA l k).1 = n at *
      generalize (cA l k).2 = d at *
      generalize (cA l j).1 = n' at *
      generalize (cA l j).2 = d' at *
      generalize (dA l k).1 = x at *
      generalize (dA l k).2 = y at *
      generalize (dA l j).1 = x' at *
      generalize (dA l j).2 = y' at *
      go_wp2_with fail
      refine wp_region_held_drew (S := (TwoQ w ⟨b, off + k * 2, none⟩ ⟨b, off + k * 2 + 1, none⟩ ⟨b, off + j * 2, none⟩ ⟨b, off + j * 2 + 1, none⟩ n d n' d')) (by kernel_rfl) ?_ (fun hHeld => ?_)
      · exact S0.on (Below.refl _ _).drew
      refine wpAnyH_take (i := 0) (v := ?_) rfl (by kernel_rfl) (by kernel_rfl) (by kernel_rfl) (fun _ _ _ h => h) (Or.inl ⟨by kernel_rfl, ?_⟩) hHeld ?_
      rotate_left
      · intro w hSw; obtain ⟨B, z1, z2, z3, z4, x0, x1, y0, y1⟩ := hSw; first | (go_simp; done) | (go_simp; with_reducible rfl)
      refine wpAnyH_take (i := 1) (v := ?_) rfl (by kernel_rfl) (by kernel_rfl) (by kernel_rfl) (fun _ _ _ h => h) (Or.inl ⟨by kernel_rfl, ?_⟩) hHeld ?_
      rotate_left
      · intro w hSw; obtain ⟨B, z1, z2, z3, z4, x0, x1, y0, y1⟩ := hSw; first | (go_simp; done) | (go_simp; with_reducible rfl)
      refine wpAnyH_take (i := 2) (v := ?_) rfl (by kernel_rfl) (by kernel_rfl) (by kernel_rfl) (fun _ _ _ h => h) (Or.inl ⟨by kernel_rfl, ?_⟩) hHeld ?_
      rotate_left
      · intro w hSw; obtain ⟨B, z1, z2, z3, z4, x0, x1, y0, y1⟩ := hSw; first | (go_simp; done) | (go_simp; with_reducible rfl)
      refine wpAnyH_take (i := 3) (v := ?_) rfl (by kernel_rfl) (by kernel_rfl) (by kernel_rfl) (fun _ _ _ h => h) (Or.inl ⟨by kernel_rfl, ?_⟩) hHeld ?_
      rotate_left
      · intro w hSw; obtain ⟨B, z1, z2, z3, z4, x0, x1, y0, y1⟩ := hSw; first | (go_simp; done) | (go_simp; with_reducible rfl)
      refine wpAnyH_take (i := 4) (v := ?_) rfl (by kernel_rfl) (by kernel_rfl) (by kernel_rfl) (fun _ _ _ h => h) (Or.inl ⟨by kernel_rfl, ?_⟩) hHeld ?_
      rotate_left
      · intro w hSw; obtain ⟨B, z1, z2, z3, z4, x0, x1, y0, y1⟩ := hSw; first | (go_simp; done) | (go_simp; with_reducible rfl)
      refine wpAnyH_take (i := 7) (v := ?_) rfl (by kernel_rfl) (by kernel_rfl) (by kernel_rfl) (fun _ _ _ h => h) (Or.inl ⟨by kernel_rfl, ?_⟩) hHeld ?_
      rotate_left
      · intro w hSw; obtain ⟨B, z1, z2, z3, z4, x0, x1, y0, y1⟩ := hSw; first | (go_simp; done) | (go_simp; with_reducible rfl)
      refine wpAnyH_take (i := 8) (v := ?_) rfl (by kernel_rfl) (by kernel_rfl) (by kernel_rfl) (fun _ _ _ h => h) (Or.inl ⟨by kernel_rfl, ?_⟩) hHeld ?_
      rotate_left
      · intro w hSw; obtain ⟨B, z1, z2, z3, z4, x0, x1, y0, y1⟩ := hSw; first | (go_simp; done) | (go_simp; with_reducible rfl)
      refine wpAnyH_take (i := 9) (v := ?_) rfl (by kernel_rfl) (by kernel_rfl) (by kernel_rfl) (fun _ _ _ h => h) (Or.inl ⟨by kernel_rfl, ?_⟩) hHeld ?_
      rotate_left
      · intro w hSw; obtain ⟨B, z1, z2, z3, z4, x0, x1, y0, y1⟩ := hSw; first | (go_simp; done) | (go_simp; with_reducible rfl)
      refine wpAnyH_take (i := 10) (v := ?_) rfl (by kernel_rfl) (by kernel_rfl) (by kernel_rfl) (fun _ _ _ h => h) (Or.inl ⟨by kernel_rfl, ?_⟩) hHeld ?_
      rotate_left
      · intro w hSw; obtain ⟨B, z1, z2, z3, z4, x0, x1, y0, y1⟩ := hSw; first | (go_simp; done) | (go_simp; with_reducible rfl)
      refine wpAnyH_take (i := 11) (v := ?_) rfl (by kernel_rfl) (by kernel_rfl) (by kernel_rfl) (fun _ _ _ h => h) (Or.inl ⟨by kernel_rfl, ?_⟩) hHeld ?_
      rotate_left
      · intro w hSw; obtain ⟨B, z1, z2, z3, z4, x0, x1, y0, y1⟩ := hSw; first | (go_simp; done) | (go_simp; with_reducible rfl)
      refine wpAnyH_take (i := 12) (v := ?_) rfl (by kernel_rfl) (by kernel_rfl) (by kernel_rfl) (fun _ _ _ h => h) (Or.inl ⟨by kernel_rfl, ?_⟩) hHeld ?_
      rotate_left
      · intro w hSw; obtain ⟨B, z1, z2, z3, z4, x0, x1, y0, y1⟩ := hSw; first | (go_simp; done) | (go_simp; with_reducible rfl)
      refine wpAnyH_take (i := 13) (v := ?_) rfl (by kernel_rfl) (by kernel_rfl) (by kernel_rfl) (fun _ _ _ h => h) (Or.inl ⟨by kernel_rfl, ?_⟩) hHeld ?_
      rotate_left
      · intro w hSw; obtain ⟨B, z1, z2, z3, z4, x0, x1, y0, y1⟩ := hSw; first | (go_simp; done) | (go_simp; with_reducible rfl)
      refine wpAnyH_take (i := 14) (v := ?_) rfl (by kernel_rfl) (by kernel_rfl) (by kernel_rfl) (fun _ _ _ h => h) (Or.inl ⟨by kernel_rfl, ?_⟩) hHeld ?_
      rotate_left
      · intro w hSw; obtain ⟨B, z1, z2, z3, z4, x0, x1, y0, y1⟩ := hSw; first | (go_simp; done) | (go_simp; with_reducible rfl)
      refine wpAnyH_ready (rs := [5]) (by kernel_rfl) (by simp) ?_
      refine AllReadyH.cons rfl (fun K hK => ?_) AllReadyH.nil
      go_simp
      go_wp2_with (go_at_call 85; (with_reducible refine (HD.out _).mono ?_); rintro e w1 ⟨rfl, hb1⟩)
      have S1 := hHeld.on hb1
      refine hK.out _ _ ?_ (fun hHeld => ?_)
      · exact S1
      clear hK K
      refine wpAnyH_ready (rs := [6]) (by kernel_rfl) (by simp) ?_
      refine AllReadyH.cons rfl (fun K hK => ?_) AllReadyH.nil
      go_simp
      go_wp2_with (go_at_call 84; (with_reducible refine (HP1.out _ S1.B).mono ?_); rintro e w2 ⟨rfl, hb2⟩)
      have S2 := S1.on hb2
      refine hK.out _ _ ?_ (fun hHeld => ?_)
      · exact S2
      clear hK K
      refine wpAnyH_ready (rs := [15]) (by kernel_rfl) (by simp) ?_
      refine AllReadyH.cons rfl (fun K hK => ?_) AllReadyH.nil
      go_simp
      go_wp2_with (go_at_call 85; (with_reducible refine (HD'.out _).mono ?_); rintro e w3 ⟨rfl, hb3⟩)
      have S3 := S2.on hb3
      refine hK.out _ _ ?_ (fun hHeld => ?_)
      · exact S3
      clear hK K
      refine wpAnyH_ready (rs := [16]) (by kernel_rfl) (by simp) ?_
      refine AllReadyH.cons rfl (fun K hK => ?_) AllReadyH.nil
      go_simp
      go_wp2_with (go_at_call 84; (with_reducible refine (HP2.out _ S3.B).mono ?_); rintro e w4 ⟨rfl, hb4⟩)
      have S4 := S3.on hb4
      refine hK.out _ _ ?_ (fun hHeld => ?_)
      · exact S4
      clear hK K
      refine wpAnyH_take (i := 17) (v := ?_) rfl (by kernel_rfl) (by kernel_rfl) (by kernel_rfl) (fun _ _ _ h => h) (Or.inl ⟨by kernel_rfl, ?_⟩) hHeld ?_
      rotate_left
      · intro w hSw; obtain ⟨B, z1, z2, z3, z4, x0, x1, y0, y1⟩ := hSw; first | (go_simp; done) | (go_simp; with_reducible rfl)
      refine wpAnyH_take (i := 18) (v := ?_) rfl (by kernel_rfl) (by kernel_rfl) (by kernel_rfl) (fun _ _ _ h => h) (Or.inl ⟨by kernel_rfl, ?_⟩) hHeld ?_
      rotate_left
      · intro w hSw; obtain ⟨B, z1, z2, z3, z4, x0, x1, y0, y1⟩ := hSw; first | (go_simp; done) | (go_simp; with_reducible rfl)
      refine wpAnyH_done (by kernel_rfl) ?_ _
      have S5 := S4
      have B5 := S5.B
      clear S0 S1 S2 S3 S4 S5
      by_cases he : P' = r
      · have d1 : ((P' : Int) == (r : Int)) = true := by rw [he]; simp
        have d2 : (P' : Int) = (r : Int) := by rw [he]
        go_wp2
        go_roundw
        case rel =>
          refine ⟨k + 1, by omega, by go_num, Lib.hid (fun i hi => ?_), B5⟩
          by_cases e : i = k
          · subst e; rw [HO2.out he, HPe.out, HL.out]
          · exact HY.out i (by omega)
        case measure => simp [intOf]; omega
      · have d1 : ((P' : Int) == (r : Int)) = false := by simp; omega
        have d2 : ¬ (P' : Int) = (r : Int) := by omega
        go_wp2
        go_ret
        exact ⟨⟨false, rfl, Lib.hid ⟨fun h => (by cases h), fun h => absurd (HO.out h) he⟩⟩, B5⟩
    · obtain rfl : k = len := by omega
      have HQ : Hid (OrdP l m) := Lib.hid (fun i hi => HY.out i (by have := HL.out; omega))
      go_wp2
      go_ret
      exact ⟨⟨true, rfl, Lib.hid ⟨fun _ => HQ.out, fun _ => rfl⟩⟩, hbe⟩

/-- What turnBetween answers. -/
def TurnRes (w : World) (l m : List (Int × Int)) (e : Ending) (w' : World) : Prop :=
  ((∃ t : Nat, Turned l m t ∧ e = .returned (.tuple #[.int .i64 t, .bool true])) ∨ ((¬ ∃ t, Turned l m t) ∧ e = .returned (.tuple #[.int .i64 0, .bool false]))) ∧ Below w.heap.size w w'

set_option maxRecDepth 8000 in
set_option maxHeartbeats 2000000 in
theorem implTurn (A : Option Addr) (len cap : Nat) (l : List (Int × Int)) (B : Option Addr) (len2 cap2 : Nat) (m : List (Int × Int)) (w : World) (hr : AngRow w w.heap.size A l) (hl : l.length = len) (hm : len ≤ 1000000) (ha : allAng l = true) (hr2 : AngRow w w.heap.size B m) (hl2 : m.length = len2) (hm2 : len2 ≤ 1000000) (h0 : 0 < len) :
    Calls Try.prog 87 #[.slice A len cap, .slice B len2 cap2] w (TurnRes w l m) := by
  have HR := Lib.hid hr
  have HR2 := Lib.hid hr2
  have HL := Lib.hid hl
  have HL2 := Lib.hid hl2
  have HA := Lib.hid ha
  have hl0 : 0 < l.length := by omega
  obtain ⟨b, off, rfl, hbb, hcells⟩ := HR.out (by rintro rfl; simp at hl0)
  obtain ⟨x0, x1⟩ := hcells 0 _ _ (cA_some hl0)
  rw [Nat.zero_mul, Nat.add_zero] at x0 x1
  have HC := Lib.hid hcells
  have hp := isAng_yes (cA_ang HA.out hl0)
  have HD : Hid (∀ w, Calls Try.prog 121 #[ang (cA l 0).1 (cA l 0).2] w fun e w' => e = .returned (ang (dA l 0).1 (dA l 0).2) ∧ Below w.heap.size w w') := Lib.hid (fun w => implDbl (cA l 0).1 (cA l 0).2 w (by omega) (by omega) (by omega) (by omega))
  have HP := Lib.hid (fun W (hB : Below w.heap.size w W) => idxQ B len2 cap2 m (dA l 0).1 (dA l 0).2 W ((hr2.below hB).more hB.size) hl2 (by omega))
  rw [show ((dA l 0).1, (dA l 0).2) = dA l 0 from rfl] at HP
  have hl0I : (0 : Int) < (len : Int) := by omega
  clear hr hl hl2 ha hr2 hcells hp
  by_cases hin : plc m (dA l 0) < m.length
  · rw [plcI_yes hin] at HP
    obtain ⟨T, hT⟩ : ∃ T, plc m (dA l 0) = T := ⟨_, rfl⟩
    have HT := Lib.hid hT
    rw [hT] at HP hin
    have hin2 : T < len2 := by have := HL2.out; omega
    have hm0 : 0 < m.length := by omega
    obtain ⟨b2, off2, rfl, hbb2, hcells2⟩ := HR2.out (by rintro rfl; simp at hm0)
    have HC2 := Lib.hid hcells2
    clear hT hin hm0 hcells2
    generalize (cA l 0).1 = n at *
    generalize (cA l 0).2 = d at *
    generalize (dA l 0).1 = x at *
    generalize (dA l 0).2 = y at *
    go_enter Try.func87, Try.ntmps87
    go_wp2_with fail
    refine (HD.out _).mono ?_
    rintro e w1 ⟨rfl, hb1⟩
    go_wp2_with fail
    refine (HP.out _ hb1).mono ?_
    rintro e w2 ⟨rfl, hb2⟩
    have B2 : Below w.heap.size w w2 := belowNext hb1 hb2
    clear hb1 hb2 HP HD x0 x1
    go_wp2_with fail
    go_loopw [7, 8, 19] (fun _ _ i wr => ∃ k : Nat, k ≤ len ∧ i = .int .i64 k ∧ Hid (∀ i, i < k → dA l i = cA m ((i + T) % m.length)) ∧ Below w.heap.size w wr) (fun _ _ i _ => len - (intOf i).toNat)
    case atStart => exact ⟨0, by omega, rfl, Lib.hid (fun i h => absurd h (by omega)), B2⟩
    case round =>
      clear B2
      obtain ⟨k, hk, rfl, HY, hbe⟩ := hrel
      by_cases hlt : k < len
      · have hkl : k < l.length := by have := HL.out; omega
        obtain ⟨hm1, hm2, hj⟩ := remQ (a := k + T) (n := len2) (by omega)
        obtain ⟨j, hje⟩ : ∃ j, (k + T) % len2 = j := ⟨_, rfl⟩
        rw [hje] at hm1 hm2 hj
        have HJ : Hid ((k + T) % m.length = j) := Lib.hid (by rw [HL2.out]; exact hje)
        have hm1 : ((k : Int) + (T : Int)).tmod (len2 : Int) = (j : Int) := hm1
        have hm2 : ((k : Int) + (T : Int)) % (len2 : Int) = (j : Int) := hm2
        have hjl : j < m.length := by have := HL2.out; omega
        have hjI : (j : Int) < (len2 : Int) := by omega
        have hwj : IntKind.i64.wrap (j : Int) = (j : Int) := IntWalk.i64_in _ (by omega)
        have hln : ¬ (len2 : Int) = 0 := by omega
        have hln' : ¬ len2 = 0 := by omega
        have hw1 : IntKind.i64.wrap ((k : Int) + (T : Int)) = (k : Int) + (T : Int) := IntWalk.i64_in _ (by omega)
        obtain ⟨u0, u1⟩ := HC.out k _ _ (cA_some hkl)
        obtain ⟨y0, y1⟩ := HC2.out j _ _ (cA_some hjl)
        have u0 := cellThru hbe hbb u0
        have u1 := cellThru hbe hbb u1
        have hbw : b < wr.heap.size := Nat.lt_of_lt_of_le hbb hbe.size
        have hbw2 : b2 < wr.heap.size := Nat.lt_of_lt_of_le hbb2 hbe.size
        have S0 : TwoQ w ⟨wr.heap.size, 0, none⟩ ⟨wr.heap.size, 1, none⟩ ⟨b2, off2 + j * 2, none⟩ ⟨b2, off2 + j * 2 + 1, none⟩ (cA l k).1 (cA l k).2 (cA m j).1 (cA m j).2 (wr.alloc (.cells #[.int .i64 (cA l k).1, .int .i64 (cA l k).2] 24)) :=
          ⟨belowAlloc hbe _, by simp, by simp, by simp; omega, by simp; omega, by simp [go_sem], by simp [go_sem], cellThru (belowAlloc (Below.refl _ _) _) hbw2 (cellThru hbe hbb2 y0), cellThru (belowAlloc (Below.refl _ _) _) hbw2 (cellThru hbe hbb2 y1)⟩
        have hp := isAng_yes (cA_ang HA.out hkl)
        have HD : Hid (∀ w, Calls Try.prog 121 #[ang (cA l k).1 (cA l k).2] w fun e w' => e = .returned (ang (dA l k).1 (dA l k).2) ∧ Below w.heap.size w w') := Lib.hid (fun w => implDbl (cA l k).1 (cA l k).2 w (by omega) (by omega) (by omega) (by omega))
        have Q1 := fun W => neqlQ (dA l k).1 (dA l k).2 (cA m j).1 (cA m j).2 W
        have HE : Hid (eqA (dA l k).1 (dA l k).2 (cA m j).1 (cA m j).2 = true ↔ dA l k = cA m ((k + T) % m.length)) := Lib.hid (by
          rw [HJ.out]
          exact eqA_iff4 ..)
        clear y0 y1 hp hje hkl hjl
        obtain ⟨g, hg⟩ : ∃ g, wr.heap.size = g := ⟨_, rfl⟩
        have HG := Lib.hid hg
        cases hq : eqA (dA l k).1 (dA l k).2 (cA m j).1 (cA m j).2
        all_goals
          have HQ := Lib.hid hq
          rw [hq] at Q1
          rw [hg] at S0
          simp only [Bool.not_false, Bool.not_true] at Q1
          clear hq hg
          generalize (cA l k).1 = n' at *
          generalize (cA l k).2 = d' at *
          generalize (dA l k).1 = x' at *
          generalize (dA l k).2 = y' at *
          generalize (cA m j).1 = p at *
          generalize (cA m j).2 = q at *
          go_wp2_with fail
          rw [HG.out]
          refine wp_region_held_drew (S := (TwoQ w ⟨g, 0, none⟩ ⟨g, 1, none⟩ ⟨b2, off2 + j * 2, none⟩ ⟨b2, off2 + j * 2 + 1, none⟩ n' d' p q)) (by kernel_rfl) ?_ (fun hHeld => ?_)
          · exact S0.on (Below.refl _ _).drew
          refine wpAnyH_take (i := 0) (v := ?_) rfl (by kernel_rfl) (by kernel_rfl) (by kernel_rfl) (fun _ _ _ h => h) (Or.inl ⟨by kernel_rfl, ?_⟩) hHeld ?_
          rotate_left
          · intro w hSw; obtain ⟨B, z1, z2, z3, z4, x0, x1, y0, y1⟩ := hSw; first | (go_simp; done) | (go_simp; with_reducible rfl)
          refine wpAnyH_take (i := 2) (v := ?_) rfl (by kernel_rfl) (by kernel_rfl) (by kernel_rfl) (fun _ _ _ h => h) (Or.inl ⟨by kernel_rfl, ?_⟩) hHeld ?_
          rotate_left
          · intro w hSw; obtain ⟨B, z1, z2, z3, z4, x0, x1, y0, y1⟩ := hSw; first | (go_simp; done) | (go_simp; with_reducible rfl)
          refine wpAnyH_take (i := 3) (v := ?_) rfl (by kernel_rfl) (by kernel_rfl) (by kernel_rfl) (fun _ _ _ h => h) (Or.inl ⟨by kernel_rfl, ?_⟩) hHeld ?_
          rotate_left
          · intro w hSw; obtain ⟨B, z1, z2, z3, z4, x0, x1, y0, y1⟩ := hSw; first | (go_simp; done) | (go_simp; with_reducible rfl)
          refine wpAnyH_take (i := 4) (v := ?_) rfl (by kernel_rfl) (by kernel_rfl) (by kernel_rfl) (fun _ _ _ h => h) (Or.inl ⟨by kernel_rfl, ?_⟩) hHeld ?_
          rotate_left
          · intro w hSw; obtain ⟨B, z1, z2, z3, z4, x0, x1, y0, y1⟩ := hSw; first | (go_simp; done) | (go_simp; with_reducible rfl)
          refine wpAnyH_take (i := 5) (v := ?_) rfl (by kernel_rfl) (by kernel_rfl) (by kernel_rfl) (fun _ _ _ h => h) (Or.inl ⟨by kernel_rfl, ?_⟩) hHeld ?_
          rotate_left
          · intro w hSw; obtain ⟨B, z1, z2, z3, z4, x0, x1, y0, y1⟩ := hSw; first | (go_simp; done) | (go_simp; with_reducible rfl)
          refine wpAnyH_take (i := 6) (v := ?_) rfl (by kernel_rfl) (by kernel_rfl) (by kernel_rfl) (fun _ _ _ h => h) (Or.inl ⟨by kernel_rfl, ?_⟩) hHeld ?_
          rotate_left
          · intro w hSw; obtain ⟨B, z1, z2, z3, z4, x0, x1, y0, y1⟩ := hSw; first | (go_simp; done) | (go_simp; with_reducible rfl)
          refine wpAnyH_take (i := 7) (v := ?_) rfl (by kernel_rfl) (by kernel_rfl) (by kernel_rfl) (fun _ _ _ h => h) (Or.inl ⟨by kernel_rfl, ?_⟩) hHeld ?_
          rotate_left
          · intro w hSw; obtain ⟨B, z1, z2, z3, z4, x0, x1, y0, y1⟩ := hSw; first | (go_simp; done) | (go_simp; with_reducible rfl)
          refine wpAnyH_take (i := 8) (v := ?_) rfl (by kernel_rfl) (by kernel_rfl) (by kernel_rfl) (fun _ _ _ h => h) (Or.inl ⟨by kernel_rfl, ?_⟩) hHeld ?_
          rotate_left
          · intro w hSw; obtain ⟨B, z1, z2, z3, z4, x0, x1, y0, y1⟩ := hSw; first | (go_simp; done) | (go_simp; with_reducible rfl)
          refine wpAnyH_take (i := 9) (v := ?_) rfl (by kernel_rfl) (by kernel_rfl) (by kernel_rfl) (fun _ _ _ h => h) (Or.inl ⟨by kernel_rfl, ?_⟩) hHeld ?_
          rotate_left
          · intro w hSw; obtain ⟨B, z1, z2, z3, z4, x0, x1, y0, y1⟩ := hSw; first | (go_simp; done) | (go_simp; with_reducible rfl)
          refine wpAnyH_take (i := 10) (v := ?_) rfl (by kernel_rfl) (by kernel_rfl) (by kernel_rfl) (fun _ _ _ h => h) (Or.inl ⟨by kernel_rfl, ?_⟩) hHeld ?_
          rotate_left
          · intro w hSw; obtain ⟨B, z1, z2, z3, z4, x0, x1, y0, y1⟩ := hSw; first | (go_simp; done) | (go_simp; with_reducible rfl)
          refine wpAnyH_ready (rs := [1]) (by kernel_rfl) (by simp) ?_
          refine AllReadyH.cons rfl (fun K hK => ?_) AllReadyH.nil
          go_simp
          go_wp2_with (go_at_call 121; (with_reducible refine (HD.out _).mono ?_); rintro e w1 ⟨rfl, hb1⟩)
          have S1 := hHeld.on hb1
          refine hK.out _ _ ?_ (fun hHeld => ?_)
          · exact S1
          clear hK K
          refine wpAnyH_take (i := 11) (v := ?_) rfl (by kernel_rfl) (by kernel_rfl) (by kernel_rfl) (fun _ _ _ h => h) (Or.inl ⟨by kernel_rfl, ?_⟩) hHeld ?_
          rotate_left
          · intro w hSw; obtain ⟨B, z1, z2, z3, z4, x0, x1, y0, y1⟩ := hSw; first | (go_simp; done) | (go_simp; with_reducible rfl)
          refine wpAnyH_done (by kernel_rfl) ?_ _
          have B5 := S1.B
          clear S0 S1
          go_wp2
        · go_ret2
          refine ⟨.inr ⟨?_, rfl⟩, B5⟩
          rintro ⟨t, ht, h1, h2⟩
          have e : t = T := by rw [← h1]; exact HT.out
          subst e
          have := HE.out.2 (h2 k (by have := HL.out; omega))
          rw [HQ.out] at this; cases this
        · go_roundw
          case rel =>
            refine ⟨k + 1, by omega, by go_num, Lib.hid (fun i hi => ?_), B5⟩
            by_cases e : i = k
            · subst e; exact HE.out.1 HQ.out
            · exact HY.out i (by omega)
          case measure => simp [intOf]; omega
      · obtain rfl : k = len := by omega
        go_wp2
        go_ret2
        exact ⟨.inl ⟨T, ⟨by have := HL2.out; omega, HT.out, fun i hi => HY.out i (by have := HL.out; omega)⟩, rfl⟩, hbe⟩
  · rw [plcI_no hin] at HP
    have HN : Hid (¬ ∃ t, Turned l m t) := Lib.hid (by
      rintro ⟨t, ht, h1, h2⟩
      exact hin (by omega))
    clear hin
    generalize (cA l 0).1 = n at *
    generalize (cA l 0).2 = d at *
    generalize (dA l 0).1 = x at *
    generalize (dA l 0).2 = y at *
    go_enter Try.func87, Try.ntmps87
    go_wp2_with fail
    refine (HD.out _).mono ?_
    rintro e w1 ⟨rfl, hb1⟩
    go_wp2_with fail
    refine (HP.out _ hb1).mono ?_
    rintro e w2 ⟨rfl, hb2⟩
    go_wp2
    go_ret2
    exact ⟨.inr ⟨HN.out, rfl⟩, belowNext hb1 hb2⟩
end Go.Proofs.Ytlmgpecfbpcgaaa

/-
  Contracts: the place of an angle, on both sides; whether doubling leads a set to another one (the model's); written by genQ3.py.
-/
import Derived.Test.YtlmgpecfbpcgaaaQ2
import Derived.Test.YtlmgpecfbpcgaaaW7
import Derived.BigQuiet
import Derived.OwnWalk
namespace Go.Proofs.Ytlmgpecfbpcgaaa
open Go.RowKit

set_option maxHeartbeats 1000000 in
theorem idxQ (A : Option Addr) (len cap : Nat) (l : List (Int × Int)) (n d : Int) (w : World) (hr : AngRow w w.heap.size A l) (hl : l.length = len) (hm : len ≤ 1000000000000) :
    Calls Try.prog 120 #[.slice A len cap, ang n d] w fun e w' => e = .returned (.int .i64 (plcI l (n, d))) ∧ Below w.heap.size w w' := by
  have HR := Lib.hid hr
  have HL := Lib.hid hl
  clear hr hl
  go_enter Try.func120, Try.ntmps120
  go_wp2
  go_loopw [8] (fun i wr => ∃ k : Nat, k ≤ len ∧ i = .int .i64 k ∧ Hid (∀ j, j < k → cA l j ≠ (n, d)) ∧ ∃ q, wr = (w.alloc (.cells #[.int .i64 n, .int .i64 d] 24)).drewN q) (fun i _ => len - (intOf i).toNat)
  case atStart => exact ⟨0, by omega, rfl, Lib.hid (fun j h => absurd h (by omega)), 0, rfl⟩
  case round =>
    obtain ⟨k, hk, rfl, HY, q, rfl⟩ := hrel
    by_cases hlt : k < len
    · have hkl : k < l.length := by have := HL.out; omega
      obtain ⟨a, b, hnd⟩ : ∃ a b, cA l k = (a, b) := ⟨_, _, rfl⟩
      have hk2 : l[k]? = some (a, b) := by rw [cA_some hkl, hnd]
      have hne : l ≠ [] := by intro h; rw [h] at hkl; simp at hkl
      obtain ⟨g, off, rfl, hbb, hcells⟩ := HR.out hne
      obtain ⟨x0, x1⟩ := hcells k a b hk2
      have Q1 := fun W => eqlAng n d a b W
      have HK := Lib.hid hnd
      clear hcells hk2 hne hnd
      cases hq : eqA n d a b
      · rw [hq] at Q1
        have HQ : Hid (cA l k ≠ (n, d)) := Lib.hid (fun h => by rw [HK.out] at h; simp only [Prod.mk.injEq] at h; obtain ⟨rfl, rfl⟩ := h; simp [eqA] at hq)
        clear hq
        go_wp2_with fail
        go_quiet (fail)
        go_wp2
        go_roundw
        case rel =>
          refine ⟨k + 1, by omega, by go_num, Lib.hid (fun j hj => ?_), _, rfl⟩
          by_cases hjk : j = k
          · subst hjk; exact HQ.out
          · exact HY.out j (by omega)
        case measure => simp [intOf]; omega
      · rw [hq] at Q1
        have HQ : Hid (plcI l (n, d) = (k : Int)) := Lib.hid (by
          have he : cA l k = (n, d) := by rw [HK.out]; simp [eqA] at hq; obtain ⟨rfl, rfl⟩ := hq; rfl
          have hp := plc_stop hkl HY.out he
          rw [plcI_yes (by omega), hp])
        clear hq
        go_wp2_with fail
        go_quiet (fail)
        go_wp2
        go_ret
        refine ⟨by rw [HQ.out]; rfl, ?_⟩
        (repeat' (first | (with_reducible exact Below.refl _ _) | (with_reducible assumption) | (with_reducible refine belowNext ?_ (by with_reducible assumption)) | (with_reducible refine belowAlloc ?_ _) | (with_reducible refine Below.drew ?_) | (with_reducible refine below_drewN ?_ _) | (with_reducible refine Below.setCell ?_ ?_ _) | go_size | (with_reducible refine sizeOf' ?_) | (with_reducible refine sizeAdd ?_) | (dsimp only; first | (with_reducible refine sizeOf' ?_) | (with_reducible refine sizeAdd ?_))))
    · obtain rfl : k = len := by omega
      have HQ : Hid (plcI l (n, d) = -1) := Lib.hid (plcI_no (by have h := plc_end (l := l) (p := (n, d)) (fun j hj => HY.out j (by have := HL.out; omega)); omega))
      go_wp2
      go_ret
      refine ⟨by rw [HQ.out]; rfl, ?_⟩
      (repeat' (first | (with_reducible exact Below.refl _ _) | (with_reducible assumption) | (with_reducible refine belowNext ?_ (by with_reducible assumption)) | (with_reducible refine belowAlloc ?_ _) | (with_reducible refine Below.drew ?_) | (with_reducible refine below_drewN ?_ _) | (with_reducible refine Below.setCell ?_ ?_ _) | go_size | (with_reducible refine sizeOf' ?_) | (with_reducible refine sizeAdd ?_) | (dsimp only; first | (with_reducible refine sizeOf' ?_) | (with_reducible refine sizeAdd ?_))))

set_option maxHeartbeats 1000000 in
theorem placeQ (A : Option Addr) (len cap : Nat) (l : List (Int × Int)) (n d : Int) (w : World) (hr : AngRow w w.heap.size A l) (hl : l.length = len) (hm : len ≤ 1000000000000) :
    Calls Try.prog 84 #[.slice A len cap, ang n d] w fun e w' => e = .returned (.int .i64 (plcI l (n, d))) ∧ Below w.heap.size w w' := by
  have HR := Lib.hid hr
  have HL := Lib.hid hl
  clear hr hl
  go_enter Try.func84, Try.ntmps84
  go_wp2
  go_loopw [5] (fun i wr => ∃ k : Nat, k ≤ len ∧ i = .int .i64 k ∧ Hid (∀ j, j < k → cA l j ≠ (n, d)) ∧ ∃ q, wr = (w.alloc (.cells #[.int .i64 n, .int .i64 d] 24)).drewN q) (fun i _ => len - (intOf i).toNat)
  case atStart => exact ⟨0, by omega, rfl, Lib.hid (fun j h => absurd h (by omega)), 0, rfl⟩
  case round =>
    obtain ⟨k, hk, rfl, HY, q, rfl⟩ := hrel
    by_cases hlt : k < len
    · have hkl : k < l.length := by have := HL.out; omega
      obtain ⟨a, b, hnd⟩ : ∃ a b, cA l k = (a, b) := ⟨_, _, rfl⟩
      have hk2 : l[k]? = some (a, b) := by rw [cA_some hkl, hnd]
      have hne : l ≠ [] := by intro h; rw [h] at hkl; simp at hkl
      obtain ⟨g, off, rfl, hbb, hcells⟩ := HR.out hne
      obtain ⟨x0, x1⟩ := hcells k a b hk2
      have Q1 := fun W => eqlAng a b n d W
      have HK := Lib.hid hnd
      clear hcells hk2 hne hnd
      cases hq : eqA a b n d
      · rw [hq] at Q1
        have HQ : Hid (cA l k ≠ (n, d)) := Lib.hid (fun h => by rw [HK.out] at h; simp only [Prod.mk.injEq] at h; obtain ⟨rfl, rfl⟩ := h; simp [eqA] at hq)
        clear hq
        go_wp2_with fail
        go_quiet (fail)
        go_wp2
        go_roundw
        case rel =>
          refine ⟨k + 1, by omega, by go_num, Lib.hid (fun j hj => ?_), _, rfl⟩
          by_cases hjk : j = k
          · subst hjk; exact HQ.out
          · exact HY.out j (by omega)
        case measure => simp [intOf]; omega
      · rw [hq] at Q1
        have HQ : Hid (plcI l (n, d) = (k : Int)) := Lib.hid (by
          have he : cA l k = (n, d) := by rw [HK.out]; simp [eqA] at hq; obtain ⟨rfl, rfl⟩ := hq; rfl
          have hp := plc_stop hkl HY.out he
          rw [plcI_yes (by omega), hp])
        clear hq
        go_wp2_with fail
        go_quiet (fail)
        go_wp2
        go_ret
        refine ⟨by rw [HQ.out]; rfl, ?_⟩
        (repeat' (first | (with_reducible exact Below.refl _ _) | (with_reducible assumption) | (with_reducible refine belowNext ?_ (by with_reducible assumption)) | (with_reducible refine belowAlloc ?_ _) | (with_reducible refine Below.drew ?_) | (with_reducible refine below_drewN ?_ _) | (with_reducible refine Below.setCell ?_ ?_ _) | go_size | (with_reducible refine sizeOf' ?_) | (with_reducible refine sizeAdd ?_) | (dsimp only; first | (with_reducible refine sizeOf' ?_) | (with_reducible refine sizeAdd ?_))))
    · obtain rfl : k = len := by omega
      have HQ : Hid (plcI l (n, d) = -1) := Lib.hid (plcI_no (by have h := plc_end (l := l) (p := (n, d)) (fun j hj => HY.out j (by have := HL.out; omega)); omega))
      go_wp2
      go_ret
      refine ⟨by rw [HQ.out]; rfl, ?_⟩
      (repeat' (first | (with_reducible exact Below.refl _ _) | (with_reducible assumption) | (with_reducible refine belowNext ?_ (by with_reducible assumption)) | (with_reducible refine belowAlloc ?_ _) | (with_reducible refine Below.drew ?_) | (with_reducible refine below_drewN ?_ _) | (with_reducible refine Below.setCell ?_ ?_ _) | go_size | (with_reducible refine sizeOf' ?_) | (with_reducible refine sizeAdd ?_) | (dsimp only; first | (with_reducible refine sizeOf' ?_) | (with_reducible refine sizeAdd ?_))))

theorem madeFalseQ (n j : Nat) (h : j < n) : (madeCells (Value.bool false).cells (n * 1)).toList[j]? = some (.bool false) := by
  simp [madeCells, Value.cells, h, Nat.mod_one]
theorem infoBQ : (Try.prog.info? 4).map (fun i => (i.zero, i.size, i.bytes)) = some (some (.bool false), 1, 1) := by kernel_rfl
/-- Which places of m the first k doubles of l have met. -/
def metB (l m : List (Int × Int)) (k j : Nat) : Bool := (List.range k).any fun i => decide (plc m (dA l i) = j)
theorem metB_succ (l m : List (Int × Int)) (k j : Nat) : metB l m (k + 1) j = (metB l m k j || decide (plc m (dA l k) = j)) := by
  unfold metB
  rw [List.range_succ, List.any_append]
  simp
theorem metB_iff {l m : List (Int × Int)} {k j : Nat} : metB l m k j = true ↔ ∃ i, i < k ∧ plc m (dA l i) = j := by
  unfold metB
  rw [List.any_eq_true]
  constructor
  · rintro ⟨i, hi, h⟩
    exact ⟨i, List.mem_range.1 hi, of_decide_eq_true h⟩
  · rintro ⟨i, hi, h⟩
    exact ⟨i, List.mem_range.2 hi, decide_eq_true h⟩
/-- What holds when k angles have been led on: the marks lie in the block U. -/
structure LedI (w : World) (U : Nat) (l m : List (Int × Int)) (k : Nat) (W : World) : Prop where
  B : Below w.heap.size w W
  lo : w.heap.size ≤ U
  z : U < W.heap.size
  met : ∀ j, j < m.length → W.cell? ⟨U, j, none⟩ = some (.bool (metB l m k j))
  free : ∀ o, W.frozen? ⟨U, o, none⟩ = false
theorem LedI.on {w W W1 : World} {U k : Nat} {l m : List (Int × Int)} (H : LedI w U l m k W) (hb : Below W.heap.size W W1) : LedI w U l m k W1 :=
  ⟨belowNext H.B hb, H.lo, Nat.lt_of_lt_of_le H.z hb.size, fun j hj => cellThru hb H.z (H.met j hj), fun o => frozThru hb H.z (H.free o)⟩
theorem LedI.put {w W : World} {U k p : Nat} {l m : List (Int × Int)} (H : LedI w U l m k W) (hp : plc m (dA l k) = p) (hpm : p < m.length) : LedI w U l m (k + 1) (W.setCell ⟨U, p, none⟩ (.bool true)) := by
  refine ⟨H.B.setCell H.lo _, H.lo, by simpa using H.z, fun j hj => ?_, fun o => by simpa using H.free o⟩
  rw [metB_succ]
  by_cases e : j = p
  · subst e
    rw [World.cell?_setCell_same _ _ _ (H.met _ hj), hp]
    simp
  · rw [World.cell?_setCell_other _ _ _ _ (by first | (simp; done) | simpa using e), H.met j hj, hp]
    have : decide (p = j) = false := decide_eq_false (fun h => e h.symm)
    rw [this, Bool.or_false]

set_option maxRecDepth 8000 in
set_option maxHeartbeats 2000000 in
theorem specLed (A : Option Addr) (len cap : Nat) (l : List (Int × Int)) (B : Option Addr) (len2 cap2 : Nat) (m : List (Int × Int)) (w : World) (hr : AngRow w w.heap.size A l) (hl : l.length = len) (hm : len ≤ 1000000) (ha : allAng l = true) (hr2 : AngRow w w.heap.size B m) (hl2 : m.length = len2) (hm2 : len2 ≤ 1000000) :
    Calls Try.prog 82 #[.slice A len cap, .slice B len2 cap2] w (ResYesQ w (LedP l m)) := by
  obtain ⟨j0, ji, jz0, jz1, jz2⟩ := infoAg_parts infoBQ
  have HR := Lib.hid hr
  have HL := Lib.hid hl
  have HL2 := Lib.hid hl2
  have HA := Lib.hid ha
  have HP := Lib.hid (fun W (hB : Below w.heap.size w W) n d => placeQ B len2 cap2 m n d W ((hr2.below hB).more hB.size) hl2 (by omega))
  clear hr hl hl2 ha hr2
  go_enter Try.func82, Try.ntmps82
  go_wp2_with (at_make; refine wpList_make_full _ rfl _ _ 128 rfl w.heap.size 4 j0 (.bool false) 1 Try.underlying128 ji jz0 jz1 .i64 .i64 _ _ len2 rfl rfl rfl rfl (by rw [jz2]; omega) (by unfold maxLen; omega) (by omega) ?_; intro w2 hown2 hgrow2)
  obtain ⟨U, hU⟩ : ∃ U, w.heap.size = U := ⟨_, rfl⟩
  have S0 : LedI w U l m 0 w2 := by
    rw [← hU]
    refine ⟨belowGrownA hgrow2, Nat.le_refl _, ?_, fun j hj => ?_, fun o => hown2.frozenAt o⟩
    · rcases hown2.2 with ⟨hv, _⟩ | ⟨g0, c0, cur, hv, _, hh, _⟩
      · cases hv
      · injection hv with hv
        injection hv with hv
        injection hv with hv
        rw [← hv] at hh
        rcases Nat.lt_or_ge w.heap.size w2.heap.size with h1 | h1
        · exact h1
        · rw [Array.getElem?_eq_none h1] at hh; cases hh
    · have e := hown2.cellAt j (by have := HL2.out; omega)
      rw [e, madeFalseQ _ _ (by have := HL2.out; omega)]
      rfl
  rw [hU] at hown2 ⊢
  clear hown2 hgrow2
  go_wp2_with fail
  go_loopw [6, 7] (fun i _ wr => ∃ k : Nat, k ≤ len ∧ i = .int .i64 k ∧ Hid ((∀ i, i < k → plc m (dA l i) < m.length) ∧ (∀ i j, i < j → j < k → plc m (dA l i) ≠ plc m (dA l j))) ∧ LedI w U l m k wr) (fun i _ _ => len - (intOf i).toNat)
  case atStart => exact ⟨0, by omega, rfl, Lib.hid ⟨fun i h => absurd h (by omega), fun i j _ h => absurd h (by omega)⟩, S0⟩
  case round =>
    clear S0 hU
    obtain ⟨k, hk, rfl, HY, S⟩ := hrel
    by_cases hlt : k < len
    · have hkl : k < l.length := by have := HL.out; omega
      obtain ⟨b, off, rfl, hbb, hcells⟩ := HR.out (by rintro rfl; simp at hkl)
      obtain ⟨x0, x1⟩ := hcells k _ _ (cA_some hkl)
      have x0 := cellThru S.B hbb x0
      have x1 := cellThru S.B hbb x1
      have hp := isAng_yes (cA_ang HA.out hkl)
      have HD := Lib.hid (fun w => specDbl (cA l k).1 (cA l k).2 w (by omega) (by omega) (by omega) (by omega))
      have hbw : b < wr.heap.size := Nat.lt_of_lt_of_le hbb S.B.size
      have HPk := Lib.hid (fun W (hB : Below w.heap.size w W) => HP.out W hB (dA l k).1 (dA l k).2)
      have HE : Hid (∀ j, metB l m k j = true ↔ ∃ i, i < k ∧ plc m (dA l i) = j) := Lib.hid (fun j => metB_iff)
      have e1 : (redN (2 * (cA l k).1) (cA l k).2) = (dA l k).1 := rfl
      have e2 : (redD (2 * (cA l k).1) (cA l k).2) = (dA l k).2 := rfl
      rw [e1, e2] at HD
      clear e1 e2 hcells hp
      generalize (cA l k).1 = n at *
      generalize (cA l k).2 = d at *
      by_cases hin : plc m (dA l k) < m.length
      · have HI := Lib.hid (plcI_yes hin)
        rw [show ((dA l k).1, (dA l k).2) = dA l k from rfl, HI.out] at HPk
        have HPut := Lib.hid (fun W (H : LedI w U l m k W) => H.put rfl hin)
        obtain ⟨p, hpe⟩ : ∃ p, plc m (dA l k) = p := ⟨_, rfl⟩
        have HPE := Lib.hid hpe
        rw [hpe] at HPk HPut hin
        have hin2 : p < len2 := by have := HL2.out; omega
        have HIN := Lib.hid hin
        have HEp := Lib.hid (HE.out p)
        clear HI hpe hin
        generalize (dA l k).1 = x at *
        generalize (dA l k).2 = y at *
        cases hmt : metB l m k p
        · have HN : Hid (∀ i, i < k → plc m (dA l i) ≠ p) := Lib.hid (fun i hi h => by
            have := HEp.out.2 ⟨i, hi, h⟩
            rw [hmt] at this; cases this)
          go_wp2_with fail
          refine (HD.out _).mono ?_
          rintro e w3 ⟨rfl, hb3⟩
          have S3 := S.on hb3
          clear S hb3 x0 x1
          go_wp2_with fail
          refine (HPk.out _ S3.B).mono ?_
          rintro e w4 ⟨rfl, hb4⟩
          have S4 := S3.on hb4
          clear S3 hb4
          have y0 := S4.met p HIN.out
          rw [hmt] at y0
          have f0 := S4.free p
          have hz4 := S4.z
          have S5 := HPut.out _ S4
          clear S4
          go_wp2
          go_roundw
          case rel =>
            refine ⟨k + 1, by omega, by go_num, Lib.hid ⟨fun i hi => ?_, fun i j hij hj => ?_⟩, S5⟩
            · by_cases e : i = k
              · subst e; rw [HPE.out]; exact HIN.out
              · exact HY.out.1 i (by omega)
            · by_cases e : j = k
              · subst e; rw [HPE.out]; exact HN.out i (by omega)
              · exact HY.out.2 i j hij (by omega)
          case measure => simp [intOf]; omega
        · have HN : Hid (¬ LedP l m) := Lib.hid (fun h => by
            obtain ⟨i, hi, he⟩ := HEp.out.1 hmt
            exact h.2.1 i k hi (by have := HL.out; omega) (by rw [he, HPE.out]))
          go_wp2_with fail
          refine (HD.out _).mono ?_
          rintro e w3 ⟨rfl, hb3⟩
          have S3 := S.on hb3
          clear S hb3 x0 x1
          go_wp2_with fail
          refine (HPk.out _ S3.B).mono ?_
          rintro e w4 ⟨rfl, hb4⟩
          have S4 := S3.on hb4
          clear S3 hb4
          have y0 := S4.met p HIN.out
          rw [hmt] at y0
          have hz4 := S4.z
          go_wp2
          go_ret
          exact ⟨⟨false, rfl, Lib.hid ⟨fun h => (by cases h), fun h => absurd h HN.out⟩⟩, S4.B⟩
      · have HI := Lib.hid (plcI_no hin)
        rw [show ((dA l k).1, (dA l k).2) = dA l k from rfl, HI.out] at HPk
        have HN : Hid (¬ LedP l m) := Lib.hid (fun h => hin (h.1 k (by have := HL.out; omega)))
        clear HI hin
        generalize (dA l k).1 = x at *
        generalize (dA l k).2 = y at *
        go_wp2_with fail
        refine (HD.out _).mono ?_
        rintro e w3 ⟨rfl, hb3⟩
        have S3 := S.on hb3
        clear S hb3 x0 x1
        go_wp2_with fail
        refine (HPk.out _ S3.B).mono ?_
        rintro e w4 ⟨rfl, hb4⟩
        have S4 := S3.on hb4
        clear S3 hb4
        go_wp2
        go_ret
        exact ⟨⟨false, rfl, Lib.hid ⟨fun h => (by cases h), fun h => absurd h HN.out⟩⟩, S4.B⟩
    · obtain rfl : k = len := by omega
      by_cases he : k = len2
      · have HQ : Hid (LedP l m) := Lib.hid ⟨fun i hi => HY.out.1 i (by have := HL.out; omega), fun i j hij hj => HY.out.2 i j hij (by have := HL.out; omega), by rw [HL.out, HL2.out, he]⟩
        have d1 : ((k : Int) == (len2 : Int)) = true := by rw [he]; simp
        go_wp2
        go_ret
        exact ⟨⟨_, rfl, Lib.hid ⟨fun _ => HQ.out, fun _ => rfl⟩⟩, S.B⟩
      · have HQ : Hid (¬ LedP l m) := Lib.hid (fun h => he (by have := h.2.2; have := HL.out; have := HL2.out; omega))
        have d1 : ((k : Int) == (len2 : Int)) = false := by simp; omega
        go_wp2
        go_ret
        exact ⟨⟨_, rfl, Lib.hid ⟨fun h => (by cases h), fun h => absurd h HQ.out⟩⟩, S.B⟩
end Go.Proofs.Ytlmgpecfbpcgaaa

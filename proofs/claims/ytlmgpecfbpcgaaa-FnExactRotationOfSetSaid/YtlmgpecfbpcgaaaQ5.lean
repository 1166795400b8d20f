/-
  Contracts: RotationOfSet, on both sides; written by genQ5.py.
-/
import Derived.Test.YtlmgpecfbpcgaaaQ4
namespace Go.Proofs.Ytlmgpecfbpcgaaa
open Go.RowKit

set_option maxHeartbeats 1000000 in
theorem implIsSet (A : Option Addr) (len cap : Nat) (l : List (Int × Int)) (w : World) (hr : AngRow w w.heap.size A l) (hl : l.length = len) (hm : len ≤ 1000000000000) (hA : allAng l = true) :
    Calls Try.prog 86 #[.slice A len cap] w (ResYesQ w (0 < len ∧ AscQ l)) := by
  have HC := Lib.hid (fun W (hB : Below w.heap.size w W) => implAscQ A len cap l W ((hr.below hB).more hB.size) hl hm hA)
  clear hr hl hA
  by_cases h0 : 0 < len
  · have h0' : (0 : Int) < (len : Int) := by omega
    go_enter Try.func86, Try.ntmps86
    go_wp2_with fail
    refine (HC.out _ (Below.refl _ _)).mono ?_
    rintro e w1 ⟨⟨r, rfl, HE⟩, hb1⟩
    go_wp2
    go_ret
    exact ⟨⟨r, rfl, Lib.hid (HE.out.trans ⟨fun h => ⟨h0, h⟩, fun h => And.right h⟩)⟩, hb1⟩
  · have h0' : ¬ (0 : Int) < (len : Int) := by omega
    go_enter Try.func86, Try.ntmps86
    go_wp2
    go_ret
    exact ⟨⟨false, rfl, Lib.hid (by first | exact ⟨fun h => (by cases h), fun h => absurd h.1 h0⟩ | exact ⟨fun h => (by cases h), fun h => h.elim⟩)⟩, Below.refl _ _⟩

/-- What RotationOfSet answers. -/
def RsIs (l : List (Int × Int)) (R C : Int) : Prop :=
  (allAng l = false ∧ R = 0 ∧ C = 1) ∨ (allAng l = true ∧ (l.length = 0 ∨ 64 < l.length ∨ ¬ AscQ l) ∧ R = 0 ∧ C = 2) ∨
    (allAng l = true ∧ 0 < l.length ∧ l.length ≤ 64 ∧ AscQ l ∧ (¬ ∃ t, Turned l l t) ∧ R = 0 ∧ C = 5) ∨
    (∃ t : Nat, allAng l = true ∧ 0 < l.length ∧ l.length ≤ 64 ∧ AscQ l ∧ Turned l l t ∧ R = (t : Int) ∧ C = 0)
theorem rs_ex (l : List (Int × Int)) : ∃ R C, RsIs l R C := by
  cases e : allAng l
  · exact ⟨0, 1, .inl ⟨e, rfl, rfl⟩⟩
  · by_cases h : l.length = 0 ∨ 64 < l.length ∨ ¬ AscQ l
    · exact ⟨0, 2, .inr (.inl ⟨e, h, rfl, rfl⟩)⟩
    · have h3 : AscQ l := Classical.byContradiction fun g => h (.inr (.inr g))
      have h1 : 0 < l.length ∧ l.length ≤ 64 := by
        constructor
        · rcases Nat.eq_zero_or_pos l.length with g | g
          · exact absurd (.inl g) h
          · exact g
        · rcases Nat.lt_or_ge 64 l.length with g | g
          · exact absurd (.inr (.inl g)) h
          · exact g
      by_cases ht : ∃ t, Turned l l t
      · obtain ⟨t, ht⟩ := ht
        exact ⟨t, 0, .inr (.inr (.inr ⟨t, e, h1.1, h1.2, h3, ht, rfl, rfl⟩))⟩
      · exact ⟨0, 5, .inr (.inr (.inl ⟨e, h1.1, h1.2, h3, ht, rfl, rfl⟩))⟩
theorem turned_one {l m : List (Int × Int)} {t s : Nat} (h : Turned l m t) (g : Turned l m s) : t = s := by
  rw [← h.2.1, g.2.1]

set_option maxRecDepth 8000 in
set_option maxHeartbeats 2000000 in
theorem implRotOf (A : Option Addr) (len cap : Nat) (l : List (Int × Int)) (w : World) (hr : AngRow w w.heap.size A l) (hl : l.length = len) (hm : len ≤ 1100000) (R C : Int) (h : RsIs l R C) :
    Calls Try.prog 43 #[.slice A len cap] w fun e w' => e = .returned (.tuple #[.int .i64 R, .int .i64 C]) ∧ Below w.heap.size w w' := by
  have HA := Lib.hid (areAng A len cap l w hr hl (by omega))
  have HS := Lib.hid (fun W (hB : Below w.heap.size w W) (ha : allAng l = true) => implIsSet A len cap l W ((hr.below hB).more hB.size) hl (by omega) ha)
  have HT := Lib.hid (fun W (hB : Below w.heap.size w W) (ha : allAng l = true) (h0 : 0 < len) (h64 : len ≤ 64) => implTurn A len cap l A len cap l W ((hr.below hB).more hB.size) hl (by omega) ha ((hr.below hB).more hB.size) hl (by omega) h0)
  have HL := Lib.hid hl
  clear hr hl
  rcases h with ⟨ha, rfl, rfl⟩ | ⟨ha, h, rfl, rfl⟩ | ⟨ha, h0, h64, hs, ht, rfl, rfl⟩ | ⟨t, ha, h0, h64, hs, ht, rfl, rfl⟩
  · rw [ha] at HA
    clear ha HS HT
    go_enter Try.func43, Try.ntmps43
    go_wp2_with fail
    refine HA.out.mono ?_
    rintro e w1 ⟨rfl, hb1⟩
    go_wp2
    go_ret2
    exact ⟨rfl, hb1⟩
  · rw [ha] at HA
    have HS := Lib.hid (fun W hB => HS.out W hB ha)
    by_cases h64 : 64 < len
    · have n1 : (64 : Int) < (len : Int) := by omega
      clear ha HS HT h
      go_enter Try.func43, Try.ntmps43
      go_wp2_with fail
      refine HA.out.mono ?_
      rintro e w1 ⟨rfl, hb1⟩
      go_wp2
      go_ret2
      exact ⟨rfl, hb1⟩
    · have n1 : ¬ (64 : Int) < (len : Int) := by omega
      have HN : Hid (¬ (0 < len ∧ AscQ l)) := Lib.hid (fun g => by
        have := HL.out
        rcases h with h | h | h
        · omega
        · omega
        · exact h g.2)
      clear ha HT h
      go_enter Try.func43, Try.ntmps43
      go_wp2_with fail
      refine HA.out.mono ?_
      rintro e w1 ⟨rfl, hb1⟩
      go_wp2_with fail
      refine (HS.out _ hb1).mono ?_
      rintro e w2 ⟨⟨r, rfl, HE⟩, hb2⟩
      have hr : r = false := by
        cases r
        · rfl
        · exact absurd (HE.out.1 rfl) HN.out
      subst hr
      go_wp2
      go_ret2
      exact ⟨rfl, belowNext hb1 hb2⟩
  · have hl64 : len ≤ 64 := by have := HL.out; omega
    have hl0 : 0 < len := by have := HL.out; omega
    rw [ha] at HA
    have HS := Lib.hid (fun W hB => HS.out W hB ha)
    have HT := Lib.hid (fun W hB => HT.out W hB ha hl0 hl64)
    have HN := Lib.hid ht
    have HY : Hid (0 < len ∧ AscQ l) := Lib.hid ⟨hl0, hs⟩
    have n1 : ¬ (64 : Int) < (len : Int) := by omega
    clear ha h0 h64 hs ht hl0 hl64
    go_enter Try.func43, Try.ntmps43
    go_wp2_with fail
    refine HA.out.mono ?_
    rintro e w1 ⟨rfl, hb1⟩
    go_wp2_with fail
    refine (HS.out _ hb1).mono ?_
    rintro e w2 ⟨⟨r, rfl, HE⟩, hb2⟩
    have B2 := belowNext hb1 hb2
    have hr : r = true := HE.out.2 HY.out
    subst hr
    clear hb1 hb2
    go_wp2_with fail
    refine (HT.out _ B2).mono ?_
    rintro e w3 ⟨⟨s, h1, rfl⟩ | ⟨-, rfl⟩, hb3⟩
    · exact absurd ⟨s, h1⟩ HN.out
    · go_wp2
      go_ret2
      exact ⟨rfl, belowNext B2 hb3⟩
  · have hl64 : len ≤ 64 := by have := HL.out; omega
    have hl0 : 0 < len := by have := HL.out; omega
    rw [ha] at HA
    have HS := Lib.hid (fun W hB => HS.out W hB ha)
    have HT := Lib.hid (fun W hB => HT.out W hB ha hl0 hl64)
    have HN := Lib.hid ht
    have HY : Hid (0 < len ∧ AscQ l) := Lib.hid ⟨hl0, hs⟩
    have n1 : ¬ (64 : Int) < (len : Int) := by omega
    clear ha h0 h64 hs ht hl0 hl64
    go_enter Try.func43, Try.ntmps43
    go_wp2_with fail
    refine HA.out.mono ?_
    rintro e w1 ⟨rfl, hb1⟩
    go_wp2_with fail
    refine (HS.out _ hb1).mono ?_
    rintro e w2 ⟨⟨r, rfl, HE⟩, hb2⟩
    have B2 := belowNext hb1 hb2
    have hr : r = true := HE.out.2 HY.out
    subst hr
    clear hb1 hb2
    go_wp2_with fail
    refine (HT.out _ B2).mono ?_
    rintro e w3 ⟨⟨s, h1, rfl⟩ | ⟨h1, rfl⟩, hb3⟩
    · obtain rfl := turned_one HN.out h1
      go_wp2
      go_ret2
      exact ⟨rfl, belowNext B2 hb3⟩
    · exact absurd ⟨t, HN.out⟩ h1

/-- The loop that asks whether all are angles: where all are, the walk goes on behind it. -/
theorem allAng_take {l : List (Int × Int)} {k : Nat} {n d : Int} (h : Hid (allAng (l.take k) = true)) (hq : l[k]? = some (n, d)) (hi : isAng n d = true) : Hid (allAng (l.take (k + 1)) = true) := Lib.hid (allAng_next h.out hq hi)

set_option maxRecDepth 8000 in
set_option maxHeartbeats 2000000 in
theorem specRotOf (A : Option Addr) (len cap : Nat) (l : List (Int × Int)) (w : World) (hr : AngRow w w.heap.size A l) (hl : l.length = len) (hm : len ≤ 1100000) (R C : Int) (h : RsIs l R C) :
    Calls Try.prog 41 #[.slice A len cap] w fun e w' => e = .returned (.tuple #[.int .i64 R, .int .i64 C]) ∧ Below w.heap.size w w' := by
  have HR := Lib.hid hr
  have HL := Lib.hid hl
  have H := Lib.hid h
  have HS := Lib.hid (fun W (hB : Below w.heap.size w W) (ha : allAng l = true) => specAscQ A len cap l W ((hr.below hB).more hB.size) hl (by omega) ha)
  have HLe := Lib.hid (fun W (hB : Below w.heap.size w W) (ha : allAng l = true) (h64 : len ≤ 64) => specLed A len cap l A len cap l W ((hr.below hB).more hB.size) hl (by omega) ha ((hr.below hB).more hB.size) hl (by omega))
  have HO := Lib.hid (fun W (hB : Below w.heap.size w W) (ha : allAng l = true) (h64 : len ≤ 64) (hL : LedP l l) => specOrd A len cap l A len cap l W ((hr.below hB).more hB.size) hl (by omega) ha ((hr.below hB).more hB.size) hl hL)
  have HP := Lib.hid (fun W (hB : Below w.heap.size w W) n d => placeQ A len cap l n d W ((hr.below hB).more hB.size) hl (by omega))
  clear hr hl h
  go_enter Try.func41, Try.ntmps41
  go_wp2
  go_loopw [4] (fun i wr => ∃ k : Nat, k ≤ len ∧ i = .int .i64 k ∧ Hid (allAng (l.take k) = true) ∧ Below w.heap.size w wr) (fun i _ => len - (intOf i).toNat)
  case atStart => exact ⟨0, by omega, rfl, Lib.hid rfl, Below.refl _ _⟩
  case round =>
    obtain ⟨k, hk, rfl, HA, hbe⟩ := hrel
    by_cases hlt : k < len
    · obtain ⟨⟨n, d⟩, hq⟩ : ∃ q, l[k]? = some q := ⟨_, List.getElem?_eq_getElem (by have := HL.out; omega)⟩
      obtain ⟨b0, off, rfl, hb0, hc⟩ := HR.out (by rintro rfl; cases hq)
      obtain ⟨x0, x1⟩ := hc k n d hq
      have x0 := cellThru hbe hb0 x0
      have x1 := cellThru hbe hb0 x1
      have HQ := Lib.hid hq
      have HSp := Lib.hid (fun w => specIs1 n d w)
      clear hq hc HS HLe HO HP
      cases hi : isAng n d
      · rw [hi] at HSp
        obtain ⟨rfl, rfl⟩ : R = 0 ∧ C = 1 := by
          have hno := allAng_no HQ.out hi
          rcases H.out with ⟨_, h1, h2⟩ | ⟨h1, _⟩ | ⟨h1, _⟩ | ⟨_, h1, _⟩
          · exact ⟨h1, h2⟩
          · rw [hno] at h1; cases h1
          · rw [hno] at h1; cases h1
          · rw [hno] at h1; cases h1
        clear hi
        go_wp2_with fail
        refine (HSp.out _).mono ?_
        rintro e w2 ⟨rfl, hb2⟩
        have B2 : Below w.heap.size w w2 := belowNext hbe hb2
        clear x0 x1 hb2
        go_wp2
        go_ret2
        exact ⟨rfl, B2⟩
      · rw [hi] at HSp
        have HA2 := allAng_take HA HQ.out hi
        clear hi
        go_wp2_with fail
        refine (HSp.out _).mono ?_
        rintro e w2 ⟨rfl, hb2⟩
        have B2 : Below w.heap.size w w2 := belowNext hbe hb2
        clear x0 x1 hb2
        go_wp2
        go_roundw
        case rel => exact ⟨k + 1, by omega, by go_num, HA2, B2⟩
        case measure => simp [intOf]; omega
    · obtain rfl : k = len := by omega
      have ha : allAng l = true := by have := HA.out; rw [← HL.out, List.take_length] at this; exact this
      have HS := Lib.hid (fun W hB => HS.out W hB ha)
      by_cases h0 : k < 1
      · have n0 : (k : Int) < 1 := by omega
        obtain ⟨rfl, rfl⟩ : R = 0 ∧ C = 2 := by
          have e := HL.out
          rcases H.out with ⟨h1, _⟩ | ⟨_, _, h1, h2⟩ | ⟨_, h1, _⟩ | ⟨_, _, h1, _⟩
          · rw [ha] at h1; cases h1
          · exact ⟨h1, h2⟩
          · omega
          · omega
        clear ha HS HLe HO HP
        go_wp2
        go_ret2
        exact ⟨rfl, hbe⟩
      · have n0 : ¬ (k : Int) < 1 := by omega
        by_cases h64 : 64 < k
        · have n1 : (64 : Int) < (k : Int) := by omega
          obtain ⟨rfl, rfl⟩ : R = 0 ∧ C = 2 := by
            have e := HL.out
            rcases H.out with ⟨h1, _⟩ | ⟨_, _, h1, h2⟩ | ⟨_, _, h1, _⟩ | ⟨_, _, _, h1, _⟩
            · rw [ha] at h1; cases h1
            · exact ⟨h1, h2⟩
            · omega
            · omega
          clear ha HS HLe HO HP
          go_wp2
          go_ret2
          exact ⟨rfl, hbe⟩
        · have n1 : ¬ (64 : Int) < (k : Int) := by omega
          have HLe := Lib.hid (fun W hB => HLe.out W hB ha (by omega))
          have HO := Lib.hid (fun W hB => HO.out W hB ha (by omega))
          have HAl := Lib.hid ha
          clear ha
          go_wp2_with fail
          refine (HS.out _ hbe).mono ?_
          rintro e w2 ⟨⟨r, rfl, HE⟩, hb2⟩
          have B2 := belowNext hbe hb2
          clear hbe hb2 HS
          cases r
          · obtain ⟨rfl, rfl⟩ : R = 0 ∧ C = 2 := by
              have hn : ¬ AscQ l := fun g => by have := HE.out.2 g; cases this
              rcases H.out with ⟨h1, _⟩ | ⟨_, _, h1, h2⟩ | ⟨_, _, _, h1, _⟩ | ⟨_, _, _, _, h1, _⟩
              · rw [HAl.out] at h1; cases h1
              · exact ⟨h1, h2⟩
              · exact absurd h1 hn
              · exact absurd h1 hn
            go_wp2
            go_ret2
            exact ⟨rfl, B2⟩
          · have hs := HE.out.1 rfl
            have hT : (∃ t, Turned l l t) ↔ LedP l l ∧ OrdP l l := turned_led (asc_nodup (asc_A HAl.out hs)) rfl (by have := HL.out; omega)
            have H2 : Hid (((¬ ∃ t, Turned l l t) ∧ R = 0 ∧ C = 5) ∨ (∃ t : Nat, Turned l l t ∧ R = (t : Int) ∧ C = 0)) := Lib.hid (by
              have e := HL.out
              rcases H.out with ⟨h1, _⟩ | ⟨_, h1, _⟩ | ⟨_, _, _, _, h1, h2, h3⟩ | ⟨t, _, _, _, _, h1, h2, h3⟩
              · rw [HAl.out] at h1; cases h1
              · rcases h1 with h1 | h1 | h1
                · omega
                · omega
                · exact absurd hs h1
              · exact .inl ⟨h1, h2, h3⟩
              · exact .inr ⟨t, h1, h2, h3⟩)
            have HT := Lib.hid hT
            have kl0 : 0 < l.length := by have := HL.out; omega
            obtain ⟨b0, off, rfl, hb0, hc⟩ := HR.out (by rintro rfl; simp at kl0)
            obtain ⟨x0, x1⟩ := hc 0 _ _ (cA_some kl0)
            rw [Nat.zero_mul, Nat.add_zero] at x0 x1
            have hp := isAng_yes (cA_ang HAl.out kl0)
            have HD : Hid (∀ w, Calls Try.prog 85 #[ang (cA l 0).1 (cA l 0).2] w fun e w' => e = .returned (ang (dA l 0).1 (dA l 0).2) ∧ Below w.heap.size w w') := Lib.hid (fun w => specDbl (cA l 0).1 (cA l 0).2 w (by omega) (by omega) (by omega) (by omega))
            have HP := Lib.hid (fun W hB => HP.out W hB (dA l 0).1 (dA l 0).2)
            rw [show ((dA l 0).1, (dA l 0).2) = dA l 0 from rfl] at HP
            have hb0' : b0 < w.heap.size := hb0
            have k0 : (0 : Int) < (k : Int) := by omega
            clear hs hT hc H HE hp
            go_wp2_with fail
            refine (HLe.out _ B2).mono ?_
            rintro e w3 ⟨⟨r, rfl, HE⟩, hb3⟩
            have B3 := belowNext B2 hb3
            clear B2 hb3 HLe
            cases r
            · obtain ⟨rfl, rfl⟩ : R = 0 ∧ C = 5 := by
                rcases H2.out with ⟨_, h1, h2⟩ | ⟨t, h1, _⟩
                · exact ⟨h1, h2⟩
                · have := HE.out.2 (HT.out.1 ⟨t, h1⟩).1; cases this
              go_wp2
              go_ret2
              exact ⟨rfl, B3⟩
            · have HO := Lib.hid (fun W hB => HO.out W hB (HE.out.1 rfl))
              have HLd := Lib.hid (HE.out.1 rfl)
              clear HE
              go_wp2_with fail
              refine (HO.out _ B3).mono ?_
              rintro e w4 ⟨⟨r, rfl, HE⟩, hb4⟩
              have B4 := belowNext B3 hb4
              clear B3 hb4 HO
              cases r
              · obtain ⟨rfl, rfl⟩ : R = 0 ∧ C = 5 := by
                  rcases H2.out with ⟨_, h1, h2⟩ | ⟨t, h1, _⟩
                  · exact ⟨h1, h2⟩
                  · have := HE.out.2 (HT.out.1 ⟨t, h1⟩).2; cases this
                go_wp2
                go_ret2
                exact ⟨rfl, B4⟩
              · obtain ⟨t, ht, rfl, rfl⟩ : ∃ t : Nat, Turned l l t ∧ R = (t : Int) ∧ C = 0 := by
                  rcases H2.out with ⟨h1, _⟩ | h1
                  · exact absurd (HT.out.2 ⟨HLd.out, HE.out.1 rfl⟩) h1
                  · exact h1
                have hpl : plcI l (dA l 0) = (t : Int) := by
                  have e : plc l (dA l 0) = t := ht.2.1
                  rw [plcI_yes (by rw [e]; exact ht.1), e]
                rw [hpl] at HP
                have x0 := cellThru B4 hb0 x0
                have x1 := cellThru B4 hb0 x1
                have hbw : b0 < w4.heap.size := Nat.lt_of_lt_of_le hb0 B4.size
                clear ht hpl H2 HE HT
                generalize (cA l 0).1 = n at *
                generalize (cA l 0).2 = d at *
                generalize (dA l 0).1 = x at *
                generalize (dA l 0).2 = y at *
                go_wp2_with fail
                refine (HD.out _).mono ?_
                rintro e w5 ⟨rfl, hb5⟩
                have B5 := belowNext B4 hb5
                clear B4 hb5 x0 x1
                go_wp2_with fail
                refine (HP.out _ B5).mono ?_
                rintro e w6 ⟨rfl, hb6⟩
                go_wp2
                go_ret2
                exact ⟨rfl, belowNext B5 hb6⟩
end Go.Proofs.Ytlmgpecfbpcgaaa

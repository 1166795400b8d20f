/-
  Contracts: the pairs of a period on both sides; the law's walk.
-/
import Derived.Test.YtillliangojdkaaR27
import Derived.Test.YtillliangojdkaaR28
import Derived.Test.YtillliangojdkaaR16
namespace Go.Proofs.Ytillliangojdkaa
open Go.RowKit

/-- The form of an answer that is a list of pairs and a code. -/
def ResRp (w : World) (l : List Lf4) (c : Int) (e : Ending) (w' : World) : Prop :=
  ∃ A cap, e = .returned (.tuple #[.slice A l.length cap, .int .i64 c]) ∧ LfOwn w' w.heap.size A l ∧ Below w.heap.size w w'
theorem LfOwn.drop {w : World} {lo b off : Nat} {l : List Lf4} (h : LfOwn w lo (some ⟨b, off, none⟩) l) (k : Nat) : LfOwn w lo (some ⟨b, off + k * 4, none⟩) (l.drop k) := by
  intro hne
  have hl : l ≠ [] := by intro e; rw [e] at hne; simp at hne
  obtain ⟨b', off', e, h1, h2, h3⟩ := h hl
  obtain ⟨rfl, rfl⟩ : b = b' ∧ off = off' := by simpa using e
  refine ⟨b, off + k * 4, rfl, h1, h2, fun i n d m c hi => ?_⟩
  rw [List.getElem?_drop] at hi
  have := h3 (k + i) n d m c hi
  rw [show off + k * 4 + i * 4 = off + (k + i) * 4 by omega]
  exact this

/-- What PairsOfPeriod answers. -/
def popL (n : Int) : List Lf4 := if 2 ≤ n ∧ n ≤ 8 then newP (n.toNat - 2) else []
def popC (n : Int) : Int := if 2 ≤ n ∧ n ≤ 8 then 0 else 2
theorem pop_yes {m : Nat} (h : m ≤ 6) : popL ((m + 2 : Nat) : Int) = newP m ∧ popC ((m + 2 : Nat) : Int) = 0 := by
  unfold popL popC
  rw [if_pos (by omega), if_pos (by omega)]
  exact ⟨congrArg newP (by omega), rfl⟩
theorem pop_no {n : Int} (h : ¬ (2 ≤ n ∧ n ≤ 8)) : popL n = [] ∧ popC n = 2 := by
  unfold popL popC
  rw [if_neg h, if_neg h]
  exact ⟨rfl, rfl⟩
theorem popL_len (n : Int) : (popL n).length ≤ 1000000000000 := by
  by_cases h : 2 ≤ n ∧ n ≤ 8
  · obtain ⟨m, rfl⟩ : ∃ m : Nat, n = ((m + 2 : Nat) : Int) := ⟨n.toNat - 2, by omega⟩
    rw [(pop_yes (m := m) (by omega)).1]
    have := newP_len (m := m) (by omega)
    omega
  · rw [(pop_no h).1]; simp

set_option maxHeartbeats 1000000 in
theorem implPairsOfN (n : Int) (w : World) : Calls Try.prog 26 #[.int .i64 n] w (ResRp w (popL n) (popC n)) := by
  by_cases h : 2 ≤ n ∧ n ≤ 8
  · obtain ⟨m, rfl⟩ : ∃ m : Nat, n = ((m + 2 : Nat) : Int) := ⟨n.toNat - 2, by omega⟩
    have hm : m ≤ 6 := by omega
    have E := Lib.hid (pop_yes hm)
    have HA := Lib.hid (fun w => implPairsOf m w hm)
    have t : (decide ((2 : Int) ≤ ((m + 2 : Nat) : Int)) && decide (((m + 2 : Nat) : Int) ≤ 8)) = true := by simp; omega
    have HPP := Lib.hid (fun w => implIsPP ((m + 2 : Nat) : Int) w)
    rw [t] at HPP
    generalize popL ((m + 2 : Nat) : Int) = l at *
    generalize popC ((m + 2 : Nat) : Int) = c at *
    obtain rfl : c = 0 := E.out.2
    rw [← E.out.1] at HA
    generalize ((m + 2 : Nat) : Int) = N at *
    clear t
    go_enter Try.func26, Try.ntmps26
    go_wp2_with fail
    refine (HPP.out _).mono ?_
    rintro e w1 ⟨rfl, rfl⟩
    go_wp2_with fail
    refine (HA.out _).mono ?_
    rintro e w2 ⟨A, cap, rfl, ho, hb2⟩
    have HO := Lib.hid (ownP_of rfl ho)
    clear ho
    go_wp2
    go_ret2
    exact ⟨A, cap, rfl, HO.out, by
      (repeat' (first | (with_reducible exact Below.refl _ _) | (with_reducible assumption) | (with_reducible refine belowNext ?_ (by with_reducible assumption)) | (with_reducible refine belowAlloc ?_ _) | (with_reducible refine Below.drew ?_) | (with_reducible refine below_drewN ?_ _) | (with_reducible refine Below.setCell ?_ ?_ _) | go_size | (with_reducible refine sizeOf' ?_) | (with_reducible refine sizeAdd ?_) | (dsimp only; first | (with_reducible refine sizeOf' ?_) | (with_reducible refine sizeAdd ?_))))⟩
  · have E := Lib.hid (pop_no h)
    have t : (decide ((2 : Int) ≤ n) && decide (n ≤ 8)) = false := by simp; omega
    have HPP := Lib.hid (fun w => implIsPP n w)
    rw [t] at HPP
    generalize popL n = l at *
    generalize popC n = c at *
    obtain rfl : l = [] := E.out.1
    obtain rfl : c = 2 := E.out.2
    clear t
    go_enter Try.func26, Try.ntmps26
    go_wp2_with fail
    refine (HPP.out _).mono ?_
    rintro e w1 ⟨rfl, rfl⟩
    go_wp2
    go_ret2
    exact ⟨none, 0, rfl, lfOwn_nil, by
      (repeat' (first | (with_reducible exact Below.refl _ _) | (with_reducible assumption) | (with_reducible refine belowNext ?_ (by with_reducible assumption)) | (with_reducible refine belowAlloc ?_ _) | (with_reducible refine Below.drew ?_) | (with_reducible refine below_drewN ?_ _) | (with_reducible refine Below.setCell ?_ ?_ _) | go_size | (with_reducible refine sizeOf' ?_) | (with_reducible refine sizeAdd ?_) | (dsimp only; first | (with_reducible refine sizeOf' ?_) | (with_reducible refine sizeAdd ?_))))⟩

set_option maxHeartbeats 1000000 in
theorem specPairsOfN (n : Int) (w : World) : Calls Try.prog 25 #[.int .i64 n] w (ResRp w (popL n) (popC n)) := by
  by_cases h : 2 ≤ n ∧ n ≤ 8
  · obtain ⟨m, rfl⟩ : ∃ m : Nat, n = ((m + 2 : Nat) : Int) := ⟨n.toNat - 2, by omega⟩
    have hm : m ≤ 6 := by omega
    have E := Lib.hid (pop_yes hm)
    have HA := Lib.hid (fun w => specPairs (m + 2) w (by omega) (by omega))
    have HB := Lib.hid (fun w => specPairs (m + 1) w (by omega) (by omega))
    rw [show m + 2 - 1 = m + 1 by omega] at HA
    rw [show m + 1 - 1 = m by omega] at HB
    have e3 : ((m + 1 : Nat) : Int) = ((m + 2 : Nat) : Int) - 1 := by omega
    rw [e3] at HB
    have t : (decide ((2 : Int) ≤ ((m + 2 : Nat) : Int)) && decide (((m + 2 : Nat) : Int) ≤ 8)) = true := by simp; omega
    have HPP := Lib.hid (fun w => inRange ((m + 2 : Nat) : Int) 2 8 w)
    rw [t] at HPP
    have hb : 2 ≤ ((m + 2 : Nat) : Int) ∧ ((m + 2 : Nat) : Int) ≤ 8 := h
    have HM := Lib.hid (upK_map m)
    have hlen : (upK (m + 1)).length = (upK m).length + (newP m).length := by
      have := congrArg List.length (upK_map m)
      simpa using this
    have hlm : (upK (m + 1)).length ≤ 2000 := by have := upK_len (m + 1) (by omega); omega
    generalize popL ((m + 2 : Nat) : Int) = l at *
    generalize popC ((m + 2 : Nat) : Int) = c at *
    obtain rfl : c = 0 := E.out.2
    obtain rfl : l = newP m := E.out.1
    generalize newP m = K at *
    obtain ⟨L1, hL1⟩ : ∃ L1, upK (m + 1) = L1 := ⟨_, rfl⟩
    obtain ⟨L0, hL0⟩ : ∃ L0, upK m = L0 := ⟨_, rfl⟩
    rw [hL1] at HA HM hlen hlm
    rw [hL0] at HB HM hlen
    generalize ((m + 2 : Nat) : Int) = N at *
    obtain ⟨q1, h1⟩ : ∃ q, L1.length = q := ⟨_, rfl⟩
    obtain ⟨q0, h0⟩ : ∃ q, L0.length = q := ⟨_, rfl⟩
    rw [h1] at HA hlen hlm
    rw [h0] at HB hlen
    have HL1 := Lib.hid h1
    have HL0 := Lib.hid h0
    clear t e3 E hL1 hL0 h h1 h0
    go_enter Try.func25, Try.ntmps25
    go_wp2_with fail
    refine (HPP.out _).mono ?_
    rintro e w1 ⟨rfl, rfl⟩
    go_wp2_with fail
    refine (HA.out _).mono ?_
    rintro e w2 ⟨A, cap, rfl, ho2, hb2⟩
    have HO2 := Lib.hid (ownP_of (by rw [List.length_map]; exact HL1.out) ho2)
    have hc2 := ownsCap ho2
    have hform : (A = none ∧ q1 = 0 ∧ cap = 0) ∨ ∃ g, A = some ⟨g, 0, none⟩ := by
      rcases ho2.2 with ⟨hv, _⟩ | ⟨g, c, cur, hv, _⟩
      · injection hv with a b c; exact .inl ⟨a, b, c⟩
      · injection hv with a b c; exact .inr ⟨g, a⟩
    clear ho2
    go_wp2_with fail
    refine (HB.out _).mono ?_
    rintro e w3 ⟨A3, cap3, rfl, ho3, hb3⟩
    have HO3 := Lib.hid (HO2.out.next hb3)
    have B3 := Lib.hid (belowNext hb2 hb3)
    clear ho3 HO2 hb2 hb3
    rcases hform with ⟨rfl, h1, rfl⟩ | ⟨g, rfl⟩
    · obtain rfl : q0 = 0 := by omega
      obtain rfl : K = [] := List.eq_nil_of_length_eq_zero (by omega)
      go_wp2
      go_ret2
      exact ⟨none, 0, rfl, lfOwn_nil, B3.out⟩
    · have hcq : q0 ≤ cap := by omega
      have HK : Hid (LfOwn w3 w.heap.size (some ⟨g, q0 * 4, none⟩) K) := Lib.hid (by
        have e := HO3.out.drop q0
        rw [HM.out, List.drop_left' (by rw [List.length_map]; exact HL0.out), Nat.zero_add] at e
        exact e)
      clear HO3
      go_wp2
      · obtain rfl : K = [] := List.eq_nil_of_length_eq_zero (by omega)
        go_ret2
        exact ⟨_, _, rfl, lfOwn_nil, B3.out⟩
      · go_ret2
        exact ⟨_, _, rfl, HK.out, B3.out⟩
  · have E := Lib.hid (pop_no h)
    have t : (decide ((2 : Int) ≤ n) && decide (n ≤ 8)) = false := by simp; omega
    have HPP := Lib.hid (fun w => inRange n 2 8 w)
    rw [t] at HPP
    generalize popL n = l at *
    generalize popC n = c at *
    obtain rfl : l = [] := E.out.1
    obtain rfl : c = 2 := E.out.2
    clear t
    go_enter Try.func25, Try.ntmps25
    go_wp2_with fail
    refine (HPP.out _).mono ?_
    rintro e w1 ⟨rfl, rfl⟩
    go_wp2
    go_ret2
    exact ⟨none, 0, rfl, lfOwn_nil, by
      (repeat' (first | (with_reducible exact Below.refl _ _) | (with_reducible assumption) | (with_reducible refine belowNext ?_ (by with_reducible assumption)) | (with_reducible refine belowAlloc ?_ _) | (with_reducible refine Below.drew ?_) | (with_reducible refine below_drewN ?_ _) | (with_reducible refine Below.setCell ?_ ?_ _) | go_size | (with_reducible refine sizeOf' ?_) | (with_reducible refine sizeAdd ?_) | (dsimp only; first | (with_reducible refine sizeOf' ?_) | (with_reducible refine sizeAdd ?_))))⟩

set_option maxHeartbeats 2000000 in
theorem lawPairsOfPeriod (n : Int) (_ : (Lit.int .i64 n).wf = true) (w : World) :
    Calls Try.prog 5 #[.int .i64 n] w fun e w' => e = .returned (.bool true) ∧ Below w.heap.size w w' := by
  have HA := Lib.hid (fun w => specPairsOfN n w)
  have HB := Lib.hid (fun w => implPairsOfN n w)
  have hlen : (popL n).length ≤ 1000000000000 := popL_len n
  generalize popL n = l at *
  generalize popC n = C at *
  obtain ⟨len, hl⟩ : ∃ len, l.length = len := ⟨_, rfl⟩
  rw [hl] at hlen
  have HL := Lib.hid hl
  clear hl
  go_enter Try.func5, Try.ntmps5
  go_wp2_with fail
  refine (HA.out _).mono ?_
  rintro e w2 ⟨A, cap, rfl, ha, hb2⟩
  rw [HL.out]
  have B2 : Below w.heap.size w w2 := by
    (repeat' (first | (with_reducible exact Below.refl _ _) | (with_reducible assumption) | (with_reducible refine belowNext ?_ (by with_reducible assumption)) | (with_reducible refine belowAlloc ?_ _) | (with_reducible refine Below.drew ?_) | (with_reducible refine below_drewN ?_ _) | (with_reducible refine Below.setCell ?_ ?_ _) | go_size | (with_reducible refine sizeOf' ?_) | (with_reducible refine sizeAdd ?_) | (dsimp only; first | (with_reducible refine sizeOf' ?_) | (with_reducible refine sizeAdd ?_))))
  clear hb2
  have R := Lib.hid ha.row
  clear ha
  go_wp2_with fail
  refine (HB.out _).mono ?_
  rintro e w4 ⟨A', cap', rfl, ha', hb4⟩
  rw [HL.out]
  have s4 := hb4.size
  try simp at s4
  have B24 : Below w2.heap.size w2 w4 := by
    (repeat' (first | (with_reducible exact Below.refl _ _) | (with_reducible assumption) | (with_reducible refine belowNext ?_ (by with_reducible assumption)) | (with_reducible refine belowAlloc ?_ _) | (with_reducible refine Below.drew ?_) | (with_reducible refine below_drewN ?_ _) | (with_reducible refine Below.setCell ?_ ?_ _) | go_size | (with_reducible refine sizeOf' ?_) | (with_reducible refine sizeAdd ?_) | (dsimp only; first | (with_reducible refine sizeOf' ?_) | (with_reducible refine sizeAdd ?_))))
  have R4 := Lib.hid (R.out.below B24)
  have Rs4 := Lib.hid (R4.out.more B24.size)
  have Q4 := Lib.hid ha'
  clear ha' hb4
  go_wp2_with fail
  refine (eqRpS _ _ _ _ _ l _ Q4.out.row Rs4.out HL.out (by omega)).mono ?_
  rintro e w5 ⟨rfl, hb5⟩
  have R5 := Lib.hid (R4.out.below (hb5.mono B24.size))
  have Q5 := Lib.hid (Q4.out.next hb5)
  have B25 : Below w2.heap.size w2 w5 := belowNext B24 hb5
  go_wp2_with fail
  refine (markRp _ _ _ l _ _ _ Q5.out HL.out (by omega) (by omega) hlen).mono ?_
  rintro e w6 ⟨rfl, H6⟩
  try simp only [World.size_alloc] at H6
  have b6 : Below w2.heap.size w5 w6 := by first | exact H6.out.2 | exact H6.out.2.mono (by omega)
  have R6 := Lib.hid (R5.out.below b6)
  have Q6 := Lib.hid H6.out.1
  have B26 : Below w2.heap.size w2 w6 := B25.trans b6
  have nn : (1 + 4 * (len : Int) < 0) = False := by simp; omega
  clear b6 H6 hb5
  go_wp2_with fail
  refine (heldRp _ _ _ _ _ Q6.out.row (by omega) (by omega) hlen).mono ?_
  rintro e w7 ⟨rfl, rfl⟩
  go_wp2_with fail
  refine (HB.out _).mono ?_
  rintro e w9 ⟨A'', cap'', rfl, ha'', hb9⟩
  rw [HL.out]
  have s9 := hb9.size
  try simp at s9
  have B69 : Below w6.heap.size w6 w9 := by
    (repeat' (first | (with_reducible exact Below.refl _ _) | (with_reducible assumption) | (with_reducible refine belowNext ?_ (by with_reducible assumption)) | (with_reducible refine belowAlloc ?_ _) | (with_reducible refine Below.drew ?_) | (with_reducible refine below_drewN ?_ _) | (with_reducible refine Below.setCell ?_ ?_ _) | go_size | (with_reducible refine sizeOf' ?_) | (with_reducible refine sizeAdd ?_) | (dsimp only; first | (with_reducible refine sizeOf' ?_) | (with_reducible refine sizeAdd ?_))))
  have B29 : Below w2.heap.size w2 w9 := belowNext B26 B69
  have R9 := Lib.hid ((R6.out.below (B69.mono B26.size)).more B29.size)
  have Q9 := Lib.hid (Q6.out.next B69)
  have P9 := Lib.hid ha''.row
  clear ha'' hb9
  go_wp2_with fail
  refine (eqRpS _ _ _ _ _ l _ P9.out R9.out HL.out (by omega)).mono ?_
  rintro e w10 ⟨rfl, hb10⟩
  have Q10 := Lib.hid (Q9.out.next hb10)
  go_wp2_with fail
  refine (heldRp _ _ _ _ _ Q10.out.row (by omega) (by omega) hlen).mono ?_
  rintro e w11 ⟨rfl, rfl⟩
  go_wp2
  go_ret
  exact ⟨rfl, belowNext (belowNext B2 B29) hb10⟩

end Go.Proofs.Ytillliangojdkaa

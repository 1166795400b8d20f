/-
  Sets of angles: the places of angles, and what doubling does with them (plain mathematics).
  Contracts: angles in strictly ascending order, on both sides.
  Contracts: the place of an angle, on both sides; whether doubling leads a set to another one (the model's); written by genQ3.py.
  Contracts: whether doubling keeps the cyclic order (the model's); by how much doubling turns (the program's); written by genQ4.py.
  Contracts: RotationOfSet, on both sides; written by genQ5.py.
-/
import Derived.Test.YtnoaahkpcnkbnaaW34
import Derived.Deep.LoopGhost
import Derived.Test.YtnoaahkpcnkbnaaW5
import Derived.Test.YtnoaahkpcnkbnaaW7
import Derived.BigQuiet
import Derived.OwnWalk
namespace Go.Proofs.Ytnoaahkpcnkbnaa
open Go.RowKit

/-- Each angle comes behind the one before it. -/
def AscQ (l : List (Int × Int)) : Prop := ∀ (i : Nat) (x y : Int × Int), l[i]? = some x → l[i + 1]? = some y → lessA x y = true
theorem asc_pairsQ {l : List (Int × Int)} (ha : allAng l = true) (h : AscQ l) : ∀ (i j : Nat) (x y : Int × Int), i < j → l[i]? = some x → l[j]? = some y → lessA x y = true
  | i, 0, x, y, hij, _, _ => absurd hij (by omega)
  | i, j + 1, x, y, hij, hx, hy => by
    have hj : j < l.length := by
      have := (List.getElem?_eq_some_iff.1 hy).1
      omega
    have e := List.getElem?_eq_getElem hj
    have s := h j _ _ e hy
    by_cases hh : i = j
    · subst hh
      rw [e] at hx
      injection hx with hx
      rw [← hx]; exact s
    · have t := asc_pairsQ ha h i j x _ (by omega) hx e
      exact lessA_tr (allAng_mem ha (List.mem_of_getElem? hx)) (allAng_mem ha (List.getElem_mem hj)) (allAng_mem ha (List.mem_of_getElem? hy)) t s

theorem asc_A {l : List (Int × Int)} (ha : allAng l = true) (h : AscQ l) : AscA l := by
  refine List.pairwise_iff_getElem.2 fun i j hi hj hij => ?_
  exact asc_pairsQ ha h i j _ _ hij (List.getElem?_eq_getElem hi) (List.getElem?_eq_getElem hj)
theorem asc_nodup {l : List (Int × Int)} (h : AscA l) : l.Nodup := by
  refine List.Pairwise.imp ?_ h
  intro x y hxy e
  subst e
  rw [lessA_self] at hxy
  cases hxy
/-- The angle at a place. -/
def cA (l : List (Int × Int)) (i : Nat) : Int × Int := l.getD i (0, 1)
theorem cA_some {l : List (Int × Int)} {i : Nat} (h : i < l.length) : l[i]? = some ((cA l i).1, (cA l i).2) := by
  unfold cA
  rw [List.getD_eq_getElem?_getD, List.getElem?_eq_getElem h]
  rfl
theorem cA_of {l : List (Int × Int)} {i : Nat} {p : Int × Int} (h : l[i]? = some p) : cA l i = p := by
  unfold cA
  rw [List.getD_eq_getElem?_getD, h]
  rfl
theorem cA_mem {l : List (Int × Int)} {i : Nat} (h : i < l.length) : cA l i ∈ l := List.mem_of_getElem? (cA_some h)
theorem cA_ang {l : List (Int × Int)} (ha : allAng l = true) {i : Nat} (h : i < l.length) : isAng (cA l i).1 (cA l i).2 = true := allAng_mem ha (q := cA l i) (cA_mem h)
/-- The place of an angle in a list: the list's length if it is not there. -/
def plc (l : List (Int × Int)) (p : Int × Int) : Nat := l.findIdx fun q => decide (q = p)
def plcI (l : List (Int × Int)) (p : Int × Int) : Int := if plc l p < l.length then (plc l p : Int) else -1
theorem plc_le (l : List (Int × Int)) (p : Int × Int) : plc l p ≤ l.length := List.findIdx_le_length
theorem plc_get {l : List (Int × Int)} {p : Int × Int} (h : plc l p < l.length) : cA l (plc l p) = p := by
  have e := List.findIdx_getElem (xs := l) (p := fun q => decide (q = p)) (w := h)
  have e := of_decide_eq_true e
  have := cA_of (l := l) (List.getElem?_eq_getElem h)
  rw [this]; exact e
theorem plc_lt {l : List (Int × Int)} {p : Int × Int} {j : Nat} (h : j < plc l p) : cA l j ≠ p := by
  have hl := plc_le l p
  have hj : j < l.length := by omega
  have := List.not_of_lt_findIdx h
  rw [cA_of (List.getElem?_eq_getElem hj)]
  simpa using this
theorem plc_stop {l : List (Int × Int)} {p : Int × Int} {k : Nat} (hk : k < l.length) (h : ∀ j, j < k → cA l j ≠ p) (he : cA l k = p) : plc l p = k := by
  rcases Nat.lt_trichotomy (plc l p) k with h1 | h1 | h1
  · exact absurd (plc_get (by omega)) (h _ h1)
  · exact h1
  · exact absurd he (plc_lt h1)
theorem plc_end {l : List (Int × Int)} {p : Int × Int} (h : ∀ j, j < l.length → cA l j ≠ p) : plc l p = l.length := by
  have := plc_le l p
  rcases Nat.lt_or_ge (plc l p) l.length with h1 | h1
  · exact absurd (plc_get h1) (h _ h1)
  · omega
theorem plc_mem {l : List (Int × Int)} {p : Int × Int} : plc l p < l.length ↔ p ∈ l := by
  constructor
  · intro h
    have := cA_mem h
    rw [plc_get h] at this
    exact this
  · intro h
    have hl := plc_le l p
    rcases Nat.lt_or_ge (plc l p) l.length with h1 | h1
    · exact h1
    · obtain ⟨i, hi, e⟩ := List.getElem_of_mem h
      have : cA l i ≠ p := plc_lt (by omega)
      rw [cA_of (List.getElem?_eq_getElem hi)] at this
      exact absurd e this
theorem plc_at {l : List (Int × Int)} (hn : l.Nodup) {i : Nat} (hi : i < l.length) : plc l (cA l i) = i := by
  refine plc_stop hi (fun j hj e => ?_) rfl
  have e1 := cA_of (l := l) (List.getElem?_eq_getElem (show j < l.length by omega))
  have e2 := cA_of (l := l) (List.getElem?_eq_getElem hi)
  rw [e1, e2] at e
  exact (List.pairwise_iff_getElem.1 hn) j i (by omega) hi hj e
theorem plcI_yes {l : List (Int × Int)} {p : Int × Int} (h : plc l p < l.length) : plcI l p = (plc l p : Int) := by unfold plcI; rw [if_pos h]
theorem plcI_no {l : List (Int × Int)} {p : Int × Int} (h : ¬ plc l p < l.length) : plcI l p = -1 := by unfold plcI; rw [if_neg h]

/-- The double of the angle at a place. -/
def dA (l : List (Int × Int)) (i : Nat) : Int × Int := dbl (cA l i)
/-- Doubling leads the angles of l to those of m, each to another one. -/
def LedP (l m : List (Int × Int)) : Prop := (∀ i, i < l.length → plc m (dA l i) < m.length) ∧ (∀ i j, i < j → j < l.length → plc m (dA l i) ≠ plc m (dA l j)) ∧ l.length = m.length
/-- Doubling keeps the cyclic order. -/
def OrdP (l m : List (Int × Int)) : Prop := ∀ i, i < l.length → plc m (dA l ((i + 1) % l.length)) = (plc m (dA l i) + 1) % l.length
/-- Doubling turns l by t. -/
def Turned (l m : List (Int × Int)) (t : Nat) : Prop := t < m.length ∧ plc m (dA l 0) = t ∧ ∀ i, i < l.length → dA l i = cA m ((i + t) % m.length)
theorem mod_two {a n : Nat} (h : a < 2 * n) : a % n = if a < n then a else a - n := by
  split
  · exact Nat.mod_eq_of_lt (by assumption)
  · rw [Nat.mod_eq_sub_mod (by omega), Nat.mod_eq_of_lt (by omega)]
theorem turned_led {l m : List (Int × Int)} (hn : m.Nodup) (hl : l.length = m.length) (h0 : 0 < l.length) : (∃ t, Turned l m t) ↔ LedP l m ∧ OrdP l m := by
  constructor
  · rintro ⟨t, ht, h1, h2⟩
    have key : ∀ i, i < l.length → plc m (dA l i) = (i + t) % m.length := fun i hi => by
      rw [h2 i hi, plc_at hn (Nat.mod_lt _ (by omega))]
    refine ⟨⟨fun i hi => ?_, fun i j hij hj => ?_, hl⟩, fun i hi => ?_⟩
    · rw [key i hi]; exact Nat.mod_lt _ (by omega)
    · rw [key i (by omega), key j hj, mod_two (by omega), mod_two (by omega)]
      split <;> split <;> omega
    · have hm : (i + 1) % l.length < l.length := Nat.mod_lt _ h0
      rw [key i hi, key _ hm, hl, mod_two (a := i + 1) (by omega), mod_two (a := i + t) (by omega)]
      split <;> split <;> (rw [mod_two (by omega), mod_two (by omega)]; split <;> split <;> omega)
  · rintro ⟨⟨h1, h2, -⟩, h3⟩
    have ht := h1 0 h0
    refine ⟨plc m (dA l 0), ht, rfl, ?_⟩
    have key : ∀ i, i < l.length → plc m (dA l i) = (i + plc m (dA l 0)) % m.length := by
      intro i
      induction i with
      | zero => intro _; rw [Nat.zero_add, Nat.mod_eq_of_lt ht]
      | succ i ih =>
        intro hi
        have e := h3 i (by omega)
        rw [Nat.mod_eq_of_lt hi, ih (by omega), hl] at e
        rw [e]
        generalize plc m (dA l 0) = t at *
        rw [mod_two (a := i + t) (by omega)]
        split <;> (rw [mod_two (by omega), mod_two (by omega)]; split <;> split <;> omega)
    intro i hi
    rw [← key i hi]
    exact (plc_get (h1 i hi)).symm
theorem dA_ang {l : List (Int × Int)} (ha : allAng l = true) {i : Nat} (hi : i < l.length) : isAng (dA l i).1 (dA l i).2 = true := by
  have h := cA_ang ha hi
  have hr : Red (cA l i) := isAng_yes h
  have := dbl_red hr
  unfold isAng
  exact decide_eq_true this

/-- An answer yes or no. -/
def ResYesQ (w : World) (P : Prop) (e : Ending) (w' : World) : Prop := (∃ r : Bool, e = .returned (.bool r) ∧ Hid (r = true ↔ P)) ∧ Below w.heap.size w w'
set_option maxHeartbeats 2000000 in
theorem specAscQ (A : Option Addr) (len cap : Nat) (l : List (Int × Int)) (w : World) (hr : AngRow w w.heap.size A l) (hl : l.length = len) (hm : len ≤ 1000000000000) (hA : allAng l = true) :
    Calls Try.prog 34 #[.slice A len cap] w (ResYesQ w (AscQ l)) := by
  have HR := Lib.hid hr
  have HL := Lib.hid hl
  have HA := Lib.hid hA
  clear hr hl hA
  go_enter Try.func34, Try.ntmps34
  go_wp2
  go_loopw [3] (fun i wr => ∃ k : Nat, 1 ≤ k ∧ (k ≤ len ∨ k = 1) ∧ i = .int .i64 k ∧ Hid (∀ (j : Nat) (x y : Int × Int), j + 1 < k → l[j]? = some x → l[j + 1]? = some y → lessA x y = true) ∧ Below w.heap.size w wr) (fun i _ => len - (intOf i).toNat)
  case atStart => exact ⟨1, by omega, by omega, rfl, Lib.hid (fun j x y h => absurd h (by omega)), Below.refl _ _⟩
  case round =>
    obtain ⟨k, hk1, hk, rfl, HY, hbe⟩ := hrel
    by_cases hlt : k < len
    · obtain ⟨q, hq⟩ : ∃ q : Nat, k = q + 1 := ⟨k - 1, by omega⟩
      have hk2 : ((k : Int) - 1) = (q : Int) := by omega
      have hw : IntKind.i64.wrap (q : Int) = (q : Int) := IntWalk.i64_in _ (by omega)
      have hql : q < len := by omega
      obtain ⟨⟨n, d⟩, hx⟩ : ∃ p, l[q]? = some p := ⟨_, List.getElem?_eq_getElem (by have := HL.out; omega)⟩
      obtain ⟨⟨m, c⟩, hy⟩ : ∃ p, l[k]? = some p := ⟨_, List.getElem?_eq_getElem (by have := HL.out; omega)⟩
      obtain ⟨b, off, rfl, hbb, hcells⟩ := HR.out (by rintro rfl; cases hx)
      obtain ⟨x0, x1⟩ := hcells q n d hx
      obtain ⟨y0, y1⟩ := hcells k m c hy
      have x0 := cellThru hbe hbb x0
      have x1 := cellThru hbe hbb x1
      have y0 := cellThru hbe hbb y0
      have y1 := cellThru hbe hbb y1
      have hp := allAng_mem HA.out (q := (n, d)) (List.mem_of_getElem? hx)
      have hp' := allAng_mem HA.out (q := (m, c)) (List.mem_of_getElem? hy)
      have HC := Lib.hid (fun w => specLess n d m c w (isAng_ok hp) (isAng_ok hp'))
      have HE : Hid (lessA (n, d) (m, c) = ltA n d m c) := Lib.hid rfl
      have HX := Lib.hid hx
      have HZ := Lib.hid hy
      have HK := Lib.hid hq
      have hbw : b < wr.heap.size := Nat.lt_of_lt_of_le hbb hbe.size
      clear hcells hx hy hp hp' hq
      generalize ltA n d m c = t at *
      cases t
      · have HQ : Hid (¬ AscQ l) := Lib.hid (fun h => by
          have p := h q _ _ HX.out (by rw [← HK.out]; exact HZ.out)
          rw [HE.out] at p
          cases p)
        go_wp2_with fail
        go_region_with (first | (go_at_call 44; (with_reducible refine (HC.out _).mono ?_); rintro e w1 ⟨rfl, hb1⟩))
        all_goals
          have hB : Below w.heap.size w w1 := belowNext hbe.drew hb1
          clear x0 x1 y0 y1 hb1 hbe
          go_wp2
          go_ret
          exact ⟨⟨false, rfl, Lib.hid ⟨fun h => (by cases h), fun h => absurd h HQ.out⟩⟩, hB⟩
      · go_wp2_with fail
        go_region_with (first | (go_at_call 44; (with_reducible refine (HC.out _).mono ?_); rintro e w1 ⟨rfl, hb1⟩))
        all_goals
          have hB : Below w.heap.size w w1 := belowNext hbe.drew hb1
          clear x0 x1 y0 y1 hb1 hbe
          go_wp2
          go_roundw
          case rel =>
            refine ⟨k + 1, by omega, by omega, by go_num, Lib.hid (fun j x y hj hx hy => ?_), hB⟩
            by_cases hjk : j + 1 = k
            · have hq := HK.out
              obtain rfl : q = j := by omega
              have p1 := HX.out
              have p2 := HZ.out
              rw [← hjk] at p2
              rw [p1] at hx
              rw [p2] at hy
              injection hx with hx
              injection hy with hy
              rw [← hx, ← hy]
              exact HE.out
            · exact HY.out j x y (by omega) hx hy
          case measure => simp [intOf]; omega
    · have HQ : Hid (AscQ l) := Lib.hid (fun j x y hx hy => HY.out j x y (by
        rcases Nat.lt_or_ge (j + 1) l.length with h1 | h1
        · have := HL.out; omega
        · rw [List.getElem?_eq_none h1] at hy; cases hy) hx hy)
      go_wp2
      go_ret
      exact ⟨⟨true, rfl, Lib.hid ⟨fun _ => HQ.out, fun _ => rfl⟩⟩, hbe⟩


set_option maxHeartbeats 2000000 in
theorem implAscQ (A : Option Addr) (len cap : Nat) (l : List (Int × Int)) (w : World) (hr : AngRow w w.heap.size A l) (hl : l.length = len) (hm : len ≤ 1000000000000) (hA : allAng l = true) :
    Calls Try.prog 41 #[.slice A len cap, .func (Fn.func 42) #[] #[]] w (ResYesQ w (AscQ l)) := by
  have HR := Lib.hid hr
  have HL := Lib.hid hl
  have HA := Lib.hid hA
  clear hr hl hA
  go_enter Try.func41, Try.ntmps41
  go_wp2
  go_loopw [5] (fun i wr => ∃ k : Nat, 1 ≤ k ∧ (k ≤ len ∨ k = 1) ∧ i = .int .i64 k ∧ Hid (∀ (j : Nat) (x y : Int × Int), j + 1 < k → l[j]? = some x → l[j + 1]? = some y → lessA x y = true) ∧ Below w.heap.size w wr) (fun i _ => len - (intOf i).toNat)
  case atStart => exact ⟨1, by omega, by omega, rfl, Lib.hid (fun j x y h => absurd h (by omega)), Below.refl _ _⟩
  case round =>
    obtain ⟨k, hk1, hk, rfl, HY, hbe⟩ := hrel
    by_cases hlt : k < len
    · obtain ⟨q, hq⟩ : ∃ q : Nat, k = q + 1 := ⟨k - 1, by omega⟩
      have hk2 : ((k : Int) - 1) = (q : Int) := by omega
      have hw : IntKind.i64.wrap (q : Int) = (q : Int) := IntWalk.i64_in _ (by omega)
      have hql : q < len := by omega
      obtain ⟨⟨n, d⟩, hx⟩ : ∃ p, l[q]? = some p := ⟨_, List.getElem?_eq_getElem (by have := HL.out; omega)⟩
      obtain ⟨⟨m, c⟩, hy⟩ : ∃ p, l[k]? = some p := ⟨_, List.getElem?_eq_getElem (by have := HL.out; omega)⟩
      obtain ⟨b, off, rfl, hbb, hcells⟩ := HR.out (by rintro rfl; cases hx)
      obtain ⟨x0, x1⟩ := hcells q n d hx
      obtain ⟨y0, y1⟩ := hcells k m c hy
      have x0 := cellThru hbe hbb x0
      have x1 := cellThru hbe hbb x1
      have y0 := cellThru hbe hbb y0
      have y1 := cellThru hbe hbb y1
      have hp := allAng_mem HA.out (q := (n, d)) (List.mem_of_getElem? hx)
      have hp' := allAng_mem HA.out (q := (m, c)) (List.mem_of_getElem? hy)
      have HC := Lib.hid (fun w => cmpAng n d m c w (isAng_ok hp) (isAng_ok hp'))
      have HE : Hid (lessA (n, d) (m, c) = decide (cmpI (n * c) (m * d) < 0)) := Lib.hid (by
        show decide (n * c < m * d) = _
        rw [decide_eq_decide]
        constructor
        · exact fun h => cmpI_neg h
        · intro h
          rcases Int.lt_or_le (n * c) (m * d) with h1 | h1
          · exact h1
          · have := cmpI_nonneg (x := n * c) (y := m * d) (by omega)
            omega)
      have HX := Lib.hid hx
      have HZ := Lib.hid hy
      have HK := Lib.hid hq
      have hbw : b < wr.heap.size := Nat.lt_of_lt_of_le hbb hbe.size
      have hrg := cmpI_range (n * c) (m * d)
      clear hcells hx hy hp hp' hq
      generalize cmpI (n * c) (m * d) = R at *
      by_cases hR : R < 0
      · have HT : Hid (lessA (n, d) (m, c) = true) := Lib.hid (by rw [HE.out, decide_eq_true hR])
        go_wp2_with fail
        go_region_with (first | (go_at_call 42; (with_reducible refine (HC.out _).mono ?_); rintro e w1 ⟨rfl, hb1⟩))
        all_goals
          have hB : Below w.heap.size w w1 := belowNext hbe.drew hb1
          clear x0 x1 y0 y1 hb1 hbe
          go_wp2
          go_roundw
          case rel =>
            refine ⟨k + 1, by omega, by omega, by go_num, Lib.hid (fun j x y hj hx hy => ?_), hB⟩
            by_cases hjk : j + 1 = k
            · have hq := HK.out
              obtain rfl : q = j := by omega
              have p1 := HX.out
              have p2 := HZ.out
              rw [← hjk] at p2
              rw [p1] at hx
              rw [p2] at hy
              injection hx with hx
              injection hy with hy
              rw [← hx, ← hy]
              exact HT.out
            · exact HY.out j x y (by omega) hx hy
          case measure => simp [intOf]; omega
      · have HQ : Hid (¬ AscQ l) := Lib.hid (fun h => by
          have p := h q _ _ HX.out (by rw [← HK.out]; exact HZ.out)
          rw [HE.out, decide_eq_false hR] at p
          cases p)
        go_wp2_with fail
        go_region_with (first | (go_at_call 42; (with_reducible refine (HC.out _).mono ?_); rintro e w1 ⟨rfl, hb1⟩))
        all_goals
          have hB : Below w.heap.size w w1 := belowNext hbe.drew hb1
          clear x0 x1 y0 y1 hb1 hbe
          go_wp2
          go_ret
          exact ⟨⟨false, rfl, Lib.hid ⟨fun h => (by cases h), fun h => absurd h HQ.out⟩⟩, hB⟩
    · have HQ : Hid (AscQ l) := Lib.hid (fun j x y hx hy => HY.out j x y (by
        rcases Nat.lt_or_ge (j + 1) l.length with h1 | h1
        · have := HL.out; omega
        · rw [List.getElem?_eq_none h1] at hy; cases hy) hx hy)
      go_wp2
      go_ret
      exact ⟨⟨true, rfl, Lib.hid ⟨fun _ => HQ.out, fun _ => rfl⟩⟩, hbe⟩

set_option maxHeartbeats 1000000 in
theorem idxQ (A : Option Addr) (len cap : Nat) (l : List (Int × Int)) (n d : Int) (w : World) (hr : AngRow w w.heap.size A l) (hl : l.length = len) (hm : len ≤ 1000000000000) :
    Calls Try.prog 26 #[.slice A len cap, ang n d] w fun e w' => e = .returned (.int .i64 (plcI l (n, d))) ∧ Below w.heap.size w w' := by
  have HR := Lib.hid hr
  have HL := Lib.hid hl
  clear hr hl
  go_enter Try.func26, Try.ntmps26
  go_wp2
  go_loopw [8] (fun i wr => ∃ k : Nat, k ≤ len ∧ i = .int .i64 k ∧ Hid (∀ j, j < k → cA l j ≠ (n, d)) ∧ ∃ q, wr = (w.alloc (.cells #[.int .i64 n, .int .i64 d] 32)).drewN q) (fun i _ => len - (intOf i).toNat)
  case atStart => exact ⟨0, by omega, rfl, Lib.hid (fun j h => absurd h (by omega)), 0, rfl⟩
  case round =>
    obtain ⟨k, hk, rfl, HY, q, rfl⟩ := hrel
    by_cases hlt : k < len
    · have hkl : k < l.length := by have := HL.out; omega
      obtain ⟨a, b, hnd⟩ : ∃ a b, cA l k = (a, b) := ⟨_, _, rfl⟩
      have hk2 : l[k]? = some (a, b) := by rw [cA_some hkl, hnd]
      have hne : l ≠ [] := by intro h; rw [h] at hkl; simp at hkl
      obtain ⟨g, off, rfl, hbb, hcells⟩ := HR.out hne
      obtain ⟨x0, x1⟩ := hcells k a b hk2
      have Q1 := fun W => eqlAng n d a b W
      have HK := Lib.hid hnd
      clear hcells hk2 hne hnd
      cases hq : eqA n d a b
      · rw [hq] at Q1
        have HQ : Hid (cA l k ≠ (n, d)) := Lib.hid (fun h => by rw [HK.out] at h; simp only [Prod.mk.injEq] at h; obtain ⟨rfl, rfl⟩ := h; simp [eqA] at hq)
        clear hq
        go_wp2_with fail
        go_quiet (fail)
        go_wp2
        go_roundw
        case rel =>
          refine ⟨k + 1, by omega, by go_num, Lib.hid (fun j hj => ?_), _, rfl⟩
          by_cases hjk : j = k
          · subst hjk; exact HQ.out
          · exact HY.out j (by omega)
        case measure => simp [intOf]; omega
      · rw [hq] at Q1
        have HQ : Hid (plcI l (n, d) = (k : Int)) := Lib.hid (by
          have he : cA l k = (n, d) := by rw [HK.out]; simp [eqA] at hq; obtain ⟨rfl, rfl⟩ := hq; rfl
          have hp := plc_stop hkl HY.out he
          rw [plcI_yes (by omega), hp])
        clear hq
        go_wp2_with fail
        go_quiet (fail)
        go_wp2
        go_ret
        refine ⟨by rw [HQ.out]; rfl, ?_⟩
        (repeat' (first | (with_reducible exact Below.refl _ _) | (with_reducible assumption) | (with_reducible refine belowNext ?_ (by with_reducible assumption)) | (with_reducible refine belowAlloc ?_ _) | (with_reducible refine Below.drew ?_) | (with_reducible refine below_drewN ?_ _) | (with_reducible refine Below.setCell ?_ ?_ _) | go_size | (with_reducible refine sizeOf' ?_) | (with_reducible refine sizeAdd ?_) | (dsimp only; first | (with_reducible refine sizeOf' ?_) | (with_reducible refine sizeAdd ?_))))
    · obtain rfl : k = len := by omega
      have HQ : Hid (plcI l (n, d) = -1) := Lib.hid (plcI_no (by have h := plc_end (l := l) (p := (n, d)) (fun j hj => HY.out j (by have := HL.out; omega)); omega))
      go_wp2
      go_ret
      refine ⟨by rw [HQ.out]; rfl, ?_⟩
      (repeat' (first | (with_reducible exact Below.refl _ _) | (with_reducible assumption) | (with_reducible refine belowNext ?_ (by with_reducible assumption)) | (with_reducible refine belowAlloc ?_ _) | (with_reducible refine Below.drew ?_) | (with_reducible refine below_drewN ?_ _) | (with_reducible refine Below.setCell ?_ ?_ _) | go_size | (with_reducible refine sizeOf' ?_) | (with_reducible refine sizeAdd ?_) | (dsimp only; first | (with_reducible refine sizeOf' ?_) | (with_reducible refine sizeAdd ?_))))

set_option maxHeartbeats 1000000 in
theorem placeQ (A : Option Addr) (len cap : Nat) (l : List (Int × Int)) (n d : Int) (w : World) (hr : AngRow w w.heap.size A l) (hl : l.length = len) (hm : len ≤ 1000000000000) :
    Calls Try.prog 37 #[.slice A len cap, ang n d] w fun e w' => e = .returned (.int .i64 (plcI l (n, d))) ∧ Below w.heap.size w w' := by
  have HR := Lib.hid hr
  have HL := Lib.hid hl
  clear hr hl
  go_enter Try.func37, Try.ntmps37
  go_wp2
  go_loopw [5] (fun i wr => ∃ k : Nat, k ≤ len ∧ i = .int .i64 k ∧ Hid (∀ j, j < k → cA l j ≠ (n, d)) ∧ ∃ q, wr = (w.alloc (.cells #[.int .i64 n, .int .i64 d] 32)).drewN q) (fun i _ => len - (intOf i).toNat)
  case atStart => exact ⟨0, by omega, rfl, Lib.hid (fun j h => absurd h (by omega)), 0, rfl⟩
  case round =>
    obtain ⟨k, hk, rfl, HY, q, rfl⟩ := hrel
    by_cases hlt : k < len
    · have hkl : k < l.length := by have := HL.out; omega
      obtain ⟨a, b, hnd⟩ : ∃ a b, cA l k = (a, b) := ⟨_, _, rfl⟩
      have hk2 : l[k]? = some (a, b) := by rw [cA_some hkl, hnd]
      have hne : l ≠ [] := by intro h; rw [h] at hkl; simp at hkl
      obtain ⟨g, off, rfl, hbb, hcells⟩ := HR.out hne
      obtain ⟨x0, x1⟩ := hcells k a b hk2
      have Q1 := fun W => eqlAng a b n d W
      have HK := Lib.hid hnd
      clear hcells hk2 hne hnd
      cases hq : eqA a b n d
      · rw [hq] at Q1
        have HQ : Hid (cA l k ≠ (n, d)) := Lib.hid (fun h => by rw [HK.out] at h; simp only [Prod.mk.injEq] at h; obtain ⟨rfl, rfl⟩ := h; simp [eqA] at hq)
        clear hq
        go_wp2_with fail
        go_quiet (fail)
        go_wp2
        go_roundw
        case rel =>
          refine ⟨k + 1, by omega, by go_num, Lib.hid (fun j hj => ?_), _, rfl⟩
          by_cases hjk : j = k
          · subst hjk; exact HQ.out
          · exact HY.out j (by omega)
        case measure => simp [intOf]; omega
      · rw [hq] at Q1
        have HQ : Hid (plcI l (n, d) = (k : Int)) := Lib.hid (by
          have he : cA l k = (n, d) := by rw [HK.out]; simp [eqA] at hq; obtain ⟨rfl, rfl⟩ := hq; rfl
          have hp := plc_stop hkl HY.out he
          rw [plcI_yes (by omega), hp])
        clear hq
        go_wp2_with fail
        go_quiet (fail)
        go_wp2
        go_ret
        refine ⟨by rw [HQ.out]; rfl, ?_⟩
        (repeat' (first | (with_reducible exact Below.refl _ _) | (with_reducible assumption) | (with_reducible refine belowNext ?_ (by with_reducible assumption)) | (with_reducible refine belowAlloc ?_ _) | (with_reducible refine Below.drew ?_) | (with_reducible refine below_drewN ?_ _) | (with_reducible refine Below.setCell ?_ ?_ _) | go_size | (with_reducible refine sizeOf' ?_) | (with_reducible refine sizeAdd ?_) | (dsimp only; first | (with_reducible refine sizeOf' ?_) | (with_reducible refine sizeAdd ?_))))
    · obtain rfl : k = len := by omega
      have HQ : Hid (plcI l (n, d) = -1) := Lib.hid (plcI_no (by have h := plc_end (l := l) (p := (n, d)) (fun j hj => HY.out j (by have := HL.out; omega)); omega))
      go_wp2
      go_ret
      refine ⟨by rw [HQ.out]; rfl, ?_⟩
      (repeat' (first | (with_reducible exact Below.refl _ _) | (with_reducible assumption) | (with_reducible refine belowNext ?_ (by with_reducible assumption)) | (with_reducible refine belowAlloc ?_ _) | (with_reducible refine Below.drew ?_) | (with_reducible refine below_drewN ?_ _) | (with_reducible refine Below.setCell ?_ ?_ _) | go_size | (with_reducible refine sizeOf' ?_) | (with_reducible refine sizeAdd ?_) | (dsimp only; first | (with_reducible refine sizeOf' ?_) | (with_reducible refine sizeAdd ?_))))

theorem madeFalseQ (n j : Nat) (h : j < n) : (madeCells (Value.bool false).cells (n * 1)).toList[j]? = some (.bool false) := by
  simp [madeCells, Value.cells, h, Nat.mod_one]
theorem infoBQ : (Try.prog.info? 4).map (fun i => (i.zero, i.size, i.bytes)) = some (some (.bool false), 1, 1) := by kernel_rfl
/-- Which places of m the first k doubles of l have met. -/
def metB (l m : List (Int × Int)) (k j : Nat) : Bool := (List.range k).any fun i => decide (plc m (dA l i) = j)
theorem metB_succ (l m : List (Int × Int)) (k j : Nat) : metB l m (k + 1) j = (metB l m k j || decide (plc m (dA l k) = j)) := by
  unfold metB
  rw [List.range_succ, List.any_append]
  simp
theorem metB_iff {l m : List (Int × Int)} {k j : Nat} : metB l m k j = true ↔ ∃ i, i < k ∧ plc m (dA l i) = j := by
  unfold metB
  rw [List.any_eq_true]
  constructor
  · rintro ⟨i, hi, h⟩
    exact ⟨i, List.mem_range.1 hi, of_decide_eq_true h⟩
  · rintro ⟨i, hi, h⟩
    exact ⟨i, List.mem_range.2 hi, decide_eq_true h⟩
/-- What holds when k angles have been led on: the marks lie in the block U. -/
structure LedI (w : World) (U : Nat) (l m : List (Int × Int)) (k : Nat) (W : World) : Prop where
  B : Below w.heap.size w W
  lo : w.heap.size ≤ U
  z : U < W.heap.size
  met : ∀ j, j < m.length → W.cell? ⟨U, j, none⟩ = some (.bool (metB l m k j))
  free : ∀ o, W.frozen? ⟨U, o, none⟩ = false
theorem LedI.on {w W W1 : World} {U k : Nat} {l m : List (Int × Int)} (H : LedI w U l m k W) (hb : Below W.heap.size W W1) : LedI w U l m k W1 :=
  ⟨belowNext H.B hb, H.lo, Nat.lt_of_lt_of_le H.z hb.size, fun j hj => cellThru hb H.z (H.met j hj), fun o => frozThru hb H.z (H.free o)⟩
theorem LedI.put {w W : World} {U k p : Nat} {l m : List (Int × Int)} (H : LedI w U l m k W) (hp : plc m (dA l k) = p) (hpm : p < m.length) : LedI w U l m (k + 1) (W.setCell ⟨U, p, none⟩ (.bool true)) := by
  refine ⟨H.B.setCell H.lo _, H.lo, by simpa using H.z, fun j hj => ?_, fun o => by simpa using H.free o⟩
  rw [metB_succ]
  by_cases e : j = p
  · subst e
    rw [World.cell?_setCell_same _ _ _ (H.met _ hj), hp]
    simp
  · rw [World.cell?_setCell_other _ _ _ _ (by first | (simp; done) | simpa using e), H.met j hj, hp]
    have : decide (p = j) = false := decide_eq_false (fun h => e h.symm)
    rw [this, Bool.or_false]

set_option maxRecDepth 8000 in
set_option maxHeartbeats 2000000 in
theorem specLed (A : Option Addr) (len cap : Nat) (l : List (Int × Int)) (B : Option Addr) (len2 cap2 : Nat) (m : List (Int × Int)) (w : World) (hr : AngRow w w.heap.size A l) (hl : l.length = len) (hm : len ≤ 1000000) (ha : allAng l = true) (hr2 : AngRow w w.heap.size B m) (hl2 : m.length = len2) (hm2 : len2 ≤ 1000000) :
    Calls Try.prog 35 #[.slice A len cap, .slice B len2 cap2] w (ResYesQ w (LedP l m)) := by
  obtain ⟨j0, ji, jz0, jz1, jz2⟩ := infoAg_parts infoBQ
  have HR := Lib.hid hr
  have HL := Lib.hid hl
  have HL2 := Lib.hid hl2
  have HA := Lib.hid ha
  have HP := Lib.hid (fun W (hB : Below w.heap.size w W) n d => placeQ B len2 cap2 m n d W ((hr2.below hB).more hB.size) hl2 (by omega))
  clear hr hl hl2 ha hr2
  go_enter Try.func35, Try.ntmps35
  go_wp2_with (at_make; refine wpList_make_full _ rfl _ _ 66 rfl w.heap.size 4 j0 (.bool false) 1 Try.underlying66 ji jz0 jz1 .i64 .i64 _ _ len2 rfl rfl rfl rfl (by rw [jz2]; omega) (by unfold maxLen; omega) (by omega) ?_; intro w2 hown2 hgrow2)
  obtain ⟨U, hU⟩ : ∃ U, w.heap.size = U := ⟨_, rfl⟩
  have S0 : LedI w U l m 0 w2 := by
    rw [← hU]
    refine ⟨belowGrownA hgrow2, Nat.le_refl _, ?_, fun j hj => ?_, fun o => hown2.frozenAt o⟩
    · rcases hown2.2 with ⟨hv, _⟩ | ⟨g0, c0, cur, hv, _, hh, _⟩
      · cases hv
      · injection hv with hv
        injection hv with hv
        injection hv with hv
        rw [← hv] at hh
        rcases Nat.lt_or_ge w.heap.size w2.heap.size with h1 | h1
        · exact h1
        · rw [Array.getElem?_eq_none h1] at hh; cases hh
    · have e := hown2.cellAt j (by have := HL2.out; omega)
      rw [e, madeFalseQ _ _ (by have := HL2.out; omega)]
      rfl
  rw [hU] at hown2 ⊢
  clear hown2 hgrow2
  go_wp2_with fail
  go_loopw [6, 7] (fun i _ wr => ∃ k : Nat, k ≤ len ∧ i = .int .i64 k ∧ Hid ((∀ i, i < k → plc m (dA l i) < m.length) ∧ (∀ i j, i < j → j < k → plc m (dA l i) ≠ plc m (dA l j))) ∧ LedI w U l m k wr) (fun i _ _ => len - (intOf i).toNat)
  case atStart => exact ⟨0, by omega, rfl, Lib.hid ⟨fun i h => absurd h (by omega), fun i j _ h => absurd h (by omega)⟩, S0⟩
  case round =>
    clear S0 hU
    obtain ⟨k, hk, rfl, HY, S⟩ := hrel
    by_cases hlt : k < len
    · have hkl : k < l.length := by have := HL.out; omega
      obtain ⟨b, off, rfl, hbb, hcells⟩ := HR.out (by rintro rfl; simp at hkl)
      obtain ⟨x0, x1⟩ := hcells k _ _ (cA_some hkl)
      have x0 := cellThru S.B hbb x0
      have x1 := cellThru S.B hbb x1
      have hp := isAng_yes (cA_ang HA.out hkl)
      have HD := Lib.hid (fun w => specDbl (cA l k).1 (cA l k).2 w (by omega) (by omega) (by omega) (by omega))
      have hbw : b < wr.heap.size := Nat.lt_of_lt_of_le hbb S.B.size
      have HPk := Lib.hid (fun W (hB : Below w.heap.size w W) => HP.out W hB (dA l k).1 (dA l k).2)
      have HE : Hid (∀ j, metB l m k j = true ↔ ∃ i, i < k ∧ plc m (dA l i) = j) := Lib.hid (fun j => metB_iff)
      have e1 : (redN (2 * (cA l k).1) (cA l k).2) = (dA l k).1 := rfl
      have e2 : (redD (2 * (cA l k).1) (cA l k).2) = (dA l k).2 := rfl
      rw [e1, e2] at HD
      clear e1 e2 hcells hp
      generalize (cA l k).1 = n at *
      generalize (cA l k).2 = d at *
      by_cases hin : plc m (dA l k) < m.length
      · have HI := Lib.hid (plcI_yes hin)
        rw [show ((dA l k).1, (dA l k).2) = dA l k from rfl, HI.out] at HPk
        have HPut := Lib.hid (fun W (H : LedI w U l m k W) => H.put rfl hin)
        obtain ⟨p, hpe⟩ : ∃ p, plc m (dA l k) = p := ⟨_, rfl⟩
        have HPE := Lib.hid hpe
        rw [hpe] at HPk HPut hin
        have hin2 : p < len2 := by have := HL2.out; omega
        have HIN := Lib.hid hin
        have HEp := Lib.hid (HE.out p)
        clear HI hpe hin
        generalize (dA l k).1 = x at *
        generalize (dA l k).2 = y at *
        cases hmt : metB l m k p
        · have HN : Hid (∀ i, i < k → plc m (dA l i) ≠ p) := Lib.hid (fun i hi h => by
            have := HEp.out.2 ⟨i, hi, h⟩
            rw [hmt] at this; cases this)
          go_wp2_with fail
          refine (HD.out _).mono ?_
          rintro e w3 ⟨rfl, hb3⟩
          have S3 := S.on hb3
          clear S hb3 x0 x1
          go_wp2_with fail
          refine (HPk.out _ S3.B).mono ?_
          rintro e w4 ⟨rfl, hb4⟩
          have S4 := S3.on hb4
          clear S3 hb4
          have y0 := S4.met p HIN.out
          rw [hmt] at y0
          have f0 := S4.free p
          have hz4 := S4.z
          have S5 := HPut.out _ S4
          clear S4
          go_wp2
          go_roundw
          case rel =>
            refine ⟨k + 1, by omega, by go_num, Lib.hid ⟨fun i hi => ?_, fun i j hij hj => ?_⟩, S5⟩
            · by_cases e : i = k
              · subst e; rw [HPE.out]; exact HIN.out
              · exact HY.out.1 i (by omega)
            · by_cases e : j = k
              · subst e; rw [HPE.out]; exact HN.out i (by omega)
              · exact HY.out.2 i j hij (by omega)
          case measure => simp [intOf]; omega
        · have HN : Hid (¬ LedP l m) := Lib.hid (fun h => by
            obtain ⟨i, hi, he⟩ := HEp.out.1 hmt
            exact h.2.1 i k hi (by have := HL.out; omega) (by rw [he, HPE.out]))
          go_wp2_with fail
          refine (HD.out _).mono ?_
          rintro e w3 ⟨rfl, hb3⟩
          have S3 := S.on hb3
          clear S hb3 x0 x1
          go_wp2_with fail
          refine (HPk.out _ S3.B).mono ?_
          rintro e w4 ⟨rfl, hb4⟩
          have S4 := S3.on hb4
          clear S3 hb4
          have y0 := S4.met p HIN.out
          rw [hmt] at y0
          have hz4 := S4.z
          go_wp2
          go_ret
          exact ⟨⟨false, rfl, Lib.hid ⟨fun h => (by cases h), fun h => absurd h HN.out⟩⟩, S4.B⟩
      · have HI := Lib.hid (plcI_no hin)
        rw [show ((dA l k).1, (dA l k).2) = dA l k from rfl, HI.out] at HPk
        have HN : Hid (¬ LedP l m) := Lib.hid (fun h => hin (h.1 k (by have := HL.out; omega)))
        clear HI hin
        generalize (dA l k).1 = x at *
        generalize (dA l k).2 = y at *
        go_wp2_with fail
        refine (HD.out _).mono ?_
        rintro e w3 ⟨rfl, hb3⟩
        have S3 := S.on hb3
        clear S hb3 x0 x1
        go_wp2_with fail
        refine (HPk.out _ S3.B).mono ?_
        rintro e w4 ⟨rfl, hb4⟩
        have S4 := S3.on hb4
        clear S3 hb4
        go_wp2
        go_ret
        exact ⟨⟨false, rfl, Lib.hid ⟨fun h => (by cases h), fun h => absurd h HN.out⟩⟩, S4.B⟩
    · obtain rfl : k = len := by omega
      by_cases he : k = len2
      · have HQ : Hid (LedP l m) := Lib.hid ⟨fun i hi => HY.out.1 i (by have := HL.out; omega), fun i j hij hj => HY.out.2 i j hij (by have := HL.out; omega), by rw [HL.out, HL2.out, he]⟩
        have d1 : ((k : Int) == (len2 : Int)) = true := by rw [he]; simp
        go_wp2
        go_ret
        exact ⟨⟨_, rfl, Lib.hid ⟨fun _ => HQ.out, fun _ => rfl⟩⟩, S.B⟩
      · have HQ : Hid (¬ LedP l m) := Lib.hid (fun h => he (by have := h.2.2; have := HL.out; have := HL2.out; omega))
        have d1 : ((k : Int) == (len2 : Int)) = false := by simp; omega
        go_wp2
        go_ret
        exact ⟨⟨_, rfl, Lib.hid ⟨fun h => (by cases h), fun h => absurd h HQ.out⟩⟩, S.B⟩

theorem neqlQ (a1 a2 b1 b2 : Int) (W : World) : (binOp .neq 32 (ang a1 a2) (ang b1 b2)).run Try.prog W = .ok (.bool (!eqA a1 a2 b1 b2)) W := by
  by_cases h1 : a1 = b1
  · by_cases h2 : a2 = b2
    · subst h1 h2
      simp [go_sem, eqA]
    · subst h1
      simp [go_sem, eqA, h2]
  · simp [go_sem, eqA, h1]
/-- The cells of two angles, in every world of a region. -/
structure TwoQ (w : World) (a1 a2 b1 b2 : Addr) (n d m c : Int) (W : World) : Prop where
  B : Below w.heap.size w W
  z1 : a1.block < W.heap.size
  z2 : a2.block < W.heap.size
  z3 : b1.block < W.heap.size
  z4 : b2.block < W.heap.size
  x0 : W.cell? a1 = some (.int .i64 n)
  x1 : W.cell? a2 = some (.int .i64 d)
  y0 : W.cell? b1 = some (.int .i64 m)
  y1 : W.cell? b2 = some (.int .i64 c)
theorem TwoQ.on {w W W1 : World} {a1 a2 b1 b2 : Addr} {n d m c : Int} (H : TwoQ w a1 a2 b1 b2 n d m c W) (hb : Below W.heap.size W W1) : TwoQ w a1 a2 b1 b2 n d m c W1 := by
  have hs := hb.size
  have := H.z1; have := H.z2; have := H.z3; have := H.z4
  exact ⟨belowNext H.B hb, by omega, by omega, by omega, by omega, (hb.cell H.z1).trans H.x0, (hb.cell H.z2).trans H.x1, (hb.cell H.z3).trans H.y0, (hb.cell H.z4).trans H.y1⟩
theorem remQ {a n : Nat} (h : 0 < n) : ((a : Int)).tmod (n : Int) = ((a % n : Nat) : Int) ∧ ((a : Int)) % (n : Int) = ((a % n : Nat) : Int) ∧ a % n < n := by
  refine ⟨?_, by norm_cast, Nat.mod_lt _ h⟩
  rw [Int.tmod_eq_emod_of_nonneg (by omega)]
  norm_cast

set_option maxRecDepth 8000 in
set_option maxHeartbeats 2000000 in
theorem specOrd (A : Option Addr) (len cap : Nat) (l : List (Int × Int)) (B : Option Addr) (len2 cap2 : Nat) (m : List (Int × Int)) (w : World) (hr : AngRow w w.heap.size A l) (hl : l.length = len) (hm : len ≤ 1000000) (ha : allAng l = true) (hr2 : AngRow w w.heap.size B m) (hl2 : m.length = len2) (hL : LedP l m) :
    Calls Try.prog 36 #[.slice A len cap, .slice B len2 cap2] w (ResYesQ w (OrdP l m)) := by
  have HR := Lib.hid hr
  have HL := Lib.hid hl
  have HA := Lib.hid ha
  have HIn := Lib.hid hL.1
  have hlm : len2 = len := by have := hL.2.2; omega
  have HP := Lib.hid (fun W (hB : Below w.heap.size w W) n d => placeQ B len2 cap2 m n d W ((hr2.below hB).more hB.size) hl2 (by omega))
  have HMl := Lib.hid hl2
  have HLM := Lib.hid hlm
  clear hr hl hl2 ha hr2 hL hlm
  go_enter Try.func36, Try.ntmps36
  go_wp2_with fail
  go_loopw [6, 7, 8] (fun i _ _ wr => ∃ k : Nat, k ≤ len ∧ i = .int .i64 k ∧ Hid (∀ i, i < k → plc m (dA l ((i + 1) % l.length)) = (plc m (dA l i) + 1) % l.length) ∧ Below w.heap.size w wr) (fun i _ _ _ => len - (intOf i).toNat)
  case atStart => exact ⟨0, by omega, rfl, Lib.hid (fun i h => absurd h (by omega)), Below.refl _ _⟩
  case round =>
    obtain ⟨k, hk, rfl, HY, hbe⟩ := hrel
    by_cases hlt : k < len
    · have hkl : k < l.length := by have := HL.out; omega
      obtain ⟨hm1, hm2, hj⟩ := remQ (a := k + 1) (n := len) (by omega)
      obtain ⟨j, hje⟩ : ∃ j, (k + 1) % len = j := ⟨_, rfl⟩
      rw [hje] at hm1 hm2 hj
      have HJ : Hid ((k + 1) % l.length = j) := Lib.hid (by rw [HL.out]; exact hje)
      have hm1 : ((k : Int) + 1).tmod (len : Int) = (j : Int) := hm1
      have hm2 : ((k : Int) + 1) % (len : Int) = (j : Int) := hm2
      have hjl : j < l.length := by have := HL.out; omega
      have hjI : (j : Int) < (len : Int) := by omega
      have hwj : IntKind.i64.wrap (j : Int) = (j : Int) := IntWalk.i64_in _ (by omega)
      obtain ⟨b, off, rfl, hbb, hcells⟩ := HR.out (by rintro rfl; simp at hkl)
      obtain ⟨x0, x1⟩ := hcells k _ _ (cA_some hkl)
      obtain ⟨y0, y1⟩ := hcells j _ _ (cA_some hjl)
      have hbw : b < wr.heap.size := Nat.lt_of_lt_of_le hbb hbe.size
      have S0 : TwoQ w ⟨b, off + k * 2, none⟩ ⟨b, off + k * 2 + 1, none⟩ ⟨b, off + j * 2, none⟩ ⟨b, off + j * 2 + 1, none⟩ _ _ _ _ wr := ⟨hbe, hbw, hbw, hbw, hbw, cellThru hbe hbb x0, cellThru hbe hbb x1, cellThru hbe hbb y0, cellThru hbe hbb y1⟩
      have hp := isAng_yes (cA_ang HA.out hkl)
      have hp' := isAng_yes (cA_ang HA.out hjl)
      have HD : Hid (∀ w, Calls Try.prog 38 #[ang (cA l k).1 (cA l k).2] w fun e w' => e = .returned (ang (dA l k).1 (dA l k).2) ∧ Below w.heap.size w w') := Lib.hid (fun w => specDbl (cA l k).1 (cA l k).2 w (by omega) (by omega) (by omega) (by omega))
      have HD' : Hid (∀ w, Calls Try.prog 38 #[ang (cA l j).1 (cA l j).2] w fun e w' => e = .returned (ang (dA l j).1 (dA l j).2) ∧ Below w.heap.size w w') := Lib.hid (fun w => specDbl (cA l j).1 (cA l j).2 w (by omega) (by omega) (by omega) (by omega))
      have in1 := HIn.out k hkl
      have in2 := HIn.out j hjl
      have HP1 := Lib.hid (fun W (hB : Below w.heap.size w W) => HP.out W hB (dA l k).1 (dA l k).2)
      have HP2 := Lib.hid (fun W (hB : Below w.heap.size w W) => HP.out W hB (dA l j).1 (dA l j).2)
      rw [show ((dA l k).1, (dA l k).2) = dA l k from rfl, plcI_yes in1] at HP1
      rw [show ((dA l j).1, (dA l j).2) = dA l j from rfl, plcI_yes in2] at HP2
      have HO : Hid (OrdP l m → plc m (dA l j) = (plc m (dA l k) + 1) % len) := Lib.hid (fun h => by
        have := h k hkl
        rw [HJ.out, HL.out] at this
        exact this)
      have HO2 : Hid (plc m (dA l j) = (plc m (dA l k) + 1) % len → plc m (dA l ((k + 1) % l.length)) = (plc m (dA l k) + 1) % l.length) := Lib.hid (fun h => by rw [HJ.out, HL.out]; exact h)
      have pk : plc m (dA l k) < len := by have := HMl.out; have := HLM.out; omega
      have pj : plc m (dA l j) < len := by have := HMl.out; have := HLM.out; omega
      obtain ⟨P, hP⟩ : ∃ P, plc m (dA l k) = P := ⟨_, rfl⟩
      obtain ⟨P', hP'⟩ : ∃ P', plc m (dA l j) = P' := ⟨_, rfl⟩
      rw [hP] at HP1 HO HO2 pk
      rw [hP'] at HP2 HO HO2 pj
      have HPe := Lib.hid hP
      obtain ⟨q1, q2, hq⟩ := remQ (a := P + 1) (n := len) (by omega)
      obtain ⟨r, hre⟩ : ∃ r, (P + 1) % len = r := ⟨_, rfl⟩
      rw [hre] at q1 q2 hq HO HO2
      have q1 : ((P : Int) + 1).tmod (len : Int) = (r : Int) := q1
      have q2 : ((P : Int) + 1) % (len : Int) = (r : Int) := q2
      have hwr : IntKind.i64.wrap (r : Int) = (r : Int) := IntWalk.i64_in _ (by omega)
      have hln : ¬ (len : Int) = 0 := by omega
      have hln' : ¬ len = 0 := by omega
      have hw1 : IntKind.i64.wrap ((k : Int) + 1) = (k : Int) + 1 := IntWalk.i64_in _ (by omega)
      have hw2 : IntKind.i64.wrap ((P : Int) + 1) = (P : Int) + 1 := IntWalk.i64_in _ (by omega)
      clear hje hcells x0 x1 y0 y1 hp hp' in1 in2 hP hP' hre hkl hjl hbe HP HIn
      generalize (cA l k).1 = n at *
      generalize (cA l k).2 = d at *
      generalize (cA l j).1 = n' at *
      generalize (cA l j).2 = d' at *
      generalize (dA l k).1 = x at *
      generalize (dA l k).2 = y at *
      generalize (dA l j).1 = x' at *
      generalize (dA l j).2 = y' at *
      go_wp2_with fail
      refine wp_region_held_drew (S := (TwoQ w ⟨b, off + k * 2, none⟩ ⟨b, off + k * 2 + 1, none⟩ ⟨b, off + j * 2, none⟩ ⟨b, off + j * 2 + 1, none⟩ n d n' d')) (by kernel_rfl) ?_ (fun hHeld => ?_)
      · exact S0.on (Below.refl _ _).drew
      refine wpAnyH_take (i := 0) (v := ?_) rfl (by kernel_rfl) (by kernel_rfl) (by kernel_rfl) (fun _ _ _ h => h) (Or.inl ⟨by kernel_rfl, ?_⟩) hHeld ?_
      rotate_left
      · intro w hSw; obtain ⟨B, z1, z2, z3, z4, x0, x1, y0, y1⟩ := hSw; first | (go_simp; done) | (go_simp; with_reducible rfl)
      refine wpAnyH_take (i := 1) (v := ?_) rfl (by kernel_rfl) (by kernel_rfl) (by kernel_rfl) (fun _ _ _ h => h) (Or.inl ⟨by kernel_rfl, ?_⟩) hHeld ?_
      rotate_left
      · intro w hSw; obtain ⟨B, z1, z2, z3, z4, x0, x1, y0, y1⟩ := hSw; first | (go_simp; done) | (go_simp; with_reducible rfl)
      refine wpAnyH_take (i := 2) (v := ?_) rfl (by kernel_rfl) (by kernel_rfl) (by kernel_rfl) (fun _ _ _ h => h) (Or.inl ⟨by kernel_rfl, ?_⟩) hHeld ?_
      rotate_left
      · intro w hSw; obtain ⟨B, z1, z2, z3, z4, x0, x1, y0, y1⟩ := hSw; first | (go_simp; done) | (go_simp; with_reducible rfl)
      refine wpAnyH_take (i := 3) (v := ?_) rfl (by kernel_rfl) (by kernel_rfl) (by kernel_rfl) (fun _ _ _ h => h) (Or.inl ⟨by kernel_rfl, ?_⟩) hHeld ?_
      rotate_left
      · intro w hSw; obtain ⟨B, z1, z2, z3, z4, x0, x1, y0, y1⟩ := hSw; first | (go_simp; done) | (go_simp; with_reducible rfl)
      refine wpAnyH_take (i := 4) (v := ?_) rfl (by kernel_rfl) (by kernel_rfl) (by kernel_rfl) (fun _ _ _ h => h) (Or.inl ⟨by kernel_rfl, ?_⟩) hHeld ?_
      rotate_left
      · intro w hSw; obtain ⟨B, z1, z2, z3, z4, x0, x1, y0, y1⟩ := hSw; first | (go_simp; done) | (go_simp; with_reducible rfl)
      refine wpAnyH_take (i := 7) (v := ?_) rfl (by kernel_rfl) (by kernel_rfl) (by kernel_rfl) (fun _ _ _ h => h) (Or.inl ⟨by kernel_rfl, ?_⟩) hHeld ?_
      rotate_left
      · intro w hSw; obtain ⟨B, z1, z2, z3, z4, x0, x1, y0, y1⟩ := hSw; first | (go_simp; done) | (go_simp; with_reducible rfl)
      refine wpAnyH_take (i := 8) (v := ?_) rfl (by kernel_rfl) (by kernel_rfl) (by kernel_rfl) (fun _ _ _ h => h) (Or.inl ⟨by kernel_rfl, ?_⟩) hHeld ?_
      rotate_left
      · intro w hSw; obtain ⟨B, z1, z2, z3, z4, x0, x1, y0, y1⟩ := hSw; first | (go_simp; done) | (go_simp; with_reducible rfl)
      refine wpAnyH_take (i := 9) (v := ?_) rfl (by kernel_rfl) (by kernel_rfl) (by kernel_rfl) (fun _ _ _ h => h) (Or.inl ⟨by kernel_rfl, ?_⟩) hHeld ?_
      rotate_left
      · intro w hSw; obtain ⟨B, z1, z2, z3, z4, x0, x1, y0, y1⟩ := hSw; first | (go_simp; done) | (go_simp; with_reducible rfl)
      refine wpAnyH_take (i := 10) (v := ?_) rfl (by kernel_rfl) (by kernel_rfl) (by kernel_rfl) (fun _ _ _ h => h) (Or.inl ⟨by kernel_rfl, ?_⟩) hHeld ?_
      rotate_left
      · intro w hSw; obtain ⟨B, z1, z2, z3, z4, x0, x1, y0, y1⟩ := hSw; first | (go_simp; done) | (go_simp; with_reducible rfl)
      refine wpAnyH_take (i := 11) (v := ?_) rfl (by kernel_rfl) (by kernel_rfl) (by kernel_rfl) (fun _ _ _ h => h) (Or.inl ⟨by kernel_rfl, ?_⟩) hHeld ?_
      rotate_left
      · intro w hSw; obtain ⟨B, z1, z2, z3, z4, x0, x1, y0, y1⟩ := hSw; first | (go_simp; done) | (go_simp; with_reducible rfl)
      refine wpAnyH_take (i := 12) (v := ?_) rfl (by kernel_rfl) (by kernel_rfl) (by kernel_rfl) (fun _ _ _ h => h) (Or.inl ⟨by kernel_rfl, ?_⟩) hHeld ?_
      rotate_left
      · intro w hSw; obtain ⟨B, z1, z2, z3, z4, x0, x1, y0, y1⟩ := hSw; first | (go_simp; done) | (go_simp; with_reducible rfl)
      refine wpAnyH_take (i := 13) (v := ?_) rfl (by kernel_rfl) (by kernel_rfl) (by kernel_rfl) (fun _ _ _ h => h) (Or.inl ⟨by kernel_rfl, ?_⟩) hHeld ?_
      rotate_left
      · intro w hSw; obtain ⟨B, z1, z2, z3, z4, x0, x1, y0, y1⟩ := hSw; first | (go_simp; done) | (go_simp; with_reducible rfl)
      refine wpAnyH_take (i := 14) (v := ?_) rfl (by kernel_rfl) (by kernel_rfl) (by kernel_rfl) (fun _ _ _ h => h) (Or.inl ⟨by kernel_rfl, ?_⟩) hHeld ?_
      rotate_left
      · intro w hSw; obtain ⟨B, z1, z2, z3, z4, x0, x1, y0, y1⟩ := hSw; first | (go_simp; done) | (go_simp; with_reducible rfl)
      refine wpAnyH_ready (rs := [5]) (by kernel_rfl) (by simp) ?_
      refine AllReadyH.cons rfl (fun K hK => ?_) AllReadyH.nil
      go_simp
      go_wp2_with (go_at_call 38; (with_reducible refine (HD.out _).mono ?_); rintro e w1 ⟨rfl, hb1⟩)
      have S1 := hHeld.on hb1
      refine hK.out _ _ ?_ (fun hHeld => ?_)
      · exact S1
      clear hK K
      refine wpAnyH_ready (rs := [6]) (by kernel_rfl) (by simp) ?_
      refine AllReadyH.cons rfl (fun K hK => ?_) AllReadyH.nil
      go_simp
      go_wp2_with (go_at_call 37; (with_reducible refine (HP1.out _ S1.B).mono ?_); rintro e w2 ⟨rfl, hb2⟩)
      have S2 := S1.on hb2
      refine hK.out _ _ ?_ (fun hHeld => ?_)
      · exact S2
      clear hK K
      refine wpAnyH_ready (rs := [15]) (by kernel_rfl) (by simp) ?_
      refine AllReadyH.cons rfl (fun K hK => ?_) AllReadyH.nil
      go_simp
      go_wp2_with (go_at_call 38; (with_reducible refine (HD'.out _).mono ?_); rintro e w3 ⟨rfl, hb3⟩)
      have S3 := S2.on hb3
      refine hK.out _ _ ?_ (fun hHeld => ?_)
      · exact S3
      clear hK K
      refine wpAnyH_ready (rs := [16]) (by kernel_rfl) (by simp) ?_
      refine AllReadyH.cons rfl (fun K hK => ?_) AllReadyH.nil
      go_simp
      go_wp2_with (go_at_call 37; (with_reducible refine (HP2.out _ S3.B).mono ?_); rintro e w4 ⟨rfl, hb4⟩)
      have S4 := S3.on hb4
      refine hK.out _ _ ?_ (fun hHeld => ?_)
      · exact S4
      clear hK K
      refine wpAnyH_take (i := 17) (v := ?_) rfl (by kernel_rfl) (by kernel_rfl) (by kernel_rfl) (fun _ _ _ h => h) (Or.inl ⟨by kernel_rfl, ?_⟩) hHeld ?_
      rotate_left
      · intro w hSw; obtain ⟨B, z1, z2, z3, z4, x0, x1, y0, y1⟩ := hSw; first | (go_simp; done) | (go_simp; with_reducible rfl)
      refine wpAnyH_take (i := 18) (v := ?_) rfl (by kernel_rfl) (by kernel_rfl) (by kernel_rfl) (fun _ _ _ h => h) (Or.inl ⟨by kernel_rfl, ?_⟩) hHeld ?_
      rotate_left
      · intro w hSw; obtain ⟨B, z1, z2, z3, z4, x0, x1, y0, y1⟩ := hSw; first | (go_simp; done) | (go_simp; with_reducible rfl)
      refine wpAnyH_done (by kernel_rfl) ?_ _
      have S5 := S4
      have B5 := S5.B
      clear S0 S1 S2 S3 S4 S5
      by_cases he : P' = r
      · have d1 : ((P' : Int) == (r : Int)) = true := by rw [he]; simp
        have d2 : (P' : Int) = (r : Int) := by rw [he]
        go_wp2
        go_roundw
        case rel =>
          refine ⟨k + 1, by omega, by go_num, Lib.hid (fun i hi => ?_), B5⟩
          by_cases e : i = k
          · subst e; rw [HO2.out he, HPe.out, HL.out]
          · exact HY.out i (by omega)
        case measure => simp [intOf]; omega
      · have d1 : ((P' : Int) == (r : Int)) = false := by simp; omega
        have d2 : ¬ (P' : Int) = (r : Int) := by omega
        go_wp2
        go_ret
        exact ⟨⟨false, rfl, Lib.hid ⟨fun h => (by cases h), fun h => absurd (HO.out h) he⟩⟩, B5⟩
    · obtain rfl : k = len := by omega
      have HQ : Hid (OrdP l m) := Lib.hid (fun i hi => HY.out i (by have := HL.out; omega))
      go_wp2
      go_ret
      exact ⟨⟨true, rfl, Lib.hid ⟨fun _ => HQ.out, fun _ => rfl⟩⟩, hbe⟩

/-- What turnBetween answers. -/
def TurnRes (w : World) (l m : List (Int × Int)) (e : Ending) (w' : World) : Prop :=
  ((∃ t : Nat, Turned l m t ∧ e = .returned (.tuple #[.int .i64 t, .bool true])) ∨ ((¬ ∃ t, Turned l m t) ∧ e = .returned (.tuple #[.int .i64 0, .bool false]))) ∧ Below w.heap.size w w'

set_option maxRecDepth 8000 in
set_option maxHeartbeats 2000000 in
theorem implTurn (A : Option Addr) (len cap : Nat) (l : List (Int × Int)) (B : Option Addr) (len2 cap2 : Nat) (m : List (Int × Int)) (w : World) (hr : AngRow w w.heap.size A l) (hl : l.length = len) (hm : len ≤ 1000000) (ha : allAng l = true) (hr2 : AngRow w w.heap.size B m) (hl2 : m.length = len2) (hm2 : len2 ≤ 1000000) (h0 : 0 < len) :
    Calls Try.prog 23 #[.slice A len cap, .slice B len2 cap2] w (TurnRes w l m) := by
  have HR := Lib.hid hr
  have HR2 := Lib.hid hr2
  have HL := Lib.hid hl
  have HL2 := Lib.hid hl2
  have HA := Lib.hid ha
  have hl0 : 0 < l.length := by omega
  obtain ⟨b, off, rfl, hbb, hcells⟩ := HR.out (by rintro rfl; simp at hl0)
  obtain ⟨x0, x1⟩ := hcells 0 _ _ (cA_some hl0)
  rw [Nat.zero_mul, Nat.add_zero] at x0 x1
  have HC := Lib.hid hcells
  have hp := isAng_yes (cA_ang HA.out hl0)
  have HD : Hid (∀ w, Calls Try.prog 25 #[ang (cA l 0).1 (cA l 0).2] w fun e w' => e = .returned (ang (dA l 0).1 (dA l 0).2) ∧ Below w.heap.size w w') := Lib.hid (fun w => implDbl (cA l 0).1 (cA l 0).2 w (by omega) (by omega) (by omega) (by omega))
  have HP := Lib.hid (fun W (hB : Below w.heap.size w W) => idxQ B len2 cap2 m (dA l 0).1 (dA l 0).2 W ((hr2.below hB).more hB.size) hl2 (by omega))
  rw [show ((dA l 0).1, (dA l 0).2) = dA l 0 from rfl] at HP
  have hl0I : (0 : Int) < (len : Int) := by omega
  clear hr hl hl2 ha hr2 hcells hp
  by_cases hin : plc m (dA l 0) < m.length
  · rw [plcI_yes hin] at HP
    obtain ⟨T, hT⟩ : ∃ T, plc m (dA l 0) = T := ⟨_, rfl⟩
    have HT := Lib.hid hT
    rw [hT] at HP hin
    have hin2 : T < len2 := by have := HL2.out; omega
    have hm0 : 0 < m.length := by omega
    obtain ⟨b2, off2, rfl, hbb2, hcells2⟩ := HR2.out (by rintro rfl; simp at hm0)
    have HC2 := Lib.hid hcells2
    clear hT hin hm0 hcells2
    generalize (cA l 0).1 = n at *
    generalize (cA l 0).2 = d at *
    generalize (dA l 0).1 = x at *
    generalize (dA l 0).2 = y at *
    go_enter Try.func23, Try.ntmps23
    go_wp2_with fail
    refine (HD.out _).mono ?_
    rintro e w1 ⟨rfl, hb1⟩
    go_wp2_with fail
    refine (HP.out _ hb1).mono ?_
    rintro e w2 ⟨rfl, hb2⟩
    have B2 : Below w.heap.size w w2 := belowNext hb1 hb2
    clear hb1 hb2 HP HD x0 x1
    go_wp2_with fail
    go_loopw [7, 8, 19] (fun _ _ i wr => ∃ k : Nat, k ≤ len ∧ i = .int .i64 k ∧ Hid (∀ i, i < k → dA l i = cA m ((i + T) % m.length)) ∧ Below w.heap.size w wr) (fun _ _ i _ => len - (intOf i).toNat)
    case atStart => exact ⟨0, by omega, rfl, Lib.hid (fun i h => absurd h (by omega)), B2⟩
    case round =>
      clear B2
      obtain ⟨k, hk, rfl, HY, hbe⟩ := hrel
      by_cases hlt : k < len
      · have hkl : k < l.length := by have := HL.out; omega
        obtain ⟨hm1, hm2, hj⟩ := remQ (a := k + T) (n := len2) (by omega)
        obtain ⟨j, hje⟩ : ∃ j, (k + T) % len2 = j := ⟨_, rfl⟩
        rw [hje] at hm1 hm2 hj
        have HJ : Hid ((k + T) % m.length = j) := Lib.hid (by rw [HL2.out]; exact hje)
        have hm1 : ((k : Int) + (T : Int)).tmod (len2 : Int) = (j : Int) := hm1
        have hm2 : ((k : Int) + (T : Int)) % (len2 : Int) = (j : Int) := hm2
        have hjl : j < m.length := by have := HL2.out; omega
        have hjI : (j : Int) < (len2 : Int) := by omega
        have hwj : IntKind.i64.wrap (j : Int) = (j : Int) := IntWalk.i64_in _ (by omega)
        have hln : ¬ (len2 : Int) = 0 := by omega
        have hln' : ¬ len2 = 0 := by omega
        have hw1 : IntKind.i64.wrap ((k : Int) + (T : Int)) = (k : Int) + (T : Int) := IntWalk.i64_in _ (by omega)
        obtain ⟨u0, u1⟩ := HC.out k _ _ (cA_some hkl)
        obtain ⟨y0, y1⟩ := HC2.out j _ _ (cA_some hjl)
        have u0 := cellThru hbe hbb u0
        have u1 := cellThru hbe hbb u1
        have hbw : b < wr.heap.size := Nat.lt_of_lt_of_le hbb hbe.size
        have hbw2 : b2 < wr.heap.size := Nat.lt_of_lt_of_le hbb2 hbe.size
        have S0 : TwoQ w ⟨wr.heap.size, 0, none⟩ ⟨wr.heap.size, 1, none⟩ ⟨b2, off2 + j * 2, none⟩ ⟨b2, off2 + j * 2 + 1, none⟩ (cA l k).1 (cA l k).2 (cA m j).1 (cA m j).2 (wr.alloc (.cells #[.int .i64 (cA l k).1, .int .i64 (cA l k).2] 32)) :=
          ⟨belowAlloc hbe _, by simp, by simp, by simp; omega, by simp; omega, by simp [go_sem], by simp [go_sem], cellThru (belowAlloc (Below.refl _ _) _) hbw2 (cellThru hbe hbb2 y0), cellThru (belowAlloc (Below.refl _ _) _) hbw2 (cellThru hbe hbb2 y1)⟩
        have hp := isAng_yes (cA_ang HA.out hkl)
        have HD : Hid (∀ w, Calls Try.prog 25 #[ang (cA l k).1 (cA l k).2] w fun e w' => e = .returned (ang (dA l k).1 (dA l k).2) ∧ Below w.heap.size w w') := Lib.hid (fun w => implDbl (cA l k).1 (cA l k).2 w (by omega) (by omega) (by omega) (by omega))
        have Q1 := fun W => neqlQ (dA l k).1 (dA l k).2 (cA m j).1 (cA m j).2 W
        have HE : Hid (eqA (dA l k).1 (dA l k).2 (cA m j).1 (cA m j).2 = true ↔ dA l k = cA m ((k + T) % m.length)) := Lib.hid (by
          rw [HJ.out]
          exact eqA_iff4 ..)
        clear y0 y1 hp hje hkl hjl
        obtain ⟨g, hg⟩ : ∃ g, wr.heap.size = g := ⟨_, rfl⟩
        have HG := Lib.hid hg
        cases hq : eqA (dA l k).1 (dA l k).2 (cA m j).1 (cA m j).2
        all_goals
          have HQ := Lib.hid hq
          rw [hq] at Q1
          rw [hg] at S0
          simp only [Bool.not_false, Bool.not_true] at Q1
          clear hq hg
          generalize (cA l k).1 = n' at *
          generalize (cA l k).2 = d' at *
          generalize (dA l k).1 = x' at *
          generalize (dA l k).2 = y' at *
          generalize (cA m j).1 = p at *
          generalize (cA m j).2 = q at *
          go_wp2_with fail
          rw [HG.out]
          refine wp_region_held_drew (S := (TwoQ w ⟨g, 0, none⟩ ⟨g, 1, none⟩ ⟨b2, off2 + j * 2, none⟩ ⟨b2, off2 + j * 2 + 1, none⟩ n' d' p q)) (by kernel_rfl) ?_ (fun hHeld => ?_)
          · exact S0.on (Below.refl _ _).drew
          refine wpAnyH_take (i := 0) (v := ?_) rfl (by kernel_rfl) (by kernel_rfl) (by kernel_rfl) (fun _ _ _ h => h) (Or.inl ⟨by kernel_rfl, ?_⟩) hHeld ?_
          rotate_left
          · intro w hSw; obtain ⟨B, z1, z2, z3, z4, x0, x1, y0, y1⟩ := hSw; first | (go_simp; done) | (go_simp; with_reducible rfl)
          refine wpAnyH_take (i := 2) (v := ?_) rfl (by kernel_rfl) (by kernel_rfl) (by kernel_rfl) (fun _ _ _ h => h) (Or.inl ⟨by kernel_rfl, ?_⟩) hHeld ?_
          rotate_left
          · intro w hSw; obtain ⟨B, z1, z2, z3, z4, x0, x1, y0, y1⟩ := hSw; first | (go_simp; done) | (go_simp; with_reducible rfl)
          refine wpAnyH_take (i := 3) (v := ?_) rfl (by kernel_rfl) (by kernel_rfl) (by kernel_rfl) (fun _ _ _ h => h) (Or.inl ⟨by kernel_rfl, ?_⟩) hHeld ?_
          rotate_left
          · intro w hSw; obtain ⟨B, z1, z2, z3, z4, x0, x1, y0, y1⟩ := hSw; first | (go_simp; done) | (go_simp; with_reducible rfl)
          refine wpAnyH_take (i := 4) (v := ?_) rfl (by kernel_rfl) (by kernel_rfl) (by kernel_rfl) (fun _ _ _ h => h) (Or.inl ⟨by kernel_rfl, ?_⟩) hHeld ?_
          rotate_left
          · intro w hSw; obtain ⟨B, z1, z2, z3, z4, x0, x1, y0, y1⟩ := hSw; first | (go_simp; done) | (go_simp; with_reducible rfl)
          refine wpAnyH_take (i := 5) (v := ?_) rfl (by kernel_rfl) (by kernel_rfl) (by kernel_rfl) (fun _ _ _ h => h) (Or.inl ⟨by kernel_rfl, ?_⟩) hHeld ?_
          rotate_left
          · intro w hSw; obtain ⟨B, z1, z2, z3, z4, x0, x1, y0, y1⟩ := hSw; first | (go_simp; done) | (go_simp; with_reducible rfl)
          refine wpAnyH_take (i := 6) (v := ?_) rfl (by kernel_rfl) (by kernel_rfl) (by kernel_rfl) (fun _ _ _ h => h) (Or.inl ⟨by kernel_rfl, ?_⟩) hHeld ?_
          rotate_left
          · intro w hSw; obtain ⟨B, z1, z2, z3, z4, x0, x1, y0, y1⟩ := hSw; first | (go_simp; done) | (go_simp; with_reducible rfl)
          refine wpAnyH_take (i := 7) (v := ?_) rfl (by kernel_rfl) (by kernel_rfl) (by kernel_rfl) (fun _ _ _ h => h) (Or.inl ⟨by kernel_rfl, ?_⟩) hHeld ?_
          rotate_left
          · intro w hSw; obtain ⟨B, z1, z2, z3, z4, x0, x1, y0, y1⟩ := hSw; first | (go_simp; done) | (go_simp; with_reducible rfl)
          refine wpAnyH_take (i := 8) (v := ?_) rfl (by kernel_rfl) (by kernel_rfl) (by kernel_rfl) (fun _ _ _ h => h) (Or.inl ⟨by kernel_rfl, ?_⟩) hHeld ?_
          rotate_left
          · intro w hSw; obtain ⟨B, z1, z2, z3, z4, x0, x1, y0, y1⟩ := hSw; first | (go_simp; done) | (go_simp; with_reducible rfl)
          refine wpAnyH_take (i := 9) (v := ?_) rfl (by kernel_rfl) (by kernel_rfl) (by kernel_rfl) (fun _ _ _ h => h) (Or.inl ⟨by kernel_rfl, ?_⟩) hHeld ?_
          rotate_left
          · intro w hSw; obtain ⟨B, z1, z2, z3, z4, x0, x1, y0, y1⟩ := hSw; first | (go_simp; done) | (go_simp; with_reducible rfl)
          refine wpAnyH_take (i := 10) (v := ?_) rfl (by kernel_rfl) (by kernel_rfl) (by kernel_rfl) (fun _ _ _ h => h) (Or.inl ⟨by kernel_rfl, ?_⟩) hHeld ?_
          rotate_left
          · intro w hSw; obtain ⟨B, z1, z2, z3, z4, x0, x1, y0, y1⟩ := hSw; first | (go_simp; done) | (go_simp; with_reducible rfl)
          refine wpAnyH_ready (rs := [1]) (by kernel_rfl) (by simp) ?_
          refine AllReadyH.cons rfl (fun K hK => ?_) AllReadyH.nil
          go_simp
          go_wp2_with (go_at_call 25; (with_reducible refine (HD.out _).mono ?_); rintro e w1 ⟨rfl, hb1⟩)
          have S1 := hHeld.on hb1
          refine hK.out _ _ ?_ (fun hHeld => ?_)
          · exact S1
          clear hK K
          refine wpAnyH_take (i := 11) (v := ?_) rfl (by kernel_rfl) (by kernel_rfl) (by kernel_rfl) (fun _ _ _ h => h) (Or.inl ⟨by kernel_rfl, ?_⟩) hHeld ?_
          rotate_left
          · intro w hSw; obtain ⟨B, z1, z2, z3, z4, x0, x1, y0, y1⟩ := hSw; first | (go_simp; done) | (go_simp; with_reducible rfl)
          refine wpAnyH_done (by kernel_rfl) ?_ _
          have B5 := S1.B
          clear S0 S1
          go_wp2
        · go_ret2
          refine ⟨.inr ⟨?_, rfl⟩, B5⟩
          rintro ⟨t, ht, h1, h2⟩
          have e : t = T := by rw [← h1]; exact HT.out
          subst e
          have := HE.out.2 (h2 k (by have := HL.out; omega))
          rw [HQ.out] at this; cases this
        · go_roundw
          case rel =>
            refine ⟨k + 1, by omega, by go_num, Lib.hid (fun i hi => ?_), B5⟩
            by_cases e : i = k
            · subst e; exact HE.out.1 HQ.out
            · exact HY.out i (by omega)
          case measure => simp [intOf]; omega
      · obtain rfl : k = len := by omega
        go_wp2
        go_ret2
        exact ⟨.inl ⟨T, ⟨by have := HL2.out; omega, HT.out, fun i hi => HY.out i (by have := HL.out; omega)⟩, rfl⟩, hbe⟩
  · rw [plcI_no hin] at HP
    have HN : Hid (¬ ∃ t, Turned l m t) := Lib.hid (by
      rintro ⟨t, ht, h1, h2⟩
      exact hin (by omega))
    clear hin
    generalize (cA l 0).1 = n at *
    generalize (cA l 0).2 = d at *
    generalize (dA l 0).1 = x at *
    generalize (dA l 0).2 = y at *
    go_enter Try.func23, Try.ntmps23
    go_wp2_with fail
    refine (HD.out _).mono ?_
    rintro e w1 ⟨rfl, hb1⟩
    go_wp2_with fail
    refine (HP.out _ hb1).mono ?_
    rintro e w2 ⟨rfl, hb2⟩
    go_wp2
    go_ret2
    exact ⟨.inr ⟨HN.out, rfl⟩, belowNext hb1 hb2⟩

set_option maxHeartbeats 1000000 in
theorem implIsSet (A : Option Addr) (len cap : Nat) (l : List (Int × Int)) (w : World) (hr : AngRow w w.heap.size A l) (hl : l.length = len) (hm : len ≤ 1000000000000) (hA : allAng l = true) :
    Calls Try.prog 22 #[.slice A len cap] w (ResYesQ w (0 < len ∧ AscQ l)) := by
  have HC := Lib.hid (fun W (hB : Below w.heap.size w W) => implAscQ A len cap l W ((hr.below hB).more hB.size) hl hm hA)
  clear hr hl hA
  by_cases h0 : 0 < len
  · have h0' : (0 : Int) < (len : Int) := by omega
    go_enter Try.func22, Try.ntmps22
    go_wp2_with fail
    refine (HC.out _ (Below.refl _ _)).mono ?_
    rintro e w1 ⟨⟨r, rfl, HE⟩, hb1⟩
    go_wp2
    go_ret
    exact ⟨⟨r, rfl, Lib.hid (HE.out.trans ⟨fun h => ⟨h0, h⟩, fun h => And.right h⟩)⟩, hb1⟩
  · have h0' : ¬ (0 : Int) < (len : Int) := by omega
    go_enter Try.func22, Try.ntmps22
    go_wp2
    go_ret
    exact ⟨⟨false, rfl, Lib.hid (by first | exact ⟨fun h => (by cases h), fun h => absurd h.1 h0⟩ | exact ⟨fun h => (by cases h), fun h => h.elim⟩)⟩, Below.refl _ _⟩

/-- What RotationOfSet answers. -/
def RsIs (l : List (Int × Int)) (R C : Int) : Prop :=
  (allAng l = false ∧ R = 0 ∧ C = 1) ∨ (allAng l = true ∧ (l.length = 0 ∨ 64 < l.length ∨ ¬ AscQ l) ∧ R = 0 ∧ C = 2) ∨
    (allAng l = true ∧ 0 < l.length ∧ l.length ≤ 64 ∧ AscQ l ∧ (¬ ∃ t, Turned l l t) ∧ R = 0 ∧ C = 5) ∨
    (∃ t : Nat, allAng l = true ∧ 0 < l.length ∧ l.length ≤ 64 ∧ AscQ l ∧ Turned l l t ∧ R = (t : Int) ∧ C = 0)
theorem rs_ex (l : List (Int × Int)) : ∃ R C, RsIs l R C := by
  cases e : allAng l
  · exact ⟨0, 1, .inl ⟨e, rfl, rfl⟩⟩
  · by_cases h : l.length = 0 ∨ 64 < l.length ∨ ¬ AscQ l
    · exact ⟨0, 2, .inr (.inl ⟨e, h, rfl, rfl⟩)⟩
    · have h3 : AscQ l := Classical.byContradiction fun g => h (.inr (.inr g))
      have h1 : 0 < l.length ∧ l.length ≤ 64 := by
        constructor
        · rcases Nat.eq_zero_or_pos l.length with g | g
          · exact absurd (.inl g) h
          · exact g
        · rcases Nat.lt_or_ge 64 l.length with g | g
          · exact absurd (.inr (.inl g)) h
          · exact g
      by_cases ht : ∃ t, Turned l l t
      · obtain ⟨t, ht⟩ := ht
        exact ⟨t, 0, .inr (.inr (.inr ⟨t, e, h1.1, h1.2, h3, ht, rfl, rfl⟩))⟩
      · exact ⟨0, 5, .inr (.inr (.inl ⟨e, h1.1, h1.2, h3, ht, rfl, rfl⟩))⟩
theorem turned_one {l m : List (Int × Int)} {t s : Nat} (h : Turned l m t) (g : Turned l m s) : t = s := by
  rw [← h.2.1, g.2.1]

set_option maxRecDepth 8000 in
set_option maxHeartbeats 2000000 in
theorem implRotOf (A : Option Addr) (len cap : Nat) (l : List (Int × Int)) (w : World) (hr : AngRow w w.heap.size A l) (hl : l.length = len) (hm : len ≤ 1100000) (R C : Int) (h : RsIs l R C) :
    Calls Try.prog 9 #[.slice A len cap] w fun e w' => e = .returned (.tuple #[.int .i64 R, .int .i64 C]) ∧ Below w.heap.size w w' := by
  have HA := Lib.hid (areAng A len cap l w hr hl (by omega))
  have HS := Lib.hid (fun W (hB : Below w.heap.size w W) (ha : allAng l = true) => implIsSet A len cap l W ((hr.below hB).more hB.size) hl (by omega) ha)
  have HT := Lib.hid (fun W (hB : Below w.heap.size w W) (ha : allAng l = true) (h0 : 0 < len) (h64 : len ≤ 64) => implTurn A len cap l A len cap l W ((hr.below hB).more hB.size) hl (by omega) ha ((hr.below hB).more hB.size) hl (by omega) h0)
  have HL := Lib.hid hl
  clear hr hl
  rcases h with ⟨ha, rfl, rfl⟩ | ⟨ha, h, rfl, rfl⟩ | ⟨ha, h0, h64, hs, ht, rfl, rfl⟩ | ⟨t, ha, h0, h64, hs, ht, rfl, rfl⟩
  · rw [ha] at HA
    clear ha HS HT
    go_enter Try.func9, Try.ntmps9
    go_wp2_with fail
    refine HA.out.mono ?_
    rintro e w1 ⟨rfl, hb1⟩
    go_wp2
    go_ret2
    exact ⟨rfl, hb1⟩
  · rw [ha] at HA
    have HS := Lib.hid (fun W hB => HS.out W hB ha)
    by_cases h64 : 64 < len
    · have n1 : (64 : Int) < (len : Int) := by omega
      clear ha HS HT h
      go_enter Try.func9, Try.ntmps9
      go_wp2_with fail
      refine HA.out.mono ?_
      rintro e w1 ⟨rfl, hb1⟩
      go_wp2
      go_ret2
      exact ⟨rfl, hb1⟩
    · have n1 : ¬ (64 : Int) < (len : Int) := by omega
      have HN : Hid (¬ (0 < len ∧ AscQ l)) := Lib.hid (fun g => by
        have := HL.out
        rcases h with h | h | h
        · omega
        · omega
        · exact h g.2)
      clear ha HT h
      go_enter Try.func9, Try.ntmps9
      go_wp2_with fail
      refine HA.out.mono ?_
      rintro e w1 ⟨rfl, hb1⟩
      go_wp2_with fail
      refine (HS.out _ hb1).mono ?_
      rintro e w2 ⟨⟨r, rfl, HE⟩, hb2⟩
      have hr : r = false := by
        cases r
        · rfl
        · exact absurd (HE.out.1 rfl) HN.out
      subst hr
      go_wp2
      go_ret2
      exact ⟨rfl, belowNext hb1 hb2⟩
  · have hl64 : len ≤ 64 := by have := HL.out; omega
    have hl0 : 0 < len := by have := HL.out; omega
    rw [ha] at HA
    have HS := Lib.hid (fun W hB => HS.out W hB ha)
    have HT := Lib.hid (fun W hB => HT.out W hB ha hl0 hl64)
    have HN := Lib.hid ht
    have HY : Hid (0 < len ∧ AscQ l) := Lib.hid ⟨hl0, hs⟩
    have n1 : ¬ (64 : Int) < (len : Int) := by omega
    clear ha h0 h64 hs ht hl0 hl64
    go_enter Try.func9, Try.ntmps9
    go_wp2_with fail
    refine HA.out.mono ?_
    rintro e w1 ⟨rfl, hb1⟩
    go_wp2_with fail
    refine (HS.out _ hb1).mono ?_
    rintro e w2 ⟨⟨r, rfl, HE⟩, hb2⟩
    have B2 := belowNext hb1 hb2
    have hr : r = true := HE.out.2 HY.out
    subst hr
    clear hb1 hb2
    go_wp2_with fail
    refine (HT.out _ B2).mono ?_
    rintro e w3 ⟨⟨s, h1, rfl⟩ | ⟨-, rfl⟩, hb3⟩
    · exact absurd ⟨s, h1⟩ HN.out
    · go_wp2
      go_ret2
      exact ⟨rfl, belowNext B2 hb3⟩
  · have hl64 : len ≤ 64 := by have := HL.out; omega
    have hl0 : 0 < len := by have := HL.out; omega
    rw [ha] at HA
    have HS := Lib.hid (fun W hB => HS.out W hB ha)
    have HT := Lib.hid (fun W hB => HT.out W hB ha hl0 hl64)
    have HN := Lib.hid ht
    have HY : Hid (0 < len ∧ AscQ l) := Lib.hid ⟨hl0, hs⟩
    have n1 : ¬ (64 : Int) < (len : Int) := by omega
    clear ha h0 h64 hs ht hl0 hl64
    go_enter Try.func9, Try.ntmps9
    go_wp2_with fail
    refine HA.out.mono ?_
    rintro e w1 ⟨rfl, hb1⟩
    go_wp2_with fail
    refine (HS.out _ hb1).mono ?_
    rintro e w2 ⟨⟨r, rfl, HE⟩, hb2⟩
    have B2 := belowNext hb1 hb2
    have hr : r = true := HE.out.2 HY.out
    subst hr
    clear hb1 hb2
    go_wp2_with fail
    refine (HT.out _ B2).mono ?_
    rintro e w3 ⟨⟨s, h1, rfl⟩ | ⟨h1, rfl⟩, hb3⟩
    · obtain rfl := turned_one HN.out h1
      go_wp2
      go_ret2
      exact ⟨rfl, belowNext B2 hb3⟩
    · exact absurd ⟨t, HN.out⟩ h1

/-- The loop that asks whether all are angles: where all are, the walk goes on behind it. -/
theorem allAng_take {l : List (Int × Int)} {k : Nat} {n d : Int} (h : Hid (allAng (l.take k) = true)) (hq : l[k]? = some (n, d)) (hi : isAng n d = true) : Hid (allAng (l.take (k + 1)) = true) := Lib.hid (allAng_next h.out hq hi)

set_option maxRecDepth 8000 in
set_option maxHeartbeats 2000000 in
theorem specRotOf (A : Option Addr) (len cap : Nat) (l : List (Int × Int)) (w : World) (hr : AngRow w w.heap.size A l) (hl : l.length = len) (hm : len ≤ 1100000) (R C : Int) (h : RsIs l R C) :
    Calls Try.prog 13 #[.slice A len cap] w fun e w' => e = .returned (.tuple #[.int .i64 R, .int .i64 C]) ∧ Below w.heap.size w w' := by
  have HR := Lib.hid hr
  have HL := Lib.hid hl
  have H := Lib.hid h
  have HS := Lib.hid (fun W (hB : Below w.heap.size w W) (ha : allAng l = true) => specAscQ A len cap l W ((hr.below hB).more hB.size) hl (by omega) ha)
  have HLe := Lib.hid (fun W (hB : Below w.heap.size w W) (ha : allAng l = true) (h64 : len ≤ 64) => specLed A len cap l A len cap l W ((hr.below hB).more hB.size) hl (by omega) ha ((hr.below hB).more hB.size) hl (by omega))
  have HO := Lib.hid (fun W (hB : Below w.heap.size w W) (ha : allAng l = true) (h64 : len ≤ 64) (hL : LedP l l) => specOrd A len cap l A len cap l W ((hr.below hB).more hB.size) hl (by omega) ha ((hr.below hB).more hB.size) hl hL)
  have HP := Lib.hid (fun W (hB : Below w.heap.size w W) n d => placeQ A len cap l n d W ((hr.below hB).more hB.size) hl (by omega))
  clear hr hl h
  go_enter Try.func13, Try.ntmps13
  go_wp2
  go_loopw [4] (fun i wr => ∃ k : Nat, k ≤ len ∧ i = .int .i64 k ∧ Hid (allAng (l.take k) = true) ∧ Below w.heap.size w wr) (fun i _ => len - (intOf i).toNat)
  case atStart => exact ⟨0, by omega, rfl, Lib.hid rfl, Below.refl _ _⟩
  case round =>
    obtain ⟨k, hk, rfl, HA, hbe⟩ := hrel
    by_cases hlt : k < len
    · obtain ⟨⟨n, d⟩, hq⟩ : ∃ q, l[k]? = some q := ⟨_, List.getElem?_eq_getElem (by have := HL.out; omega)⟩
      obtain ⟨b0, off, rfl, hb0, hc⟩ := HR.out (by rintro rfl; cases hq)
      obtain ⟨x0, x1⟩ := hc k n d hq
      have x0 := cellThru hbe hb0 x0
      have x1 := cellThru hbe hb0 x1
      have HQ := Lib.hid hq
      have HSp := Lib.hid (fun w => specIs1 n d w)
      clear hq hc HS HLe HO HP
      cases hi : isAng n d
      · rw [hi] at HSp
        obtain ⟨rfl, rfl⟩ : R = 0 ∧ C = 1 := by
          have hno := allAng_no HQ.out hi
          rcases H.out with ⟨_, h1, h2⟩ | ⟨h1, _⟩ | ⟨h1, _⟩ | ⟨_, h1, _⟩
          · exact ⟨h1, h2⟩
          · rw [hno] at h1; cases h1
          · rw [hno] at h1; cases h1
          · rw [hno] at h1; cases h1
        clear hi
        go_wp2_with fail
        refine (HSp.out _).mono ?_
        rintro e w2 ⟨rfl, hb2⟩
        have B2 : Below w.heap.size w w2 := belowNext hbe hb2
        clear x0 x1 hb2
        go_wp2
        go_ret2
        exact ⟨rfl, B2⟩
      · rw [hi] at HSp
        have HA2 := allAng_take HA HQ.out hi
        clear hi
        go_wp2_with fail
        refine (HSp.out _).mono ?_
        rintro e w2 ⟨rfl, hb2⟩
        have B2 : Below w.heap.size w w2 := belowNext hbe hb2
        clear x0 x1 hb2
        go_wp2
        go_roundw
        case rel => exact ⟨k + 1, by omega, by go_num, HA2, B2⟩
        case measure => simp [intOf]; omega
    · obtain rfl : k = len := by omega
      have ha : allAng l = true := by have := HA.out; rw [← HL.out, List.take_length] at this; exact this
      have HS := Lib.hid (fun W hB => HS.out W hB ha)
      by_cases h0 : k < 1
      · have n0 : (k : Int) < 1 := by omega
        obtain ⟨rfl, rfl⟩ : R = 0 ∧ C = 2 := by
          have e := HL.out
          rcases H.out with ⟨h1, _⟩ | ⟨_, _, h1, h2⟩ | ⟨_, h1, _⟩ | ⟨_, _, h1, _⟩
          · rw [ha] at h1; cases h1
          · exact ⟨h1, h2⟩
          · omega
          · omega
        clear ha HS HLe HO HP
        go_wp2
        go_ret2
        exact ⟨rfl, hbe⟩
      · have n0 : ¬ (k : Int) < 1 := by omega
        by_cases h64 : 64 < k
        · have n1 : (64 : Int) < (k : Int) := by omega
          obtain ⟨rfl, rfl⟩ : R = 0 ∧ C = 2 := by
            have e := HL.out
            rcases H.out with ⟨h1, _⟩ | ⟨_, _, h1, h2⟩ | ⟨_, _, h1, _⟩ | ⟨_, _, _, h1, _⟩
            · rw [ha] at h1; cases h1
            · exact ⟨h1, h2⟩
            · omega
            · omega
          clear ha HS HLe HO HP
          go_wp2
          go_ret2
          exact ⟨rfl, hbe⟩
        · have n1 : ¬ (64 : Int) < (k : Int) := by omega
          have HLe := Lib.hid (fun W hB => HLe.out W hB ha (by omega))
          have HO := Lib.hid (fun W hB => HO.out W hB ha (by omega))
          have HAl := Lib.hid ha
          clear ha
          go_wp2_with fail
          refine (HS.out _ hbe).mono ?_
          rintro e w2 ⟨⟨r, rfl, HE⟩, hb2⟩
          have B2 := belowNext hbe hb2
          clear hbe hb2 HS
          cases r
          · obtain ⟨rfl, rfl⟩ : R = 0 ∧ C = 2 := by
              have hn : ¬ AscQ l := fun g => by have := HE.out.2 g; cases this
              rcases H.out with ⟨h1, _⟩ | ⟨_, _, h1, h2⟩ | ⟨_, _, _, h1, _⟩ | ⟨_, _, _, _, h1, _⟩
              · rw [HAl.out] at h1; cases h1
              · exact ⟨h1, h2⟩
              · exact absurd h1 hn
              · exact absurd h1 hn
            go_wp2
            go_ret2
            exact ⟨rfl, B2⟩
          · have hs := HE.out.1 rfl
            have hT : (∃ t, Turned l l t) ↔ LedP l l ∧ OrdP l l := turned_led (asc_nodup (asc_A HAl.out hs)) rfl (by have := HL.out; omega)
            have H2 : Hid (((¬ ∃ t, Turned l l t) ∧ R = 0 ∧ C = 5) ∨ (∃ t : Nat, Turned l l t ∧ R = (t : Int) ∧ C = 0)) := Lib.hid (by
              have e := HL.out
              rcases H.out with ⟨h1, _⟩ | ⟨_, h1, _⟩ | ⟨_, _, _, _, h1, h2, h3⟩ | ⟨t, _, _, _, _, h1, h2, h3⟩
              · rw [HAl.out] at h1; cases h1
              · rcases h1 with h1 | h1 | h1
                · omega
                · omega
                · exact absurd hs h1
              · exact .inl ⟨h1, h2, h3⟩
              · exact .inr ⟨t, h1, h2, h3⟩)
            have HT := Lib.hid hT
            have kl0 : 0 < l.length := by have := HL.out; omega
            obtain ⟨b0, off, rfl, hb0, hc⟩ := HR.out (by rintro rfl; simp at kl0)
            obtain ⟨x0, x1⟩ := hc 0 _ _ (cA_some kl0)
            rw [Nat.zero_mul, Nat.add_zero] at x0 x1
            have hp := isAng_yes (cA_ang HAl.out kl0)
            have HD : Hid (∀ w, Calls Try.prog 38 #[ang (cA l 0).1 (cA l 0).2] w fun e w' => e = .returned (ang (dA l 0).1 (dA l 0).2) ∧ Below w.heap.size w w') := Lib.hid (fun w => specDbl (cA l 0).1 (cA l 0).2 w (by omega) (by omega) (by omega) (by omega))
            have HP := Lib.hid (fun W hB => HP.out W hB (dA l 0).1 (dA l 0).2)
            rw [show ((dA l 0).1, (dA l 0).2) = dA l 0 from rfl] at HP
            have hb0' : b0 < w.heap.size := hb0
            have k0 : (0 : Int) < (k : Int) := by omega
            clear hs hT hc H HE hp
            go_wp2_with fail
            refine (HLe.out _ B2).mono ?_
            rintro e w3 ⟨⟨r, rfl, HE⟩, hb3⟩
            have B3 := belowNext B2 hb3
            clear B2 hb3 HLe
            cases r
            · obtain ⟨rfl, rfl⟩ : R = 0 ∧ C = 5 := by
                rcases H2.out with ⟨_, h1, h2⟩ | ⟨t, h1, _⟩
                · exact ⟨h1, h2⟩
                · have := HE.out.2 (HT.out.1 ⟨t, h1⟩).1; cases this
              go_wp2
              go_ret2
              exact ⟨rfl, B3⟩
            · have HO := Lib.hid (fun W hB => HO.out W hB (HE.out.1 rfl))
              have HLd := Lib.hid (HE.out.1 rfl)
              clear HE
              go_wp2_with fail
              refine (HO.out _ B3).mono ?_
              rintro e w4 ⟨⟨r, rfl, HE⟩, hb4⟩
              have B4 := belowNext B3 hb4
              clear B3 hb4 HO
              cases r
              · obtain ⟨rfl, rfl⟩ : R = 0 ∧ C = 5 := by
                  rcases H2.out with ⟨_, h1, h2⟩ | ⟨t, h1, _⟩
                  · exact ⟨h1, h2⟩
                  · have := HE.out.2 (HT.out.1 ⟨t, h1⟩).2; cases this
                go_wp2
                go_ret2
                exact ⟨rfl, B4⟩
              · obtain ⟨t, ht, rfl, rfl⟩ : ∃ t : Nat, Turned l l t ∧ R = (t : Int) ∧ C = 0 := by
                  rcases H2.out with ⟨h1, _⟩ | h1
                  · exact absurd (HT.out.2 ⟨HLd.out, HE.out.1 rfl⟩) h1
                  · exact h1
                have hpl : plcI l (dA l 0) = (t : Int) := by
                  have e : plc l (dA l 0) = t := ht.2.1
                  rw [plcI_yes (by rw [e]; exact ht.1), e]
                rw [hpl] at HP
                have x0 := cellThru B4 hb0 x0
                have x1 := cellThru B4 hb0 x1
                have hbw : b0 < w4.heap.size := Nat.lt_of_lt_of_le hb0 B4.size
                clear ht hpl H2 HE HT
                generalize (cA l 0).1 = n at *
                generalize (cA l 0).2 = d at *
                generalize (dA l 0).1 = x at *
                generalize (dA l 0).2 = y at *
                go_wp2_with fail
                refine (HD.out _).mono ?_
                rintro e w5 ⟨rfl, hb5⟩
                have B5 := belowNext B4 hb5
                clear B4 hb5 x0 x1
                go_wp2_with fail
                refine (HP.out _ B5).mono ?_
                rintro e w6 ⟨rfl, hb6⟩
                go_wp2
                go_ret2
                exact ⟨rfl, belowNext B5 hb6⟩
end Go.Proofs.Ytnoaahkpcnkbnaa

/-
  Sets of angles: the places of angles, and what doubling does with them (plain mathematics).
-/
import Derived.Test.YtlmgpecfbpcgaaaW34
namespace Go.Proofs.Ytlmgpecfbpcgaaa
open Go.RowKit

/-- Each angle comes behind the one before it. -/
def AscQ (l : List (Int × Int)) : Prop := ∀ (i : Nat) (x y : Int × Int), l[i]? = some x → l[i + 1]? = some y → lessA x y = true
theorem asc_pairsQ {l : List (Int × Int)} (ha : allAng l = true) (h : AscQ l) : ∀ (i j : Nat) (x y : Int × Int), i < j → l[i]? = some x → l[j]? = some y → lessA x y = true
  | i, 0, x, y, hij, _, _ => absurd hij (by omega)
  | i, j + 1, x, y, hij, hx, hy => by
    have hj : j < l.length := by
      have := (List.getElem?_eq_some_iff.1 hy).1
      omega
    have e := List.getElem?_eq_getElem hj
    have s := h j _ _ e hy
    by_cases hh : i = j
    · subst hh
      rw [e] at hx
      injection hx with hx
      rw [← hx]; exact s
    · have t := asc_pairsQ ha h i j x _ (by omega) hx e
      exact lessA_tr (allAng_mem ha (List.mem_of_getElem? hx)) (allAng_mem ha (List.getElem_mem hj)) (allAng_mem ha (List.mem_of_getElem? hy)) t s

theorem asc_A {l : List (Int × Int)} (ha : allAng l = true) (h : AscQ l) : AscA l := by
  refine List.pairwise_iff_getElem.2 fun i j hi hj hij => ?_
  exact asc_pairsQ ha h i j _ _ hij (List.getElem?_eq_getElem hi) (List.getElem?_eq_getElem hj)
theorem asc_nodup {l : List (Int × Int)} (h : AscA l) : l.Nodup := by
  refine List.Pairwise.imp ?_ h
  intro x y hxy e
  subst e
  rw [lessA_self] at hxy
  cases hxy
/-- The angle at a place. -/
def cA (l : List (Int × Int)) (i : Nat) : Int × Int := l.getD i (0, 1)
theorem cA_some {l : List (Int × Int)} {i : Nat} (h : i < l.length) : l[i]? = some ((cA l i).1, (cA l i).2) := by
  unfold cA
  rw [List.getD_eq_getElem?_getD, List.getElem?_eq_getElem h]
  rfl
theorem cA_of {l : List (Int × Int)} {i : Nat} {p : Int × Int} (h : l[i]? = some p) : cA l i = p := by
  unfold cA
  rw [List.getD_eq_getElem?_getD, h]
  rfl
theorem cA_mem {l : List (Int × Int)} {i : Nat} (h : i < l.length) : cA l i ∈ l := List.mem_of_getElem? (cA_some h)
theorem cA_ang {l : List (Int × Int)} (ha : allAng l = true) {i : Nat} (h : i < l.length) : isAng (cA l i).1 (cA l i).2 = true := allAng_mem ha (q := cA l i) (cA_mem h)
/-- The place of an angle in a list: the list's length if it is not there. -/
def plc (l : List (Int × Int)) (p : Int × Int) : Nat := l.findIdx fun q => decide (q = p)
def plcI (l : List (Int × Int)) (p : Int × Int) : Int := if plc l p < l.length then (plc l p : Int) else -1
theorem plc_le (l : List (Int × Int)) (p : Int × Int) : plc l p ≤ l.length := List.findIdx_le_length
theorem plc_get {l : List (Int × Int)} {p : Int × Int} (h : plc l p < l.length) : cA l (plc l p) = p := by
  have e := List.findIdx_getElem (xs := l) (p := fun q => decide (q = p)) (w := h)
  have e := of_decide_eq_true e
  have := cA_of (l := l) (List.getElem?_eq_getElem h)
  rw [this]; exact e
theorem plc_lt {l : List (Int × Int)} {p : Int × Int} {j : Nat} (h : j < plc l p) : cA l j ≠ p := by
  have hl := plc_le l p
  have hj : j < l.length := by omega
  have := List.not_of_lt_findIdx h
  rw [cA_of (List.getElem?_eq_getElem hj)]
  simpa using this
theorem plc_stop {l : List (Int × Int)} {p : Int × Int} {k : Nat} (hk : k < l.length) (h : ∀ j, j < k → cA l j ≠ p) (he : cA l k = p) : plc l p = k := by
  rcases Nat.lt_trichotomy (plc l p) k with h1 | h1 | h1
  · exact absurd (plc_get (by omega)) (h _ h1)
  · exact h1
  · exact absurd he (plc_lt h1)
theorem plc_end {l : List (Int × Int)} {p : Int × Int} (h : ∀ j, j < l.length → cA l j ≠ p) : plc l p = l.length := by
  have := plc_le l p
  rcases Nat.lt_or_ge (plc l p) l.length with h1 | h1
  · exact absurd (plc_get h1) (h _ h1)
  · omega
theorem plc_mem {l : List (Int × Int)} {p : Int × Int} : plc l p < l.length ↔ p ∈ l := by
  constructor
  · intro h
    have := cA_mem h
    rw [plc_get h] at this
    exact this
  · intro h
    have hl := plc_le l p
    rcases Nat.lt_or_ge (plc l p) l.length with h1 | h1
    · exact h1
    · obtain ⟨i, hi, e⟩ := List.getElem_of_mem h
      have : cA l i ≠ p := plc_lt (by omega)
      rw [cA_of (List.getElem?_eq_getElem hi)] at this
      exact absurd e this
theorem plc_at {l : List (Int × Int)} (hn : l.Nodup) {i : Nat} (hi : i < l.length) : plc l (cA l i) = i := by
  refine plc_stop hi (fun j hj e => ?_) rfl
  have e1 := cA_of (l := l) (List.getElem?_eq_getElem (show j < l.length by omega))
  have e2 := cA_of (l := l) (List.getElem?_eq_getElem hi)
  rw [e1, e2] at e
  exact (List.pairwise_iff_getElem.1 hn) j i (by omega) hi hj e
theorem plcI_yes {l : List (Int × Int)} {p : Int × Int} (h : plc l p < l.length) : plcI l p = (plc l p : Int) := by unfold plcI; rw [if_pos h]
theorem plcI_no {l : List (Int × Int)} {p : Int × Int} (h : ¬ plc l p < l.length) : plcI l p = -1 := by unfold plcI; rw [if_neg h]

/-- The double of the angle at a place. -/
def dA (l : List (Int × Int)) (i : Nat) : Int × Int := dbl (cA l i)
/-- Doubling leads the angles of l to those of m, each to another one. -/
def LedP (l m : List (Int × Int)) : Prop := (∀ i, i < l.length → plc m (dA l i) < m.length) ∧ (∀ i j, i < j → j < l.length → plc m (dA l i) ≠ plc m (dA l j)) ∧ l.length = m.length
/-- Doubling keeps the cyclic order. -/
def OrdP (l m : List (Int × Int)) : Prop := ∀ i, i < l.length → plc m (dA l ((i + 1) % l.length)) = (plc m (dA l i) + 1) % l.length
/-- Doubling turns l by t. -/
def Turned (l m : List (Int × Int)) (t : Nat) : Prop := t < m.length ∧ plc m (dA l 0) = t ∧ ∀ i, i < l.length → dA l i = cA m ((i + t) % m.length)
theorem mod_two {a n : Nat} (h : a < 2 * n) : a % n = if a < n then a else a - n := by
  split
  · exact Nat.mod_eq_of_lt (by assumption)
  · rw [Nat.mod_eq_sub_mod (by omega), Nat.mod_eq_of_lt (by omega)]
theorem turned_led {l m : List (Int × Int)} (hn : m.Nodup) (hl : l.length = m.length) (h0 : 0 < l.length) : (∃ t, Turned l m t) ↔ LedP l m ∧ OrdP l m := by
  constructor
  · rintro ⟨t, ht, h1, h2⟩
    have key : ∀ i, i < l.length → plc m (dA l i) = (i + t) % m.length := fun i hi => by
      rw [h2 i hi, plc_at hn (Nat.mod_lt _ (by omega))]
    refine ⟨⟨fun i hi => ?_, fun i j hij hj => ?_, hl⟩, fun i hi => ?_⟩
    · rw [key i hi]; exact Nat.mod_lt _ (by omega)
    · rw [key i (by omega), key j hj, mod_two (by omega), mod_two (by omega)]
      split <;> split <;> omega
    · have hm : (i + 1) % l.length < l.length := Nat.mod_lt _ h0
      rw [key i hi, key _ hm, hl, mod_two (a := i + 1) (by omega), mod_two (a := i + t) (by omega)]
      split <;> split <;> (rw [mod_two (by omega), mod_two (by omega)]; split <;> split <;> omega)
  · rintro ⟨⟨h1, h2, -⟩, h3⟩
    have ht := h1 0 h0
    refine ⟨plc m (dA l 0), ht, rfl, ?_⟩
    have key : ∀ i, i < l.length → plc m (dA l i) = (i + plc m (dA l 0)) % m.length := by
      intro i
      induction i with
      | zero => intro _; rw [Nat.zero_add, Nat.mod_eq_of_lt ht]
      | succ i ih =>
        intro hi
        have e := h3 i (by omega)
        rw [Nat.mod_eq_of_lt hi, ih (by omega), hl] at e
        rw [e]
        generalize plc m (dA l 0) = t at *
        rw [mod_two (a := i + t) (by omega)]
        split <;> (rw [mod_two (by omega), mod_two (by omega)]; split <;> split <;> omega)
    intro i hi
    rw [← key i hi]
    exact (plc_get (h1 i hi)).symm
theorem dA_ang {l : List (Int × Int)} (ha : allAng l = true) {i : Nat} (hi : i < l.length) : isAng (dA l i).1 (dA l i).2 = true := by
  have h := cA_ang ha hi
  have hr : Red (cA l i) := isAng_yes h
  have := dbl_red hr
  unfold isAng
  exact decide_eq_true this
end Go.Proofs.Ytlmgpecfbpcgaaa

/-
  Sets of angles: the places of angles, and what doubling does with them (plain mathematics).
  Contracts: angles in strictly ascending order, on both sides.
  Contracts: the place of an angle, on both sides; whether doubling leads a set to another one (the model's); written by genQ3.py.
  Contracts: whether doubling keeps the cyclic order (the model's); by how much doubling turns (the program's); written by genQ4.py.
  Contracts: RotationOfSet, on both sides; written by genQ5.py.
-/
import Derived.Test.YtjomgbjiognmmaaW34
import Derived.Deep.LoopGhost
import Derived.Test.YtjomgbjiognmmaaW5
import Derived.Test.YtjomgbjiognmmaaW7
import Derived.BigQuiet
import Derived.OwnWalk
namespace Go.Proofs.Ytjomgbjiognmmaa
open Go.RowKit

/-- Each angle comes behind the one before it. -/
def AscQ (l : List (Int × Int)) : Prop := ∀ (i : Nat) (x y : Int × Int), l[i]? = some x → l[i + 1]? = some y → lessA x y = true
theorem asc_pairsQ {l : List (Int × Int)} (ha : allAng l = true) (h : AscQ l) : ∀ (i j : Nat) (x y : Int × Int), i < j → l[i]? = some x → l[j]? = some y → lessA x y = true
  | i, 0, x, y, hij, _, _ => absurd hij (by omega)
  | i, j + 1, x, y, hij, hx, hy => by
    have hj : j < l.length := by
      have := (List.getElem?_eq_some_iff.1 hy).1
      omega
    have e := List.getElem?_eq_getElem hj
    have s := h j _ _ e hy
    by_cases hh : i = j
    · subst hh
      rw [e] at hx
      injection hx with hx
      rw [← hx]; exact s
    · have t := asc_pairsQ ha h i j x _ (by omega) hx e
      exact lessA_tr (allAng_mem ha (List.mem_of_getElem? hx)) (allAng_mem ha (List.getElem_mem hj)) (allAng_mem ha (List.mem_of_getElem? hy)) t s

theorem asc_A {l : List (Int × Int)} (ha : allAng l = true) (h : AscQ l) : AscA l := by
  refine List.pairwise_iff_getElem.2 fun i j hi hj hij => ?_
  exact asc_pairsQ ha h i j _ _ hij (List.getElem?_eq_getElem hi) (List.getElem?_eq_getElem hj)
theorem asc_nodup {l : List (Int × Int)} (h : AscA l) : l.Nodup := by
  refine List.Pairwise.imp ?_ h
  intro x y hxy e
  subst e
  rw [lessA_self] at hxy
  cases hxy
/-- The angle at a place. -/
def cA (l : List (Int × Int)) (i : Nat) : Int × Int := l.getD i (0, 1)
theorem cA_some {l : List (Int × Int)} {i : Nat} (h : i < l.length) : l[i]? = some ((cA l i).1, (cA l i).2) := by
  unfold cA
  rw [List.getD_eq_getElem?_getD, List.getElem?_eq_getElem h]
  rfl
theorem cA_of {l : List (Int × Int)} {i : Nat} {p : Int × Int} (h : l[i]? = some p) : cA l i = p := by
  unfold cA
  rw [List.getD_eq_getElem?_getD, h]
  rfl
theorem cA_mem {l : List (Int × Int)} {i : Nat} (h : i < l.length) : cA l i ∈ l := List.mem_of_getElem? (cA_some h)
theorem cA_ang {l : List (Int × Int)} (ha : allAng l = true) {i : Nat} (h : i < l.length) : isAng (cA l i).1 (cA l i).2 = true := allAng_mem ha (q := cA l i) (cA_mem h)
/-- The place of an angle in a list: the list's length if it is not there. -/
def plc (l : List (Int × Int)) (p : Int × Int) : Nat := l.findIdx fun q => decide (q = p)
def plcI (l : List (Int × Int)) (p : Int × Int) : Int := if plc l p < l.length then (plc l p : Int) else -1
theorem plc_le (l : List (Int × Int)) (p : Int × Int) : plc l p ≤ l.length := List.findIdx_le_length
theorem plc_get {l : List (Int × Int)} {p : Int × Int} (h : plc l p < l.length) : cA l (plc l p) = p := by
  have e := List.findIdx_getElem (xs := l) (p := fun q => decide (q = p)) (w := h)
  have e := of_decide_eq_true e
  have := cA_of (l := l) (List.getElem?_eq_getElem h)
  rw [this]; exact e
theorem plc_lt {l : List (Int × Int)} {p : Int × Int} {j : Nat} (h : j < plc l p) : cA l j ≠ p := by
  have hl := plc_le l p
  have hj : j < l.length := by omega
  have := List.not_of_lt_findIdx h
  rw [cA_of (List.getElem?_eq_getElem hj)]
  simpa using this
theorem plc_stop {l : List (Int × Int)} {p : Int × Int} {k : Nat} (hk : k < l.length) (h : ∀ j, j < k → cA l j ≠ p) (he : cA l k = p) : plc l p = k := by
  rcases Nat.lt_trichotomy (plc l p) k with h1 | h1 | h1
  · exact absurd (plc_get (by omega)) (h _ h1)
  · exact h1
  · exact absurd he (plc_lt h1)
theorem plc_end {l : List (Int × Int)} {p : Int × Int} (h : ∀ j, j < l.length → cA l j ≠ p) : plc l p = l.length := by
  have := plc_le l p
  rcases Nat.lt_or_ge (plc l p) l.length with h1 | h1
  · exact absurd (plc_get h1) (h _ h1)
  · omega
theorem plc_mem {l : List (Int × Int)} {p : Int × Int} : plc l p < l.length ↔ p ∈ l := by
  constructor
  · intro h
    have := cA_mem h
    rw [plc_get h] at this
    exact this
  · intro h
    have hl := plc_le l p
    rcases Nat.lt_or_ge (plc l p) l.length with h1 | h1
    · exact h1
    · obtain ⟨i, hi, e⟩ := List.getElem_of_mem h
      have : cA l i ≠ p := plc_lt (by omega)
      rw [cA_of (List.getElem?_eq_getElem hi)] at this
      exact absurd e this
theorem plc_at {l : List (Int × Int)} (hn : l.Nodup) {i : Nat} (hi : i < l.length) : plc l (cA l i) = i := by
  refine plc_stop hi (fun j hj e => ?_) rfl
  have e1 := cA_of (l := l) (List.getElem?_eq_getElem (show j < l.length by omega))
  have e2 := cA_of (l := l) (List.getElem?_eq_getElem hi)
  rw [e1, e2] at e
  exact (List.pairwise_iff_getElem.1 hn) j i (by omega) hi hj e
theorem plcI_yes {l : List (Int × Int)} {p : Int × Int} (h : plc l p < l.length) : plcI l p = (plc l p : Int) := by unfold plcI; rw [if_pos h]
theorem plcI_no {l : List (Int × Int)} {p : Int × Int} (h : ¬ plc l p < l.length) : plcI l p = -1 := by unfold plcI; rw [if_neg h]

/-- The double of the angle at a place. -/
def dA (l : List (Int × Int)) (i : Nat) : Int × Int := dbl (cA l i)
/-- Doubling leads the angles of l to those of m, each to another one. -/
def LedP (l m : List (Int × Int)) : Prop := (∀ i, i < l.length → plc m (dA l i) < m.length) ∧ (∀ i j, i < j → j < l.length → plc m (dA l i) ≠ plc m (dA l j)) ∧ l.length = m.length
/-- Doubling keeps the cyclic order. -/
def OrdP (l m : List (Int × Int)) : Prop := ∀ i, i < l.length → plc m (dA l ((i + 1) % l.length)) = (plc m (dA l i) + 1) % l.length
/-- Doubling turns l by t. -/
def Turned (l m : List (Int × Int)) (t : Nat) : Prop := t < m.length ∧ plc m (dA l 0) = t ∧ ∀ i, i < l.length → dA l i = cA m ((i + t) % m.length)
theorem mod_two {a n : Nat} (h : a < 2 * n) : a % n = if a < n then a else a - n := by
  split
  · exact Nat.mod_eq_of_lt (by assumption)
  · rw [Nat.mod_eq_sub_mod (by omega), Nat.mod_eq_of_lt (by omega)]
theorem turned_led {l m : List (Int × Int)} (hn : m.Nodup) (hl : l.length = m.length) (h0 : 0 < l.length) : (∃ t, Turned l m t) ↔ LedP l m ∧ OrdP l m := by
  constructor
  · rintro ⟨t, ht, h1, h2⟩
    have key : ∀ i, i < l.length → plc m (dA l i) = (i + t) % m.length := fun i hi => by
      rw [h2 i hi, plc_at hn (Nat.mod_lt _ (by omega))]
    refine ⟨⟨fun i hi => ?_, fun i j hij hj => ?_, hl⟩, fun i hi => ?_⟩
    · rw [key i hi]; exact Nat.mod_lt _ (by omega)
    · rw [key i (by omega), key j hj, mod_two (by omega), mod_two (by omega)]
      split <;> split <;> omega
    · have hm : (i + 1) % l.length < l.length := Nat.mod_lt _ h0
      rw [key i hi, key _ hm, hl, mod_two (a := i + 1) (by omega), mod_two (a := i + t) (by omega)]
      split <;> split <;> (rw [mod_two (by omega), mod_two (by omega)]; split <;> split <;> omega)
  · rintro ⟨⟨h1, h2, -⟩, h3⟩
    have ht := h1 0 h0
    refine ⟨plc m (dA l 0), ht, rfl, ?_⟩
    have key : ∀ i, i < l.length → plc m (dA l i) = (i + plc m (dA l 0)) % m.length := by
      intro i
      induction i with
      | zero => intro _; rw [Nat.zero_add, Nat.mod_eq_of_lt ht]
      | succ i ih =>
        intro hi
        have e := h3 i (by omega)
        rw [Nat.mod_eq_of_lt hi, ih (by omega), hl] at e
        rw [e]
        generalize plc m (dA l 0) = t at *
        rw [mod_two (a := i + t) (by omega)]
        split <;> (rw [mod_two (by omega), mod_two (by omega)]; split <;> split <;> omega)
    intro i hi
    rw [← key i hi]
    exact (plc_get (h1 i hi)).symm
theorem dA_ang {l : List (Int × Int)} (ha : allAng l = true) {i : Nat} (hi : i < l.length) : isAng (dA l i).1 (dA l i).2 = true := by
  have h := cA_ang ha hi
  have hr : Red (cA l i) := isAng_yes h
  have := dbl_red hr
  unfold isAng
  exact decide_eq_true this

/-- An answer yes or no. -/
def ResYesQ (w : World) (P : Prop) (e : Ending) (w' : World) : Prop := (∃ r : Bool, e = .returned (.bool r) ∧ Hid (r = true ↔ P)) ∧ Below w.heap.size w w'
set_option maxHeartbeats 1000000 in
theorem idxQ (A : Option Addr) (len cap : Nat) (l : List (Int × Int)) (n d : Int) (w : World) (hr : AngRow w w.heap.size A l) (hl : l.length = len) (hm : len ≤ 1000000000000) :
    Calls Try.prog 98 #[.slice A len cap, ang n d] w fun e w' => e = .returned (.int .i64 (plcI l (n, d))) ∧ Below w.heap.size w w' := by
  have HR := Lib.hid hr
  have HL := Lib.hid hl
  clear hr hl
  go_enter Try.func98, Try.ntmps98
  go_wp2
  go_loopw [8] (fun i wr => ∃ k : Nat, k ≤ len ∧ i = .int .i64 k ∧ Hid (∀ j, j < k → cA l j ≠ (n, d)) ∧ ∃ q, wr = (w.alloc (.cells #[.int .i64 n, .int .i64 d] 27)).drewN q) (fun i _ => len - (intOf i).toNat)
  case atStart => exact ⟨0, by omega, rfl, Lib.hid (fun j h => absurd h (by omega)), 0, rfl⟩
  case round =>
    obtain ⟨k, hk, rfl, HY, q, rfl⟩ := hrel
    by_cases hlt : k < len
    · have hkl : k < l.length := by have := HL.out; omega
      obtain ⟨a, b, hnd⟩ : ∃ a b, cA l k = (a, b) := ⟨_, _, rfl⟩
      have hk2 : l[k]? = some (a, b) := by rw [cA_some hkl, hnd]
      have hne : l ≠ [] := by intro h; rw [h] at hkl; simp at hkl
      obtain ⟨g, off, rfl, hbb, hcells⟩ := HR.out hne
      obtain ⟨x0, x1⟩ := hcells k a b hk2
      have Q1 := fun W => eqlAng n d a b W
      have HK := Lib.hid hnd
      clear hcells hk2 hne hnd
      cases hq : eqA n d a b
      · rw [hq] at Q1
        have HQ : Hid (cA l k ≠ (n, d)) := Lib.hid (fun h => by rw [HK.out] at h; simp only [Prod.mk.injEq] at h; obtain ⟨rfl, rfl⟩ := h; simp [eqA] at hq)
        clear hq
        go_wp2_with fail
        go_quiet (fail)
        go_wp2
        go_roundw
        case rel =>
          refine ⟨k + 1, by omega, by go_num, Lib.hid (fun j hj => ?_), _, rfl⟩
          by_cases hjk : j = k
          · subst hjk; exact HQ.out
          · exact HY.out j (by omega)
        case measure => simp [intOf]; omega
      · rw [hq] at Q1
        have HQ : Hid (plcI l (n, d) = (k : Int)) := Lib.hid (by
          have he : cA l k = (n, d) := by rw [HK.out]; simp [eqA] at hq; obtain ⟨rfl, rfl⟩ := hq; rfl
          have hp := plc_stop hkl HY.out he
          rw [plcI_yes (by omega), hp])
        clear hq
        go_wp2_with fail
        go_quiet (fail)
        go_wp2
        go_ret
        refine ⟨by rw [HQ.out]; rfl, ?_⟩
        (repeat' (first | (with_reducible exact Below.refl _ _) | (with_reducible assumption) | (with_reducible refine belowNext ?_ (by with_reducible assumption)) | (with_reducible refine belowAlloc ?_ _) | (with_reducible refine Below.drew ?_) | (with_reducible refine below_drewN ?_ _) | (with_reducible refine Below.setCell ?_ ?_ _) | go_size | (with_reducible refine sizeOf' ?_) | (with_reducible refine sizeAdd ?_) | (dsimp only; first | (with_reducible refine sizeOf' ?_) | (with_reducible refine sizeAdd ?_))))
    · obtain rfl : k = len := by omega
      have HQ : Hid (plcI l (n, d) = -1) := Lib.hid (plcI_no (by have h := plc_end (l := l) (p := (n, d)) (fun j hj => HY.out j (by have := HL.out; omega)); omega))
      go_wp2
      go_ret
      refine ⟨by rw [HQ.out]; rfl, ?_⟩
      (repeat' (first | (with_reducible exact Below.refl _ _) | (with_reducible assumption) | (with_reducible refine belowNext ?_ (by with_reducible assumption)) | (with_reducible refine belowAlloc ?_ _) | (with_reducible refine Below.drew ?_) | (with_reducible refine below_drewN ?_ _) | (with_reducible refine Below.setCell ?_ ?_ _) | go_size | (with_reducible refine sizeOf' ?_) | (with_reducible refine sizeAdd ?_) | (dsimp only; first | (with_reducible refine sizeOf' ?_) | (with_reducible refine sizeAdd ?_))))

theorem madeFalseQ (n j : Nat) (h : j < n) : (madeCells (Value.bool false).cells (n * 1)).toList[j]? = some (.bool false) := by
  simp [madeCells, Value.cells, h, Nat.mod_one]
theorem infoBQ : (Try.prog.info? 4).map (fun i => (i.zero, i.size, i.bytes)) = some (some (.bool false), 1, 1) := by kernel_rfl
/-- Which places of m the first k doubles of l have met. -/
def metB (l m : List (Int × Int)) (k j : Nat) : Bool := (List.range k).any fun i => decide (plc m (dA l i) = j)
theorem metB_succ (l m : List (Int × Int)) (k j : Nat) : metB l m (k + 1) j = (metB l m k j || decide (plc m (dA l k) = j)) := by
  unfold metB
  rw [List.range_succ, List.any_append]
  simp
theorem metB_iff {l m : List (Int × Int)} {k j : Nat} : metB l m k j = true ↔ ∃ i, i < k ∧ plc m (dA l i) = j := by
  unfold metB
  rw [List.any_eq_true]
  constructor
  · rintro ⟨i, hi, h⟩
    exact ⟨i, List.mem_range.1 hi, of_decide_eq_true h⟩
  · rintro ⟨i, hi, h⟩
    exact ⟨i, List.mem_range.2 hi, decide_eq_true h⟩
/-- What holds when k angles have been led on: the marks lie in the block U. -/
structure LedI (w : World) (U : Nat) (l m : List (Int × Int)) (k : Nat) (W : World) : Prop where
  B : Below w.heap.size w W
  lo : w.heap.size ≤ U
  z : U < W.heap.size
  met : ∀ j, j < m.length → W.cell? ⟨U, j, none⟩ = some (.bool (metB l m k j))
  free : ∀ o, W.frozen? ⟨U, o, none⟩ = false
theorem LedI.on {w W W1 : World} {U k : Nat} {l m : List (Int × Int)} (H : LedI w U l m k W) (hb : Below W.heap.size W W1) : LedI w U l m k W1 :=
  ⟨belowNext H.B hb, H.lo, Nat.lt_of_lt_of_le H.z hb.size, fun j hj => cellThru hb H.z (H.met j hj), fun o => frozThru hb H.z (H.free o)⟩
theorem LedI.put {w W : World} {U k p : Nat} {l m : List (Int × Int)} (H : LedI w U l m k W) (hp : plc m (dA l k) = p) (hpm : p < m.length) : LedI w U l m (k + 1) (W.setCell ⟨U, p, none⟩ (.bool true)) := by
  refine ⟨H.B.setCell H.lo _, H.lo, by simpa using H.z, fun j hj => ?_, fun o => by simpa using H.free o⟩
  rw [metB_succ]
  by_cases e : j = p
  · subst e
    rw [World.cell?_setCell_same _ _ _ (H.met _ hj), hp]
    simp
  · rw [World.cell?_setCell_other _ _ _ _ (by first | (simp; done) | simpa using e), H.met j hj, hp]
    have : decide (p = j) = false := decide_eq_false (fun h => e h.symm)
    rw [this, Bool.or_false]

theorem neqlQ (a1 a2 b1 b2 : Int) (W : World) : (binOp .neq 27 (ang a1 a2) (ang b1 b2)).run Try.prog W = .ok (.bool (!eqA a1 a2 b1 b2)) W := by
  by_cases h1 : a1 = b1
  · by_cases h2 : a2 = b2
    · subst h1 h2
      simp [go_sem, eqA]
    · subst h1
      simp [go_sem, eqA, h2]
  · simp [go_sem, eqA, h1]
/-- The cells of two angles, in every world of a region. -/
structure TwoQ (w : World) (a1 a2 b1 b2 : Addr) (n d m c : Int) (W : World) : Prop where
  B : Below w.heap.size w W
  z1 : a1.block < W.heap.size
  z2 : a2.block < W.heap.size
  z3 : b1.block < W.heap.size
  z4 : b2.block < W.heap.size
  x0 : W.cell? a1 = some (.int .i64 n)
  x1 : W.cell? a2 = some (.int .i64 d)
  y0 : W.cell? b1 = some (.int .i64 m)
  y1 : W.cell? b2 = some (.int .i64 c)
theorem TwoQ.on {w W W1 : World} {a1 a2 b1 b2 : Addr} {n d m c : Int} (H : TwoQ w a1 a2 b1 b2 n d m c W) (hb : Below W.heap.size W W1) : TwoQ w a1 a2 b1 b2 n d m c W1 := by
  have hs := hb.size
  have := H.z1; have := H.z2; have := H.z3; have := H.z4
  exact ⟨belowNext H.B hb, by omega, by omega, by omega, by omega, (hb.cell H.z1).trans H.x0, (hb.cell H.z2).trans H.x1, (hb.cell H.z3).trans H.y0, (hb.cell H.z4).trans H.y1⟩
theorem remQ {a n : Nat} (h : 0 < n) : ((a : Int)).tmod (n : Int) = ((a % n : Nat) : Int) ∧ ((a : Int)) % (n : Int) = ((a % n : Nat) : Int) ∧ a % n < n := by
  refine ⟨?_, by norm_cast, Nat.mod_lt _ h⟩
  rw [Int.tmod_eq_emod_of_nonneg (by omega)]
  norm_cast

/-- What turnBetween answers. -/
def TurnRes (w : World) (l m : List (Int × Int)) (e : Ending) (w' : World) : Prop :=
  ((∃ t : Nat, Turned l m t ∧ e = .returned (.tuple #[.int .i64 t, .bool true])) ∨ ((¬ ∃ t, Turned l m t) ∧ e = .returned (.tuple #[.int .i64 0, .bool false]))) ∧ Below w.heap.size w w'

/-- What RotationOfSet answers. -/
def RsIs (l : List (Int × Int)) (R C : Int) : Prop :=
  (allAng l = false ∧ R = 0 ∧ C = 1) ∨ (allAng l = true ∧ (l.length = 0 ∨ 64 < l.length ∨ ¬ AscQ l) ∧ R = 0 ∧ C = 2) ∨
    (allAng l = true ∧ 0 < l.length ∧ l.length ≤ 64 ∧ AscQ l ∧ (¬ ∃ t, Turned l l t) ∧ R = 0 ∧ C = 5) ∨
    (∃ t : Nat, allAng l = true ∧ 0 < l.length ∧ l.length ≤ 64 ∧ AscQ l ∧ Turned l l t ∧ R = (t : Int) ∧ C = 0)
theorem rs_ex (l : List (Int × Int)) : ∃ R C, RsIs l R C := by
  cases e : allAng l
  · exact ⟨0, 1, .inl ⟨e, rfl, rfl⟩⟩
  · by_cases h : l.length = 0 ∨ 64 < l.length ∨ ¬ AscQ l
    · exact ⟨0, 2, .inr (.inl ⟨e, h, rfl, rfl⟩)⟩
    · have h3 : AscQ l := Classical.byContradiction fun g => h (.inr (.inr g))
      have h1 : 0 < l.length ∧ l.length ≤ 64 := by
        constructor
        · rcases Nat.eq_zero_or_pos l.length with g | g
          · exact absurd (.inl g) h
          · exact g
        · rcases Nat.lt_or_ge 64 l.length with g | g
          · exact absurd (.inr (.inl g)) h
          · exact g
      by_cases ht : ∃ t, Turned l l t
      · obtain ⟨t, ht⟩ := ht
        exact ⟨t, 0, .inr (.inr (.inr ⟨t, e, h1.1, h1.2, h3, ht, rfl, rfl⟩))⟩
      · exact ⟨0, 5, .inr (.inr (.inl ⟨e, h1.1, h1.2, h3, ht, rfl, rfl⟩))⟩
theorem turned_one {l m : List (Int × Int)} {t s : Nat} (h : Turned l m t) (g : Turned l m s) : t = s := by
  rw [← h.2.1, g.2.1]

/-- The loop that asks whether all are angles: where all are, the walk goes on behind it. -/
theorem allAng_take {l : List (Int × Int)} {k : Nat} {n d : Int} (h : Hid (allAng (l.take k) = true)) (hq : l[k]? = some (n, d)) (hi : isAng n d = true) : Hid (allAng (l.take (k + 1)) = true) := Lib.hid (allAng_next h.out hq hi)

end Go.Proofs.Ytjomgbjiognmmaa

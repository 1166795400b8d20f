/-
  Plain: sums of whole numbers as they are counted in 64 bits, tables of numbers, their products and powers.
  Lists of lists of integers as results: compared, marked, looked at again.
  The pairs of numbers in their order; rows cut out of one list; the orbit of an angle with its pairs, as the program builds it.
  A row of rows that a call owns, and to which it appends; the orbit and the pairs as the model tells them.
-/
import Derived.Test.YtjomgbjiognmmaaMath
import Derived.RowKit
import Derived.Test.YtjomgbjiognmmaaWO
import Derived.Deep.LoopGhost
import Derived.Test.YtjomgbjiognmmaaW24
import Derived.Test.YtjomgbjiognmmaaQQ
import Derived.Maps.AppendAt
import Derived.Laws.OwnMore
namespace Go.Proofs.Ytjomgbjiognmmaa
open Go.RowKit

/-- Two numbers that differ by a multiple of 2^64. -/
def Cg (x y : Int) : Prop := (x - y) % 18446744073709551616 = 0
theorem Cg.wrap (x : Int) : Cg (wrap64 x) x := by unfold Cg wrap64; omega
theorem Cg.eq {x y : Int} (h : Cg x y) : wrap64 x = wrap64 y := by unfold Cg at h; unfold wrap64; omega
theorem Cg.refl (x : Int) : Cg x x := by unfold Cg; omega
theorem Cg.symm {x y : Int} (h : Cg x y) : Cg y x := by unfold Cg at *; omega
theorem Cg.trans {x y z : Int} (h : Cg x y) (g : Cg y z) : Cg x z := by unfold Cg at *; omega
theorem Cg.add {a b c d : Int} (h : Cg a b) (g : Cg c d) : Cg (a + c) (b + d) := by unfold Cg at *; omega
theorem Cg.neg {a b : Int} (h : Cg a b) : Cg (-a) (-b) := by unfold Cg at *; omega
theorem Cg.mul {a b c d : Int} (h : Cg a b) (g : Cg c d) : Cg (a * c) (b * d) := by
  unfold Cg at *
  obtain ⟨k, hk⟩ := Int.dvd_of_emod_eq_zero h
  obtain ⟨l, hl⟩ := Int.dvd_of_emod_eq_zero g
  have e : a * c - b * d = 18446744073709551616 * (k * c + b * l) := by
    have ha : a = b + 18446744073709551616 * k := by omega
    have hc : c = d + 18446744073709551616 * l := by omega
    rw [Int.mul_add, ← Int.mul_assoc, ← hk, show (18446744073709551616 : Int) * (b * l) = b * (18446744073709551616 * l) by rw [← Int.mul_assoc, Int.mul_comm 18446744073709551616 b, Int.mul_assoc], ← hl, Int.sub_mul, Int.mul_sub]
    omega
  rw [e]; exact Int.mul_emod_right _ _

def sigN (n : Nat) (f : Nat → Int) : Int := match n with
  | 0 => 0
  | n + 1 => sigN n f + f n
theorem sigN_eq {f g : Nat → Int} : ∀ {n : Nat}, (∀ i, i < n → f i = g i) → sigN n f = sigN n g
  | 0, _ => rfl
  | n + 1, h => by simp only [sigN]; rw [sigN_eq fun i hi => h i (by omega), h n (by omega)]
theorem sigN_cg {f g : Nat → Int} : ∀ {n : Nat}, (∀ i, i < n → Cg (f i) (g i)) → Cg (sigN n f) (sigN n g)
  | 0, _ => Cg.refl _
  | n + 1, h => Cg.add (sigN_cg fun i hi => h i (by omega)) (h n (by omega))
theorem sigN_zero : ∀ (n : Nat), sigN n (fun _ => 0) = 0
  | 0 => rfl
  | n + 1 => by simp only [sigN]; rw [sigN_zero n]; rfl
theorem sigN_add (f g : Nat → Int) : ∀ (n : Nat), sigN n (fun i => f i + g i) = sigN n f + sigN n g
  | 0 => rfl
  | n + 1 => by simp only [sigN]; rw [sigN_add f g n]; omega
theorem sigN_mulL (c : Int) (f : Nat → Int) : ∀ (n : Nat), sigN n (fun i => c * f i) = c * sigN n f
  | 0 => by simp [sigN]
  | n + 1 => by simp only [sigN]; rw [sigN_mulL c f n, Int.mul_add]
theorem sigN_mulR (c : Int) (f : Nat → Int) : ∀ (n : Nat), sigN n (fun i => f i * c) = sigN n f * c
  | 0 => by simp [sigN]
  | n + 1 => by simp only [sigN]; rw [sigN_mulR c f n, Int.add_mul]
theorem sigN_swap (f : Nat → Nat → Int) (m : Nat) : ∀ (n : Nat), sigN n (fun i => sigN m (fun j => f i j)) = sigN m (fun j => sigN n (fun i => f i j))
  | 0 => (sigN_zero m).symm
  | n + 1 => by simp only [sigN]; rw [sigN_swap f m n, sigN_add]
theorem sigN_one (c : Int) (j : Nat) : ∀ {n : Nat}, j < n → sigN n (fun i => if i = j then c else 0) = c
  | 0, h => absurd h (by omega)
  | n + 1, h => by
    simp only [sigN]
    by_cases e : n = j
    · subst e
      rw [if_pos rfl, sigN_eq (g := fun _ => 0) fun i hi => if_neg (by omega), sigN_zero]; omega
    · rw [if_neg e, sigN_one c j (by omega)]; omega

/-- A number that is counted on in 64 bits. -/
theorem wrap_step (n : Nat) (f : Nat → Int) : wrap64 (wrap64 (sigN n f) + f n) = wrap64 (sigN (n + 1) f) := ((Cg.wrap _).add (Cg.refl _)).eq
theorem wrap_step2 (n : Nat) (f : Nat → Int) : wrap64 (wrap64 (sigN n f) + wrap64 (f n)) = wrap64 (sigN (n + 1) f) := ((Cg.wrap _).add (Cg.wrap _)).eq

/-- A table of numbers. -/
abbrev Tab := Nat → Nat → Int
/-- The product of a row and a table with r rows. -/
def rowF (r : Nat) (x : Nat → Int) (a : Tab) : Nat → Int := fun j => wrap64 (sigN r fun k => x k * a k j)
/-- The product of two tables. -/
def mulF (r : Nat) (x a : Tab) : Tab := fun i => rowF r (x i) a
def unitF (c : Int) : Tab := fun i j => if i = j then c else 0
def powF (r : Nat) (a : Tab) : Nat → Tab
  | 0 => unitF 1
  | k + 1 => mulF r (powF r a k) a
def trF (r : Nat) (a : Tab) : Int := wrap64 (sigN r fun i => a i i)
/-- The sum of all numbers. -/
def cntF (r : Nat) (a : Tab) : Int := wrap64 (sigN r fun i => sigN r fun j => a i j)
/-- The row after k steps. -/
def stepF (r : Nat) (x : Nat → Int) (a : Tab) : Nat → (Nat → Int)
  | 0 => x
  | k + 1 => rowF r (stepF r x a k) a

/-- A slice with the address A holds n numbers, in a block below B. -/
def RowRd (w : World) (B : Nat) (A : Option Addr) (n : Nat) (f : Nat → Int) : Prop :=
  0 < n → ∃ b off, A = some ⟨b, off, none⟩ ∧ b < B ∧ ∀ j, j < n → w.cell? ⟨b, off + j, none⟩ = some (.int .i64 (f j))
theorem RowRd.below {w w' : World} {B : Nat} {A : Option Addr} {n : Nat} {f : Nat → Int} (h : RowRd w B A n f) (hb : Below B w w') : RowRd w' B A n f := by
  intro hl
  obtain ⟨b, off, e, hB, hc⟩ := h hl
  exact ⟨b, off, e, hB, fun j hj => (hb.cell (p := ⟨b, off + j, none⟩) hB).trans (hc j hj)⟩
theorem RowRd.more {w : World} {B B' : Nat} {A : Option Addr} {n : Nat} {f : Nat → Int} (h : RowRd w B A n f) (hB : B ≤ B') : RowRd w B' A n f := by
  intro hl
  obtain ⟨b, off, e, hb, hc⟩ := h hl
  exact ⟨b, off, e, Nat.lt_of_lt_of_le hb hB, hc⟩
theorem RowRd.next {w w' : World} {A : Option Addr} {n : Nat} {f : Nat → Int} (h : RowRd w w.heap.size A n f) (hb : Below w.heap.size w w') : RowRd w' w'.heap.size A n f := (h.below hb).more hb.size
theorem RowRd.congr {w : World} {B : Nat} {A : Option Addr} {n : Nat} {f g : Nat → Int} (h : RowRd w B A n f) (e : ∀ j, j < n → f j = g j) : RowRd w B A n g := by
  intro hl
  obtain ⟨b, off, e1, hb, hc⟩ := h hl
  exact ⟨b, off, e1, hb, fun j hj => by rw [← e j hj]; exact hc j hj⟩
def rngL (n : Nat) (f : Nat → Int) : List Int := (List.range n).map f
theorem rngL_len (n : Nat) (f : Nat → Int) : (rngL n f).length = n := by simp [rngL]
theorem rngL_at {n : Nat} {f : Nat → Int} {i : Nat} {x : Int} (h : (rngL n f)[i]? = some x) : i < n ∧ f i = x := by
  have hi : i < n := by
    rcases Nat.lt_or_ge i n with h1 | h1
    · exact h1
    · rw [List.getElem?_eq_none (by rw [rngL_len]; exact h1)] at h; cases h
  unfold rngL at h
  rw [List.getElem?_map, List.getElem?_range hi] at h
  injection h with h
  exact ⟨hi, h⟩
theorem rngL_get {n : Nat} {f : Nat → Int} {i : Nat} (h : i < n) : (rngL n f)[i]? = some (f i) := by
  unfold rngL
  rw [List.getElem?_map, List.getElem?_range h]; rfl
theorem RowRd.int {w : World} {B : Nat} {A : Option Addr} {n : Nat} {f : Nat → Int} (h : RowRd w B A n f) : IntRow w B A (rngL n f) := by
  intro hl
  have hn : 0 < n := by
    rcases Nat.eq_zero_or_pos n with h0 | h0
    · subst h0; exact absurd rfl hl
    · exact h0
  obtain ⟨b, off, e, hb, hc⟩ := h hn
  refine ⟨b, off, e, hb, fun i x hi => ?_⟩
  obtain ⟨a, rfl⟩ := rngL_at hi
  exact hc i a

/-- A slice with the address A holds n rows, in blocks below B. -/
def TabRd (w : World) (B : Nat) (A : Option Addr) (n : Nat) (ln : Nat → Nat) (f : Tab) : Prop :=
  0 < n → ∃ g off, A = some ⟨g, off, none⟩ ∧ g < B ∧ ∀ i, i < n → ∃ Ai ci, w.cell? ⟨g, off + i, none⟩ = some (.slice Ai (ln i) ci) ∧ RowRd w B Ai (ln i) (f i)
theorem TabRd.below {w w' : World} {B : Nat} {A : Option Addr} {n : Nat} {ln : Nat → Nat} {f : Tab} (h : TabRd w B A n ln f) (hb : Below B w w') : TabRd w' B A n ln f := by
  intro hl
  obtain ⟨b, off, e, hB, hc⟩ := h hl
  refine ⟨b, off, e, hB, fun i hi => ?_⟩
  obtain ⟨Ai, ci, h1, h2⟩ := hc i hi
  exact ⟨Ai, ci, (hb.cell (p := ⟨b, off + i, none⟩) hB).trans h1, h2.below hb⟩
theorem TabRd.more {w : World} {B B' : Nat} {A : Option Addr} {n : Nat} {ln : Nat → Nat} {f : Tab} (h : TabRd w B A n ln f) (hB : B ≤ B') : TabRd w B' A n ln f := by
  intro hl
  obtain ⟨b, off, e, hb, hc⟩ := h hl
  refine ⟨b, off, e, Nat.lt_of_lt_of_le hb hB, fun i hi => ?_⟩
  obtain ⟨Ai, ci, h1, h2⟩ := hc i hi
  exact ⟨Ai, ci, h1, h2.more hB⟩
theorem TabRd.next {w w' : World} {A : Option Addr} {n : Nat} {ln : Nat → Nat} {f : Tab} (h : TabRd w w.heap.size A n ln f) (hb : Below w.heap.size w w') : TabRd w' w'.heap.size A n ln f := (h.below hb).more hb.size
theorem TabRd.congr {w : World} {B : Nat} {A : Option Addr} {n : Nat} {ln : Nat → Nat} {f g : Tab} (h : TabRd w B A n ln f) (e : ∀ i j, i < n → j < ln i → f i j = g i j) : TabRd w B A n ln g := by
  intro hl
  obtain ⟨b, off, e1, hb, hc⟩ := h hl
  refine ⟨b, off, e1, hb, fun i hi => ?_⟩
  obtain ⟨Ai, ci, h1, h2⟩ := hc i hi
  exact ⟨Ai, ci, h1, h2.congr fun j hj => e i j hi hj⟩
theorem tabRd_nil {w : World} {B : Nat} {A : Option Addr} {ln : Nat → Nat} {f : Tab} : TabRd w B A 0 ln f := fun h => absurd h (by omega)

/-- Rows that a call owns: no two of them share a number. -/
structure TabAt (w : World) (lo g off : Nat) (bb oo : Nat → Nat) (n : Nat) (ln : Nat → Nat) (f : Tab) : Prop where
  glo : lo ≤ g
  gz : g < w.heap.size
  head : ∀ i, i < n → ∃ Ai ci, w.cell? ⟨g, off + i, none⟩ = some (.slice Ai (ln i) ci) ∧ (0 < ln i → Ai = some ⟨bb i, oo i, none⟩)
  row : ∀ i, i < n → 0 < ln i → lo ≤ bb i ∧ bb i < w.heap.size ∧ bb i ≠ g
  cell : ∀ i j, i < n → j < ln i → w.cell? ⟨bb i, oo i + j, none⟩ = some (.int .i64 (f i j)) ∧ w.frozen? ⟨bb i, oo i + j, none⟩ = false
  apart : ∀ i k j m, i < n → k < n → i ≠ k → j < ln i → m < ln k → bb i = bb k → oo i + j ≠ oo k + m
def TabOwn (w : World) (lo : Nat) (A : Option Addr) (n : Nat) (ln : Nat → Nat) (f : Tab) : Prop :=
  0 < n → ∃ g off bb oo, A = some ⟨g, off, none⟩ ∧ TabAt w lo g off bb oo n ln f
theorem tabOwn_nil {w : World} {lo : Nat} {A : Option Addr} {ln : Nat → Nat} {f : Tab} : TabOwn w lo A 0 ln f := fun h => absurd h (by omega)
theorem TabAt.next {w w' : World} {lo g off : Nat} {bb oo : Nat → Nat} {n : Nat} {ln : Nat → Nat} {f : Tab} (h : TabAt w lo g off bb oo n ln f) (hb : Below w.heap.size w w') : TabAt w' lo g off bb oo n ln f := by
  have hs := hb.size
  refine ⟨h.glo, Nat.lt_of_lt_of_le h.gz hs, fun i hi => ?_, fun i hi h0 => ?_, fun i j hi hj => ?_, h.apart⟩
  · obtain ⟨Ai, ci, h1, h2⟩ := h.head i hi
    exact ⟨Ai, ci, (hb.cell (p := ⟨g, off + i, none⟩) h.gz).trans h1, h2⟩
  · obtain ⟨h1, h2, h3⟩ := h.row i hi h0
    exact ⟨h1, Nat.lt_of_lt_of_le h2 hs, h3⟩
  · obtain ⟨h1, h2⟩ := h.cell i j hi hj
    have h3 := (h.row i hi (by omega)).2.1
    exact ⟨(hb.cell (p := ⟨bb i, _, none⟩) h3).trans h1, (hb.frozen (p := ⟨bb i, _, none⟩) h3).trans h2⟩
theorem TabAt.congr {w : World} {lo g off : Nat} {bb oo : Nat → Nat} {n : Nat} {ln : Nat → Nat} {f f' : Tab} (h : TabAt w lo g off bb oo n ln f) (e : ∀ i j, i < n → j < ln i → f i j = f' i j) : TabAt w lo g off bb oo n ln f' :=
  ⟨h.glo, h.gz, h.head, h.row, fun i j hi hj => by rw [← e i j hi hj]; exact h.cell i j hi hj, h.apart⟩
theorem TabAt.rd {w : World} {lo g off : Nat} {bb oo : Nat → Nat} {n : Nat} {ln : Nat → Nat} {f : Tab} (h : TabAt w lo g off bb oo n ln f) : TabRd w w.heap.size (some ⟨g, off, none⟩) n ln f := by
  intro _
  refine ⟨g, off, rfl, h.gz, fun i hi => ?_⟩
  obtain ⟨Ai, ci, h1, h2⟩ := h.head i hi
  exact ⟨Ai, ci, h1, fun h0 => ⟨bb i, oo i, h2 h0, (h.row i hi h0).2.1, fun j hj => (h.cell i j hi hj).1⟩⟩
theorem TabOwn.next {w w' : World} {lo : Nat} {A : Option Addr} {n : Nat} {ln : Nat → Nat} {f : Tab} (h : TabOwn w lo A n ln f) (hb : Below w.heap.size w w') : TabOwn w' lo A n ln f := by
  intro hn
  obtain ⟨g, off, bb, oo, e, h1⟩ := h hn
  exact ⟨g, off, bb, oo, e, h1.next hb⟩
theorem TabOwn.rd {w : World} {lo : Nat} {A : Option Addr} {n : Nat} {ln : Nat → Nat} {f : Tab} (h : TabOwn w lo A n ln f) : TabRd w w.heap.size A n ln f := by
  intro hn
  obtain ⟨g, off, bb, oo, rfl, h1⟩ := h hn
  exact h1.rd hn
theorem TabOwn.congr {w : World} {lo : Nat} {A : Option Addr} {n : Nat} {ln : Nat → Nat} {f f' : Tab} (h : TabOwn w lo A n ln f) (e : ∀ i j, i < n → j < ln i → f i j = f' i j) : TabOwn w lo A n ln f' := by
  intro hn
  obtain ⟨g, off, bb, oo, e1, h1⟩ := h hn
  exact ⟨g, off, bb, oo, e1, h1.congr e⟩
theorem TabOwn.low {w : World} {lo lo' : Nat} {A : Option Addr} {n : Nat} {ln : Nat → Nat} {f : Tab} (h : TabOwn w lo A n ln f) (hl : lo' ≤ lo) : TabOwn w lo' A n ln f := by
  intro hn
  obtain ⟨g, off, bb, oo, e, h1⟩ := h hn
  exact ⟨g, off, bb, oo, e, Nat.le_trans hl h1.glo, h1.gz, h1.head, fun i hi h0 => ⟨Nat.le_trans hl (h1.row i hi h0).1, (h1.row i hi h0).2⟩, h1.cell, h1.apart⟩

/-- Worlds that differ in n cells of a block. -/
structure RowTurn (w w' : World) (b o n : Nat) : Prop where
  size : w'.heap.size = w.heap.size
  cell : ∀ p : Addr, ¬ (p.block = b ∧ o ≤ p.off ∧ p.off < o + n) → w'.cell? p = w.cell? p
  frz : ∀ p : Addr, w'.frozen? p = w.frozen? p
theorem RowTurn.refl (w : World) (b o : Nat) : RowTurn w w b o 0 := ⟨rfl, fun _ _ => rfl, fun _ => rfl⟩
theorem RowTurn.set {w w' : World} {b o n : Nat} (h : RowTurn w w' b o n) (v : Value) : RowTurn w (w'.setCell ⟨b, o + n, none⟩ v) b o (n + 1) := by
  refine ⟨by simpa using h.size, fun p hp => ?_, fun p => by simpa using h.frz p⟩
  rw [World.cell?_setCell_other _ _ _ _ (by intro e; subst e; exact hp ⟨rfl, by simp, by simp <;> omega⟩)]
  exact h.cell p fun ⟨a, b, c⟩ => hp ⟨a, b, by omega⟩

theorem TabAt.turn {w w' : World} {lo g off : Nat} {bb oo : Nat → Nat} {n : Nat} {ln : Nat → Nat} {f : Tab} (h : TabAt w lo g off bb oo n ln f) {k : Nat} (hk : k < n) (h0 : 0 < ln k)
    (ht : RowTurn w w' (bb k) (oo k) (ln k)) {v : Nat → Int} (hv : ∀ j, j < ln k → w'.cell? ⟨bb k, oo k + j, none⟩ = some (.int .i64 (v j))) : TabAt w' lo g off bb oo n ln (fun i j => if i = k then v j else f i j) := by
  refine ⟨h.glo, by rw [ht.size]; exact h.gz, fun i hi => ?_, fun i hi h0 => by rw [ht.size]; exact h.row i hi h0, fun i j hi hj => ?_, h.apart⟩
  · obtain ⟨Ai, ci, h1, h2⟩ := h.head i hi
    exact ⟨Ai, ci, (ht.cell ⟨g, off + i, none⟩ fun ⟨a, _, _⟩ => (h.row k hk h0).2.2 a.symm).trans h1, h2⟩
  · obtain ⟨h1, h2⟩ := h.cell i j hi hj
    refine ⟨?_, (ht.frz _).trans h2⟩
    by_cases e : i = k
    · subst e; rw [if_pos rfl]; exact hv j hj
    · rw [if_neg e]
      refine (ht.cell ⟨bb i, oo i + j, none⟩ fun ⟨a, b, c⟩ => ?_).trans h1
      simp only at a b c
      exact h.apart i k j (oo i + j - oo k) hi hk e hj (by omega) a (by omega)

/-- How many numbers the first rows have. -/
def totN (ln : Nat → Nat) : Nat → Nat
  | 0 => 0
  | k + 1 => totN ln k + ln k
theorem totN_le (ln : Nat → Nat) {k : Nat} : ∀ {n : Nat}, k ≤ n → totN ln k ≤ totN ln n
  | 0, h => by obtain rfl : k = 0 := by omega
               exact Nat.le_refl _
  | n + 1, h => by
    by_cases e : k = n + 1
    · subst e; exact Nat.le_refl _
    · have := totN_le ln (k := k) (n := n) (by omega); simp only [totN]; omega
theorem totN_row (ln : Nat → Nat) {k n : Nat} (h : k < n) : totN ln k + ln k ≤ totN ln n := totN_le ln (k := k + 1) h
def mkN (ln : Nat → Nat) : Tab := fun i j => 1 + (totN ln i : Int) + (j : Int)
theorem totN_const (c : Nat) : ∀ n, totN (fun _ => c) n = n * c
  | 0 => by simp [totN]
  | n + 1 => by simp only [totN]; rw [totN_const c n, Nat.succ_mul]

set_option maxHeartbeats 1000000 in
theorem markRow (A : Option Addr) (b o len cap : Nat) (f : Nat → Int) (lo : Nat) (k0 : Int) (w : World)
    (hr : 0 < len → A = some ⟨b, o, none⟩ ∧ lo ≤ b ∧ b < w.heap.size ∧ ∀ j, j < len → w.cell? ⟨b, o + j, none⟩ = some (.int .i64 (f j)) ∧ w.frozen? ⟨b, o + j, none⟩ = false)
    (hk0 : 0 ≤ k0) (hk1 : k0 ≤ 1000000000) (hm : len ≤ 1000000000000) :
    Calls Try.prog 27 #[.slice A len cap, .int .i64 k0] w fun e w' => e = .returned (.int .i64 (k0 + (len : Int))) ∧ Hid (Below lo w w' ∧ RowTurn w w' b o len ∧ ∀ j, j < len → w'.cell? ⟨b, o + j, none⟩ = some (.int .i64 (k0 + (j : Int)))) := by
  have HR := Lib.hid hr
  clear hr
  go_enter Try.func27, Try.ntmps27
  go_wp2
  go_loopw [1, 5] (fun q i wr => ∃ k : Nat, k ≤ len ∧ i = .int .i64 k ∧ q = .int .i64 (k0 + (k : Int)) ∧ Hid (Below lo w wr ∧ RowTurn w wr b o k ∧ ∀ j, j < k → wr.cell? ⟨b, o + j, none⟩ = some (.int .i64 (k0 + (j : Int))))) (fun _ i _ => len - (intOf i).toNat)
  case atStart => exact ⟨0, by omega, rfl, by simp, Lib.hid ⟨Below.refl _ _, RowTurn.refl _ _ _, fun j hj => absurd hj (by omega)⟩⟩
  case round =>
    obtain ⟨k, hk, rfl, rfl, H⟩ := hrel
    by_cases hlt : k < len
    · obtain ⟨rfl, hlo, hbb, hcells⟩ := HR.out (by omega)
      have x0 : wr.cell? ⟨b, o + k, none⟩ = some (.int .i64 (f k)) := (H.out.2.1.cell ⟨b, o + k, none⟩ (by rintro ⟨_, _, h⟩; simp at h)).trans (hcells k hlt).1
      have x2 : wr.frozen? ⟨b, o + k, none⟩ = false := (H.out.2.1.frz _).trans (hcells k hlt).2
      clear hcells
      go_wp2
      go_roundw
      case rel =>
        refine ⟨k + 1, by omega, by go_num, by go_num, Lib.hid ⟨H.out.1.setCell hlo _, H.out.2.1.set _, fun j hj => ?_⟩⟩
        by_cases e : j = k
        · subst e; exact World.cell?_setCell_same _ _ _ x0
        · exact (World.cell?_setCell_other _ _ _ _ (by intro e; injection e; omega)).trans (H.out.2.2 j (by omega))
      case measure => simp [intOf]; omega
    · obtain rfl : k = len := by omega
      go_wp2
      go_ret
      exact ⟨rfl, H⟩

set_option maxHeartbeats 1000000 in
theorem markTab (A : Option Addr) (n cap : Nat) (ln : Nat → Nat) (f : Tab) (lo : Nat) (w : World) (hr : TabOwn w lo A n ln f) (hm : n ≤ 1000000) (ht : totN ln n ≤ 1000000) :
    Calls Try.prog 16 #[.slice A n cap, .int .i64 1] w fun e w' => e = .returned (.int .i64 (1 + (totN ln n : Int))) ∧ Hid (TabOwn w' lo A n ln (mkN ln) ∧ Below lo w w') := by
  rcases Nat.eq_zero_or_pos n with h0 | h0
  · subst h0
    clear hr
    go_enter Try.func16, Try.ntmps16
    go_wp2
    go_loopw [1, 5] (fun q i wr => i = .int .i64 0 ∧ q = .int .i64 1 ∧ wr = w) (fun _ i _ => 0)
    case atStart => exact ⟨rfl, rfl, rfl⟩
    case round =>
      obtain ⟨rfl, rfl, rfl⟩ := hrel
      go_wp2
      go_ret
      exact ⟨by simp [totN], Lib.hid ⟨tabOwn_nil, Below.refl _ _⟩⟩
  · obtain ⟨g, off, bb, oo, rfl, hT⟩ := hr h0
    have HT := Lib.hid hT
    have HM := Lib.hid ht
    clear hT hr ht
    go_enter Try.func16, Try.ntmps16
    go_wp2
    go_loopg [1, 5] n (fun gk s1 ix wr => ∃ k : Nat, k + gk = n ∧ ix = .int .i64 k ∧ s1 = .int .i64 (1 + (totN ln k : Int)) ∧ Hid (TabAt wr lo g off bb oo n ln (fun i j => if i < k then mkN ln i j else f i j) ∧ Below lo w wr))
    case atStart => exact ⟨0, by omega, rfl, by simp [totN], Lib.hid ⟨HT.out.congr fun i j _ _ => by rw [if_neg (by omega)], Below.refl _ _⟩⟩
    case round =>
      obtain ⟨k, hkg, rfl, rfl, H⟩ := hrel
      cases gk with
      | zero =>
        obtain rfl : k = n := by omega
        clear hkg
        have HQ : Hid (TabOwn wr lo (some ⟨g, off, none⟩) k ln (mkN ln) ∧ Below lo w wr) := Lib.hid ⟨fun _ => ⟨g, off, bb, oo, rfl, H.out.1.congr fun i j hi _ => by rw [if_pos hi]⟩, H.out.2⟩
        clear H
        go_wp2
        go_ret
        exact ⟨rfl, HQ⟩
      | succ gk =>
        have hkn : k < n := by omega
        obtain ⟨Ai, ci, x0, hA⟩ := H.out.1.head k hkn
        have htk := Nat.le_trans (totN_row ln hkn) HM.out
        have HMk := Lib.hid (markRow Ai (bb k) (oo k) (ln k) ci (f k) lo (1 + (totN ln k : Int)) wr
          (fun h0 => ⟨hA h0, (H.out.1.row k hkn h0).1, (H.out.1.row k hkn h0).2.1, fun j hj => by have := H.out.1.cell k j hkn hj; rwa [if_neg (Nat.lt_irrefl k)] at this⟩) (by omega) (by omega) (by omega))
        obtain ⟨len, hlen⟩ : ∃ len, ln k = len := ⟨_, rfl⟩
        have HLn := Lib.hid hlen
        rw [hlen] at x0 HMk htk
        obtain ⟨T, hT⟩ : ∃ T, totN ln k = T := ⟨_, rfl⟩
        have HTk := Lib.hid hT
        rw [hT] at HMk htk ⊢
        have HKG := Lib.hid hkg
        clear hA hlen hT hkg
        go_wp2_with fail
        refine HMk.out.mono ?_
        rintro e w3 ⟨rfl, H3⟩
        have H4 : Hid (TabAt w3 lo g off bb oo n ln (fun i j => if i < k + 1 then mkN ln i j else f i j) ∧ Below lo w w3) := by
          refine Lib.hid ⟨?_, H.out.2.trans H3.out.1⟩
          rcases Nat.eq_zero_or_pos len with hz | hz
          · have e := H3.out.2.1
            rw [hz] at e
            refine TabAt.congr (f := fun i j => if i < k then mkN ln i j else f i j) ⟨H.out.1.glo, by rw [e.size]; exact H.out.1.gz, fun i hi => ?_, fun i hi h0 => by rw [e.size]; exact H.out.1.row i hi h0, fun i j hi hj => ?_, H.out.1.apart⟩ fun i j hi hj => ?_
            · obtain ⟨Ai, ci, h1, h2⟩ := H.out.1.head i hi
              exact ⟨Ai, ci, (e.cell _ (by omega)).trans h1, h2⟩
            · obtain ⟨h1, h2⟩ := H.out.1.cell i j hi hj
              exact ⟨(e.cell _ (by omega)).trans h1, (e.frz _).trans h2⟩
            · by_cases e : i = k
              · subst e; have := HLn.out; omega
              · by_cases e2 : i < k
                · rw [if_pos e2, if_pos (by omega)]
                · rw [if_neg e2, if_neg (by omega)]
          · have hl := HLn.out
            refine (H.out.1.turn (v := fun j => 1 + (T : Int) + (j : Int)) hkn (by omega) (by rw [hl]; exact H3.out.2.1) (by rw [hl]; exact H3.out.2.2)).congr fun i j hi hj => ?_
            by_cases e : i = k
            · subst e; rw [if_pos rfl, if_pos (by omega)]; unfold mkN; rw [HTk.out]
            · rw [if_neg e]
              by_cases e2 : i < k
              · rw [if_pos e2, if_pos (by omega)]
              · rw [if_neg e2, if_neg (by omega)]
        have HE : Hid ((1 : Int) + (T : Int) + (len : Int) = 1 + (totN ln (k + 1) : Int)) := Lib.hid (by simp only [totN]; rw [HTk.out, HLn.out]; omega)
        clear H H3 x0 HMk
        go_wp2
        go_roundg gk
        case measure => omega
        case rel => exact ⟨k + 1, by have := HKG.out; omega, by go_num, by rw [HE.out], H4⟩

set_option maxHeartbeats 1000000 in
theorem heldTab (A : Option Addr) (n cap : Nat) (ln : Nat → Nat) (w : World) (hr : TabRd w w.heap.size A n ln (mkN ln)) (hm : n ≤ 1000000) (ht : totN ln n ≤ 1000000) :
    Calls Try.prog 17 #[.slice A n cap, .int .i64 1] w fun e w' => e = .returned (.int .i64 (1 + (totN ln n : Int))) ∧ w = w' := by
  have HR := Lib.hid hr
  have HM := Lib.hid ht
  clear hr ht
  go_enter Try.func17, Try.ntmps17
  go_wp2
  go_loopg [1, 5] n (fun gk s1 ix wr => ∃ k : Nat, k + gk = n ∧ ix = .int .i64 k ∧ s1 = .int .i64 (1 + (totN ln k : Int)) ∧ w = wr)
  case atStart => exact ⟨0, by omega, rfl, by simp [totN], rfl⟩
  case round =>
    obtain ⟨k, hkg, rfl, rfl, rfl⟩ := hrel
    cases gk with
    | zero =>
      obtain rfl : k = n := by omega
      clear hkg
      go_wp2
      go_ret
      exact ⟨rfl, rfl⟩
    | succ gk =>
      have hkn : k < n := by omega
      obtain ⟨g, off, rfl, hg, hc⟩ := HR.out (by omega)
      obtain ⟨Ai, ci, x0, hrow⟩ := hc k hkn
      have htk := Nat.le_trans (totN_row ln hkn) HM.out
      have HMk := Lib.hid (heldInt Ai (ln k) ci (1 + (totN ln k : Int)) w hrow.int (by omega) (by omega) (by omega))
      obtain ⟨len, hlen⟩ : ∃ len, ln k = len := ⟨_, rfl⟩
      have HLn := Lib.hid hlen
      rw [hlen] at x0 HMk htk
      obtain ⟨T, hT⟩ : ∃ T, totN ln k = T := ⟨_, rfl⟩
      have HTk := Lib.hid hT
      rw [hT] at HMk htk ⊢
      have HKG := Lib.hid hkg
      have nn : (1 + (T : Int) + (len : Int) < 0) = False := by simp; omega
      clear hc hrow hlen hT hkg
      go_wp2_with fail
      refine HMk.out.mono ?_
      rintro e w3 ⟨rfl, rfl⟩
      have HE : Hid ((1 : Int) + (T : Int) + (len : Int) = 1 + (totN ln (k + 1) : Int)) := Lib.hid (by simp only [totN]; rw [HTk.out, HLn.out]; omega)
      clear x0 HMk
      go_wp2
      go_roundg gk
      case measure => omega
      case rel => exact ⟨k + 1, by have := HKG.out; omega, by go_num, by rw [HE.out], rfl⟩

/-- A list of lists of integers in new memory, and a code. -/
def ResTab (w : World) (n : Nat) (ln : Nat → Nat) (f : Tab) (c : Int) (e : Ending) (w' : World) : Prop :=
  ∃ A cap, e = .returned (.tuple #[.slice A n cap, .int .i64 c]) ∧ TabOwn w' w.heap.size A n ln f ∧ Below w.heap.size w w'
/-- The same, told only to be read. -/
def ResTabR (w : World) (n : Nat) (ln : Nat → Nat) (f : Tab) (c : Int) (e : Ending) (w' : World) : Prop :=
  ∃ A cap, e = .returned (.tuple #[.slice A n cap, .int .i64 c]) ∧ TabRd w' w'.heap.size A n ln f ∧ Below w.heap.size w w'

/-- Cells that a region reads. -/
structure H4 (w : World) (p1 p2 p3 p4 : Addr) (v1 v2 v3 v4 : Value) (W : World) : Prop where
  B : Below w.heap.size w W
  z1 : p1.block < W.heap.size
  z2 : p2.block < W.heap.size
  z3 : p3.block < W.heap.size
  z4 : p4.block < W.heap.size
  x1 : W.cell? p1 = some v1
  x2 : W.cell? p2 = some v2
  x3 : W.cell? p3 = some v3
  x4 : W.cell? p4 = some v4
theorem H4.on {w W W1 : World} {p1 p2 p3 p4 : Addr} {v1 v2 v3 v4 : Value} (H : H4 w p1 p2 p3 p4 v1 v2 v3 v4 W) (hb : Below W.heap.size W W1) : H4 w p1 p2 p3 p4 v1 v2 v3 v4 W1 := by
  have hs := hb.size
  have := H.z1; have := H.z2; have := H.z3; have := H.z4
  exact ⟨belowNext H.B hb, by omega, by omega, by omega, by omega, (hb.cell H.z1).trans H.x1, (hb.cell H.z2).trans H.x2, (hb.cell H.z3).trans H.x3, (hb.cell H.z4).trans H.x4⟩
theorem belowDrewH {W w1 : World} (h : Hid (∃ k, w1 = W.drewN k)) : Below W.heap.size W w1 := by
  obtain ⟨k, rfl⟩ := h.out
  exact below_drewN (Below.refl _ _) k

set_option maxRecDepth 8000 in
set_option maxHeartbeats 2000000 in
theorem eqTab (A : Option Addr) (n cap : Nat) (A' : Option Addr) (cap' : Nat) (ln : Nat → Nat) (f : Tab) (w : World) (hr : TabRd w w.heap.size A n ln f) (hr' : TabRd w w.heap.size A' n ln f) (hm : n ≤ 1000000) (ht : totN ln n ≤ 1000000) :
    Calls Try.prog 15 #[.slice A n cap, .slice A' n cap'] w fun e w' => e = .returned (.bool true) ∧ Below w.heap.size w w' := by
  have HR := Lib.hid hr
  have HR' := Lib.hid hr'
  have HM := Lib.hid ht
  clear hr hr' ht
  go_enter Try.func15, Try.ntmps15
  go_wp2
  go_loopg [5] n (fun g ix wr => ∃ k : Nat, k + g = n ∧ ix = .int .i64 k ∧ Hid (Below w.heap.size w wr))
  case atStart => exact ⟨0, by omega, rfl, Lib.hid (Below.refl _ _)⟩
  case round =>
    obtain ⟨k, hkg, rfl, HB⟩ := hrel
    cases gk with
    | zero =>
      obtain rfl : k = n := by omega
      clear hkg
      go_wp2
      go_ret
      exact ⟨rfl, HB.out⟩
    | succ g =>
      have hkn : k < n := by omega
      obtain ⟨b, off, rfl, hbb, hc⟩ := HR.out (by omega)
      obtain ⟨b', off', rfl, hbb', hc'⟩ := HR'.out (by omega)
      obtain ⟨Ai, ci, x0, hrow⟩ := hc k hkn
      obtain ⟨Aj, cj, y0, hrow'⟩ := hc' k hkn
      have htk := Nat.le_trans (totN_row ln hkn) HM.out
      have HE := Lib.hid (fun W (hB : Below w.heap.size w W) => eqIntS Ai Aj (ln k) ci cj (rngL (ln k) (f k)) W ((hrow.below hB).more hB.size).int ((hrow'.below hB).more hB.size).int (rngL_len _ _) (by omega))
      obtain ⟨len, hlen⟩ : ∃ len, ln k = len := ⟨_, rfl⟩
      rw [hlen] at x0 y0 HE
      have hbw : b < wr.heap.size := Nat.lt_of_lt_of_le hbb HB.out.size
      have hbw' : b' < wr.heap.size := Nat.lt_of_lt_of_le hbb' HB.out.size
      have S0 : H4 w ⟨b, off + k, none⟩ ⟨b', off' + k, none⟩ ⟨b', off' + k, none⟩ ⟨b', off' + k, none⟩ _ _ _ _ wr := ⟨HB.out, hbw, hbw', hbw', hbw', cellThru HB.out hbb x0, cellThru HB.out hbb' y0, cellThru HB.out hbb' y0, cellThru HB.out hbb' y0⟩
      have HKG := Lib.hid hkg
      clear hc hc' hrow hrow' hlen htk hkg x0 y0
      go_wp2_with fail
      refine wp_region_held_drew (S := (H4 w ⟨b, off + k, none⟩ ⟨b', off' + k, none⟩ ⟨b', off' + k, none⟩ ⟨b', off' + k, none⟩ (.slice Ai len ci) (.slice Aj len cj) (.slice Aj len cj) (.slice Aj len cj))) (by kernel_rfl) ?_ (fun hHeld => ?_)
      · exact S0.on (Below.refl _ _).drew
      refine wpAnyH_take (i := 0) (v := ?_) rfl (by kernel_rfl) (by kernel_rfl) (by kernel_rfl) (fun _ _ _ h => h) (Or.inl ⟨by kernel_rfl, ?_⟩) hHeld ?_
      rotate_left
      · intro w hSw; obtain ⟨B, z1, z2, z3, z4, x1, x2, x3, x4⟩ := hSw; first | (go_simp; done) | (go_simp; with_reducible rfl)
      refine wpAnyH_take (i := 1) (v := ?_) rfl (by kernel_rfl) (by kernel_rfl) (by kernel_rfl) (fun _ _ _ h => h) (Or.inl ⟨by kernel_rfl, ?_⟩) hHeld ?_
      rotate_left
      · intro w hSw; obtain ⟨B, z1, z2, z3, z4, x1, x2, x3, x4⟩ := hSw; first | (go_simp; done) | (go_simp; with_reducible rfl)
      refine wpAnyH_take (i := 2) (v := ?_) rfl (by kernel_rfl) (by kernel_rfl) (by kernel_rfl) (fun _ _ _ h => h) (Or.inl ⟨by kernel_rfl, ?_⟩) hHeld ?_
      rotate_left
      · intro w hSw; obtain ⟨B, z1, z2, z3, z4, x1, x2, x3, x4⟩ := hSw; first | (go_simp; done) | (go_simp; with_reducible rfl)
      refine wpAnyH_take (i := 3) (v := ?_) rfl (by kernel_rfl) (by kernel_rfl) (by kernel_rfl) (fun _ _ _ h => h) (Or.inl ⟨by kernel_rfl, ?_⟩) hHeld ?_
      rotate_left
      · intro w hSw; obtain ⟨B, z1, z2, z3, z4, x1, x2, x3, x4⟩ := hSw; first | (go_simp; done) | (go_simp; with_reducible rfl)
      refine wpAnyH_take (i := 4) (v := ?_) rfl (by kernel_rfl) (by kernel_rfl) (by kernel_rfl) (fun _ _ _ h => h) (Or.inl ⟨by kernel_rfl, ?_⟩) hHeld ?_
      rotate_left
      · intro w hSw; obtain ⟨B, z1, z2, z3, z4, x1, x2, x3, x4⟩ := hSw; first | (go_simp; done) | (go_simp; with_reducible rfl)
      refine wpAnyH_take (i := 5) (v := ?_) rfl (by kernel_rfl) (by kernel_rfl) (by kernel_rfl) (fun _ _ _ h => h) (Or.inl ⟨by kernel_rfl, ?_⟩) hHeld ?_
      rotate_left
      · intro w hSw; obtain ⟨B, z1, z2, z3, z4, x1, x2, x3, x4⟩ := hSw; first | (go_simp; done) | (go_simp; with_reducible rfl)
      refine wpAnyH_take (i := 6) (v := ?_) rfl (by kernel_rfl) (by kernel_rfl) (by kernel_rfl) (fun _ _ _ h => h) (Or.inl ⟨by kernel_rfl, ?_⟩) hHeld ?_
      rotate_left
      · intro w hSw; obtain ⟨B, z1, z2, z3, z4, x1, x2, x3, x4⟩ := hSw; first | (go_simp; done) | (go_simp; with_reducible rfl)
      refine wpAnyH_take (i := 7) (v := ?_) rfl (by kernel_rfl) (by kernel_rfl) (by kernel_rfl) (fun _ _ _ h => h) (Or.inl ⟨by kernel_rfl, ?_⟩) hHeld ?_
      rotate_left
      · intro w hSw; obtain ⟨B, z1, z2, z3, z4, x1, x2, x3, x4⟩ := hSw; first | (go_simp; done) | (go_simp; with_reducible rfl)
      refine wpAnyH_ready (rs := [8]) (by kernel_rfl) (by simp) ?_
      refine AllReadyH.cons rfl (fun K hK => ?_) AllReadyH.nil
      go_simp
      go_wp2_with (go_at_call 26; (with_reducible refine (HE.out _ hHeld.B).mono ?_); rintro e w1 ⟨rfl, hb1⟩)
      have S2 := hHeld.on (belowDrewH hb1)
      refine hK.out _ _ ?_ (fun hHeld => ?_)
      · exact S2
      clear hK K
      refine wpAnyH_take (i := 9) (v := ?_) rfl (by kernel_rfl) (by kernel_rfl) (by kernel_rfl) (fun _ _ _ h => h) (Or.inl ⟨by kernel_rfl, ?_⟩) hHeld ?_
      rotate_left
      · intro w hSw; obtain ⟨B, z1, z2, z3, z4, x1, x2, x3, x4⟩ := hSw; first | (go_simp; done) | (go_simp; with_reducible rfl)
      refine wpAnyH_done (by kernel_rfl) ?_ _
      have HB5 := Lib.hid S2.B
      clear S0 S2 HB
      go_wp2
      go_roundg g
      case measure => omega
      case rel => exact ⟨k + 1, by have := HKG.out; omega, by go_num, HB5⟩

theorem infoI8 : (Try.prog.info? 2).map (fun i => (i.zero, i.size, i.bytes)) = some (some (.int .i64 0), 1, 8) := by kernel_rfl
theorem infoS8 : (Try.prog.info? 32).map (fun i => (i.zero, i.size, i.bytes)) = some (some (.slice none 0 0), 1, 24) := by kernel_rfl
theorem infoI8_parts : ∃ i : TypeInfo, Try.prog.info? 2 = some i ∧ i.zero = some (.int .i64 0) ∧ i.size = 1 ∧ i.bytes = 8 := by
  have hinfo := infoI8
  cases hi : Try.prog.info? 2 with
  | none => rw [hi] at hinfo; cases hinfo
  | some i =>
    rw [hi] at hinfo
    simp only [Option.map_some, Option.some.injEq, Prod.mk.injEq] at hinfo
    exact ⟨i, rfl, hinfo⟩
theorem infoS8_parts : ∃ i : TypeInfo, Try.prog.info? 32 = some i ∧ i.zero = some (.slice none 0 0) ∧ i.size = 1 ∧ i.bytes = 24 := by
  have hinfo := infoS8
  cases hi : Try.prog.info? 32 with
  | none => rw [hi] at hinfo; cases hinfo
  | some i =>
    rw [hi] at hinfo
    simp only [Option.map_some, Option.some.injEq, Prod.mk.injEq] at hinfo
    exact ⟨i, rfl, hinfo⟩
theorem ownNone8 {W : World} {lo : Nat} {e : TypeId} {k : Nat} : W.ownsRow lo e k (.slice none 0 0) 0 [] := ⟨by simp, .inl ⟨rfl, rfl⟩⟩
theorem belowG8 {W W1 : World} (hb : Below W.heap.size W W1) : W.grownBy W1 none := ⟨hb.os, hb.tape, hb.output, hb.size, fun i hi _ => hb.block i hi⟩
theorem ownTurn8 {w w1 : World} {row : Option Nat} {lo : Nat} {e : TypeId} {k : Nat} {v : Value} {n : Nat} {xs : List Value} (h : w.ownsRow lo e k v n xs) (hg : w.grownBy w1 row) (hr : ∀ j, row = some j → j < lo) : w1.ownsRow lo e k v n xs := by
  obtain ⟨hx, h2⟩ := h
  rcases h2 with h3 | ⟨g, cap, cur, e1, hlo, hc, hrest⟩
  · exact ⟨hx, .inl h3⟩
  · have hlt : g < w.heap.size := (Array.getElem?_eq_some_iff.1 hc).1
    exact ⟨hx, .inr ⟨g, cap, cur, e1, hlo, (hg.block g hlt (fun e2 => by have := hr g e2.symm; omega)).trans hc, hrest⟩⟩
theorem ownNext8 {w w1 : World} {lo : Nat} {e : TypeId} {k : Nat} {v : Value} {n : Nat} {xs : List Value} (h : w.ownsRow lo e k v n xs) (hb : Below w.heap.size w w1) : w1.ownsRow lo e k v n xs := ownTurn8 h (belowG8 hb) (fun j e => by cases e)
theorem ownBlock8 {w : World} {lo : Nat} {e : TypeId} {k : Nat} {v : Value} {n : Nat} {xs : List Value} (h : w.ownsRow lo e k v n xs) : ∀ j, v.ownBlock = some j → lo ≤ j := by
  intro j e1
  rcases h.2 with ⟨hv, _⟩ | ⟨g0, c0, cur, hv, hlo, _⟩
  · rw [hv] at e1; simp [Value.ownBlock] at e1
  · rw [hv] at e1; simp [Value.ownBlock] at e1; omega
theorem ownLow8 {w : World} {lo lo' : Nat} {e : TypeId} {k : Nat} {v : Value} {n : Nat} {xs : List Value} (h : w.ownsRow lo e k v n xs) (hl : lo' ≤ lo) : w.ownsRow lo' e k v n xs := by
  obtain ⟨hx, h2⟩ := h
  rcases h2 with h3 | ⟨g, cap, cur, e1, hlo, hc, hrest⟩
  · exact ⟨hx, .inl h3⟩
  · exact ⟨hx, .inr ⟨g, cap, cur, e1, by omega, hc, hrest⟩⟩
theorem ownForm8 {w : World} {lo : Nat} {e : TypeId} {k n : Nat} {v : Value} {xs : List Value} (h : w.ownsRow lo e k v n xs) : ∃ A c, v = .slice A n c ∧ n ≤ c ∧ (0 < n → ∃ g, A = some ⟨g, 0, none⟩ ∧ lo ≤ g ∧ g < w.heap.size) := by
  rcases h.2 with ⟨hv, hn⟩ | ⟨g, cap, cur, hv, hlo, hc, hrest⟩
  · subst hn; exact ⟨none, 0, hv, Nat.le_refl _, fun h => absurd h (by omega)⟩
  · exact ⟨_, cap, hv, by omega, fun _ => ⟨g, rfl, hlo, (Array.getElem?_eq_some_iff.1 hc).1⟩⟩
theorem below_grown8 {w wr w1 : World} {lo : Nat} {row : Option Nat} (hb : Below lo w wr) (hg : wr.grownBy w1 row) (hr : ∀ j, row = some j → lo ≤ j) (hl : lo ≤ wr.heap.size) : Below lo w w1 :=
  hb.trans ⟨hg.os, hg.tape, hg.output, hg.size, fun i hi => hg.block i (by omega) (fun e => by have := hr i e.symm; omega)⟩
theorem cell_two_new8 (w : World) (x y : Value) (t : TypeId) : ∀ j u, [x, y][j]? = some u → (w.alloc (.cells #[x, y] t)).cell? ((⟨w.heap.size, 0, none⟩ : Addr).add j) = some u := by
  intro j u hj
  match j, hj with
  | 0, hj => simp at hj; subst hj; simp [Addr.add]
  | 1, hj => simp at hj; subst hj; simp [Addr.add]

/-- The pairs with the first number i + 1, the first q of them. -/
def innP (i q : Nat) : List (Int × Int) := (List.range q).map fun (k : Nat) => ((i : Int) + 1, (i : Int) + 2 + (k : Int))
def prK (m : Nat) : Nat → List (Int × Int)
  | 0 => []
  | i + 1 => prK m i ++ innP i (m - (i + 1))
/-- The pairs of the numbers up to m, in their order. -/
def prL (m : Nat) : List (Int × Int) := prK m m
theorem innP_succ (i q : Nat) : innP i (q + 1) = innP i q ++ [((i : Int) + 1, (i : Int) + 2 + (q : Int))] := by
  simp [innP, List.range_succ]
theorem innP_zero (i : Nat) : innP i 0 = [] := rfl
theorem innP_len (i q : Nat) : (innP i q).length = q := by simp [innP]
theorem prK_len (m : Nat) : ∀ i, (prK m i).length ≤ i * m
  | 0 => by simp [prK]
  | i + 1 => by
    have := prK_len m i
    simp only [prK, List.length_append, innP_len, Nat.succ_mul]
    omega
theorem prL_len {m : Nat} (h : m ≤ 7) : (prL m).length ≤ 21 := by
  have : ∀ k : Fin 8, (prL k.1).length ≤ 21 := by decide
  exact this ⟨m, by omega⟩
/-- Numbers in pairs, as a table. -/
def pF (l : List (Int × Int)) : Tab := fun k j => if j = 0 then (l.getD k (0, 0)).1 else (l.getD k (0, 0)).2

/-- Rows cut out of the cells of a block. -/
def rowCells (b o wd n : Nat) : List Value := (List.range n).map fun i => .slice (some ⟨b, o + i * wd, none⟩) wd wd
theorem rowCells_succ (b o wd n : Nat) : rowCells b o wd (n + 1) = rowCells b o wd n ++ [.slice (some ⟨b, o + n * wd, none⟩) wd wd] := by
  simp [rowCells, List.range_succ]
theorem rowCells_len (b o wd n : Nat) : (rowCells b o wd n).length = n := by simp [rowCells]
theorem rowCells_get {b o wd n i : Nat} (h : i < n) : (rowCells b o wd n)[i]? = some (.slice (some ⟨b, o + i * wd, none⟩) wd wd) := by
  unfold rowCells
  rw [List.getElem?_map, List.getElem?_range h]; rfl

set_option maxRecDepth 8000 in
set_option maxHeartbeats 2000000 in
theorem implRows (A : Option Addr) (len cap wd n b o : Nat) (w : World) (hl : len = n * wd) (hc : len ≤ cap) (hA : 0 < n → A = some ⟨b, o, none⟩ ∧ 0 < wd) (hm : len ≤ 1000000) (hw : wd ≤ 1000000) (hn : n ≤ 1000000) :
    Calls Try.prog 69 #[.slice A len cap, .int .i64 wd] w fun e w' => ∃ A' cap', e = .returned (.slice A' n cap') ∧ Hid (w'.ownsRow w.heap.size 32 1 (.slice A' n cap') n (rowCells b o wd n)) ∧ Below w.heap.size w w' := by
  obtain ⟨i0, hi, hz0, hz1, hz2⟩ := infoS8_parts
  have HI := Lib.hid hi
  have HZ0 := Lib.hid hz0
  have HL := Lib.hid hl
  clear hl hi hz0
  go_enter Try.func69, Try.ntmps69
  go_wp2
  go_loopg [5, 6, 7] n (fun g s5 s6 _ wr => ∃ (k P : Nat) (B : Option Addr) (c : Nat), k + g = n ∧ Hid (k * wd = P) ∧ s6 = .int .i64 P ∧ s5 = .slice B k c ∧ Hid (wr.ownsRow w.heap.size 32 1 (.slice B k c) k (rowCells b o wd k)) ∧ Below w.heap.size w wr)
  case atStart => exact ⟨0, 0, none, 0, by omega, Lib.hid (Nat.zero_mul _), rfl, rfl, Lib.hid ownNone8, Below.refl _ _⟩
  case round =>
    obtain ⟨k, P, B, c, hkg, HP, rfl, rfl, HO, HB⟩ := hrel
    cases gk with
    | zero =>
      obtain rfl : k = n := by omega
      have e : P = len := by rw [HL.out]; exact HP.out.symm
      subst e
      have hlt : decide ((P : Int) < (P : Int)) = false := decide_eq_false (by omega)
      clear hkg
      go_wp2
      go_ret
      exact ⟨B, c, rfl, HO, HB⟩
    | succ g =>
      have hkn : k < n := by omega
      obtain ⟨rfl, hwd⟩ := hA (by omega)
      have hPl : P + wd ≤ len := by
        have := Nat.mul_le_mul_right wd (show k + 1 ≤ n by omega)
        rw [Nat.succ_mul, HP.out, ← HL.out] at this
        exact this
      have HE : Hid (rowCells b o wd k ++ [.slice (some ⟨b, o + P, none⟩) wd wd] = rowCells b o wd (k + 1)) := Lib.hid (by rw [rowCells_succ, HP.out])
      have HP2 : Hid ((k + 1) * wd = P + wd) := Lib.hid (by rw [Nat.succ_mul, HP.out])
      have hs : IntKind.i64.wrap ((P : Int) + (wd : Int)) = ((P + wd : Nat) : Int) := (IntWalk.i64_in _ (by omega)).trans (by omega)
      have d1 : decide ((P : Int) < (len : Int)) = true := decide_eq_true (by omega)
      have HKG := Lib.hid hkg
      have hi := HI.out
      have hz0 := HZ0.out
      have hown := HO.out
      have hzS := HB.size
      clear hkg
      go_wp2_with (at_builtin; refine wpList_append_own_at _ rfl _ _ 24 rfl w.heap.size 32 i0 (.slice none 0 0) 1 24 Try.underlying24 hi hz0 hz1 hz2 rfl (by decide) (.slice B k c) k (rowCells b o wd k) rfl (World.ownsRow.alloc hown _) ⟨wr.heap.size, 0, none⟩ 1 1 [.slice (some ⟨b, o + P, none⟩) wd wd] rfl rfl ?c1 ?c2 ?c3 ?c4 ?c5 ?_)
      case c2 => first | rfl | (intro u hu; simp at hu; subst hu; rfl)
      case c3 => unfold maxLen; omega
      case c4 => omega
      case c5 => first | omega | (simp; omega)
      intro v' w1 hown' hgrow _ _
      rw [HE.out] at hown'
      have HB1 : Below w.heap.size w w1 := below_grown8 (show Below w.heap.size w (wr.alloc _) from belowAlloc HB _) hgrow (fun j e => ownBlock8 hown j e) (by simp; omega)
      obtain ⟨A', c', rfl, _⟩ := ownForm8 hown'
      have HO' := Lib.hid hown'
      clear hown hown' hgrow HB hzS HO HE hi hz0
      go_wp2
      go_roundg g
      case measure => omega
      case rel => exact ⟨k + 1, P + wd, A', c', by have := HKG.out; omega, HP2, by go_num, rfl, HO', HB1⟩

theorem rows_tab {W : World} {lo lo2 : Nat} {A : Option Addr} {n c b o wd : Nat} {F : Nat → Int} (h : W.ownsRow lo2 32 1 (.slice A n c) n (rowCells b o wd n)) (hlo : lo ≤ lo2) (hb : 0 < wd → 0 < n → lo ≤ b ∧ b < W.heap.size ∧ b < lo2)
    (hc : ∀ t, t < n * wd → W.cell? ⟨b, o + t, none⟩ = some (.int .i64 (F t)) ∧ W.frozen? ⟨b, o + t, none⟩ = false) : TabOwn W lo A n (fun _ => wd) (fun i j => F (i * wd + j)) := by
  intro hn
  obtain ⟨g, c', hv, hg1, hg2⟩ := h.form hn
  obtain ⟨rfl, rfl⟩ : A = some ⟨g, 0, none⟩ ∧ c = c' := by injection hv with hA _ hc; exact ⟨hA, hc⟩
  have hin : ∀ {i j : Nat}, i < n → j < wd → i * wd + j < n * wd := by
    intro i j hi hj
    have := Nat.mul_le_mul_right wd (show i + 1 ≤ n by omega)
    rw [Nat.succ_mul] at this
    omega
  refine ⟨g, 0, fun _ => b, fun i => o + i * wd, rfl, Nat.le_trans hlo hg1, hg2, fun i hi => ?_, fun i hi h0 => ?_, fun i j hi hj => ?_, fun i k j m hi hk hne hj hm _ => ?_⟩
  · refine ⟨some ⟨b, o + i * wd, none⟩, wd, ?_, fun _ => rfl⟩
    rw [Nat.zero_add]
    exact (h.cellAt i (by omega)).trans (rowCells_get hi)
  · obtain ⟨h1, h2, h3⟩ := hb h0 hn
    exact ⟨h1, h2, by omega⟩
  · have := hc (i * wd + j) (hin hi hj)
    rw [← Nat.add_assoc] at this
    exact this
  · intro e
    rcases Nat.lt_or_ge i k with h1 | h1
    · have := Nat.mul_le_mul_right wd (show i + 1 ≤ k by omega)
      rw [Nat.succ_mul] at this
      omega
    · have := Nat.mul_le_mul_right wd (show k + 1 ≤ i by omega)
      rw [Nat.succ_mul] at this
      omega
def pFl (l : List (Int × Int)) : Nat → Int := fun t => if t % 2 = 0 then (l.getD (t / 2) (0, 0)).1 else (l.getD (t / 2) (0, 0)).2
theorem flatA_cell {l : List (Int × Int)} {t : Nat} (h : t < l.length * 2) : (flatA l)[t]? = some (.int .i64 (pFl l t)) := by
  have hi : t / 2 < l.length := by omega
  obtain ⟨a, b⟩ := flatA_at (l := l) (i := t / 2) (a := l[t / 2].1) (b := l[t / 2].2) (List.getElem?_eq_getElem hi)
  have e : l.getD (t / 2) (0, 0) = l[t / 2] := by rw [List.getD_eq_getElem?_getD, List.getElem?_eq_getElem hi]; rfl
  unfold pFl
  rw [e]
  by_cases h2 : t % 2 = 0
  · rw [if_pos h2]; rw [show t / 2 * 2 = t by omega] at a; exact a
  · rw [if_neg h2]; rw [show t / 2 * 2 + 1 = t by omega] at b; exact b
theorem pairs_tab {W : World} {lo lo2 : Nat} {b cn : Nat} {l : List (Int × Int)} {A : Option Addr} {c : Nat} (hn : 0 < l.length → W.ownsRow lo 2 1 (.slice (some ⟨b, 0, none⟩) (l.length * 2) cn) (l.length * 2) (flatA l))
    (h : W.ownsRow lo2 32 1 (.slice A l.length c) l.length (rowCells b 0 2 l.length)) (hlo : lo ≤ lo2) (hb : 0 < l.length → b < lo2) : TabOwn W lo A l.length (fun _ => 2) (pF l) := by
  refine (rows_tab (F := pFl l) h hlo (fun _ h0 => ?_) (fun t ht => ?_)).congr fun i j hi hj => ?_
  · obtain ⟨g, c', hv, hg1, hg2⟩ := (hn h0).form (by omega)
    injection hv with hA _ _
    injection hA with hA
    injection hA with hA
    subst hA
    exact ⟨hg1, hg2, hb h0⟩
  · have h0 : 0 < l.length := by omega
    obtain ⟨g, c', hv, hg1, hg2⟩ := (hn h0).form (by omega)
    injection hv with hA _ _
    injection hA with hA
    injection hA with hA
    subst hA
    rw [Nat.zero_add]
    exact ⟨((hn h0).cellAt t (by omega)).trans (flatA_cell ht), (hn h0).frozenAt _⟩
  · unfold pFl pF
    by_cases e : j = 0
    · subst e; rw [if_pos rfl, if_pos (by omega), show (i * 2 + 0) / 2 = i by omega]
    · rw [if_neg e, if_neg (by omega), show (i * 2 + j) / 2 = i by omega]

/-- The code of the orbit of an angle, as it is asked for with its pairs. -/
def c8 (n d : Int) : Int := if oC n d = 0 then (if (oL n d).length ≤ 7 then 0 else 2) else if oC n d = 3 then 2 else 1
/-- The orbit, if it is short. -/
def o8 (n d : Int) : List (Int × Int) := if c8 n d = 0 then oL n d else []
theorem o8_cases (n d : Int) : (oC n d = 1 ∧ oL n d = [] ∧ c8 n d = 1 ∧ o8 n d = [] ∧ isAng n d = false) ∨ (oC n d = 3 ∧ oL n d = [] ∧ c8 n d = 2 ∧ o8 n d = [] ∧ isAng n d = true) ∨
    (oC n d = 0 ∧ 7 < (oL n d).length ∧ c8 n d = 2 ∧ o8 n d = [] ∧ isAng n d = true) ∨ (oC n d = 0 ∧ (oL n d).length ≤ 7 ∧ 0 < (oL n d).length ∧ c8 n d = 0 ∧ o8 n d = oL n d ∧ isAng n d = true) := by
  cases h1 : isAng n d
  · have e1 : oL n d = [] := by unfold oL; simp [h1]
    have e2 : oC n d = 1 := by unfold oC; simp [h1]
    have e3 : c8 n d = 1 := by unfold c8; rw [e2]; rfl
    exact .inl ⟨e2, e1, e3, by unfold o8; rw [e3]; rfl, rfl⟩
  · cases hf : findOrb (n, d) 65 0 with
    | none =>
      have e1 : oL n d = [] := by unfold oL; simp [h1, hf]
      have e2 : oC n d = 3 := by unfold oC; simp [h1, hf]
      have e3 : c8 n d = 2 := by unfold c8; rw [e2]; rfl
      exact .inr (.inl ⟨e2, e1, e3, by unfold o8; rw [e3]; rfl, rfl⟩)
    | some k =>
      have e1 : oL n d = orbList (n, d) k := by unfold oL; simp [h1, hf]
      have e2 : oC n d = 0 := by unfold oC; simp [h1, hf]
      by_cases hk : (oL n d).length ≤ 7
      · have e3 : c8 n d = 0 := by unfold c8; rw [e2, if_pos rfl, if_pos hk]
        refine .inr (.inr (.inr ⟨e2, hk, ?_, e3, by unfold o8; rw [e3]; rfl, rfl⟩))
        rw [e1, orbList_len]
        rcases Nat.eq_zero_or_pos k with h0 | h0
        · subst h0
          have := (find_le _ _ _ hf).2.2.1
          simp [hit] at this
        · exact h0
      · have e3 : c8 n d = 2 := by unfold c8; rw [e2, if_pos rfl, if_neg hk]
        exact .inr (.inr (.inl ⟨e2, by omega, e3, by unfold o8; rw [e3]; rfl, rfl⟩))

/-- The orbit of an angle with its pairs, and a code. -/
def ResPT (w : World) (L : List (Int × Int)) (C : Int) (e : Ending) (w' : World) : Prop :=
  ∃ A cap A2 cap2, e = .returned (.tuple #[.agg #[.slice A L.length cap, .slice A2 (prL L.length).length cap2], .int .i64 C]) ∧ AngOwn w' w.heap.size A L ∧ TabOwn w' w.heap.size A2 (prL L.length).length (fun _ => 2) (pF (prL L.length)) ∧ Below w.heap.size w w'

theorem AngOwn.low8 {W : World} {lo lo' : Nat} {A : Option Addr} {L : List (Int × Int)} (h : AngOwn W lo A L) (hl : lo' ≤ lo) : AngOwn W lo' A L := by
  intro hL
  obtain ⟨b, off, e, h1, h2, h3⟩ := h hL
  exact ⟨b, off, e, Nat.le_trans hl h1, h2, h3⟩
theorem AngOwn.setLow {W : World} {lo : Nat} {A : Option Addr} {L : List (Int × Int)} {p : Addr} {v : Value} (h : AngOwn W lo A L) (hp : p.block < lo) : AngOwn (W.setCell p v) lo A L := by
  intro hL
  obtain ⟨b, off, e, h1, h2, hc⟩ := h hL
  refine ⟨b, off, e, h1, by simpa using h2, fun i n d hi => ?_⟩
  obtain ⟨a1, a2, a3, a4⟩ := hc i n d hi
  refine ⟨?_, ?_, by simpa using a3, by simpa using a4⟩
  · rw [World.cell?_setCell_other _ _ _ _ (by intro e; subst e; simp at hp; omega)]; exact a1
  · rw [World.cell?_setCell_other _ _ _ _ (by intro e; subst e; simp at hp; omega)]; exact a2
theorem TabOwn.setLow {W : World} {lo : Nat} {A : Option Addr} {n : Nat} {ln : Nat → Nat} {f : Tab} {p : Addr} {v : Value} (h : TabOwn W lo A n ln f) (hp : p.block < lo) : TabOwn (W.setCell p v) lo A n ln f := by
  intro hn
  obtain ⟨g, off, bb, oo, e, H⟩ := h hn
  refine ⟨g, off, bb, oo, e, H.glo, by simpa using H.gz, fun i hi => ?_, fun i hi h0 => by simpa using H.row i hi h0, fun i j hi hj => ?_, H.apart⟩
  · obtain ⟨Ai, ci, h1, h2⟩ := H.head i hi
    refine ⟨Ai, ci, ?_, h2⟩
    have := H.glo
    rw [World.cell?_setCell_other _ _ _ _ (by intro e; subst e; simp at hp; omega)]; exact h1
  · obtain ⟨h1, h2⟩ := H.cell i j hi hj
    have := (H.row i hi (by omega)).1
    refine ⟨?_, by simpa using h2⟩
    rw [World.cell?_setCell_other _ _ _ _ (by intro e; subst e; simp at hp; omega)]; exact h1

/-- What pairTableOf keeps. -/
structure PtS (w : World) (A : Option Addr) (L : List (Int × Int)) (W : World) : Prop where
  B : Below w.heap.size w W
  z : w.heap.size + 1 < W.heap.size
  own : AngOwn W (w.heap.size + 2) A L
  p0 : ∃ v, W.cell? ⟨w.heap.size + 1, 0, none⟩ = some v
  p1 : ∃ v, W.cell? ⟨w.heap.size + 1, 1, none⟩ = some v
  f0 : W.frozen? ⟨w.heap.size + 1, 0, none⟩ = false
  f1 : W.frozen? ⟨w.heap.size + 1, 1, none⟩ = false
theorem PtS.on {w W W1 : World} {A : Option Addr} {L : List (Int × Int)} (H : PtS w A L W) (hb : Below W.heap.size W W1) : PtS w A L W1 := by
  obtain ⟨v0, q0⟩ := H.p0
  obtain ⟨v1, q1⟩ := H.p1
  exact ⟨belowNext H.B hb, Nat.lt_of_lt_of_le H.z hb.size, H.own.next hb, ⟨v0, cellThru hb H.z q0⟩, ⟨v1, cellThru hb H.z q1⟩, frozThru hb H.z H.f0, frozThru hb H.z H.f1⟩

theorem prK_bound {m k q : Nat} (hm : m ≤ 7) (hk : k < m) (hq : q ≤ m - (k + 1)) : (prK m k ++ innP k q).length ≤ 100 := by
  have h1 := prK_len m k
  have h2 : k * m ≤ 7 * 7 := Nat.mul_le_mul (by omega) hm
  rw [List.length_append, innP_len]
  omega

set_option maxRecDepth 8000 in
set_option maxHeartbeats 4000000 in
theorem implPT (n d : Int) (w : World) : Calls Try.prog 41 #[ang n d] w (ResPT w (o8 n d) (c8 n d)) := by
  have HO := Lib.hid (fun w => implOrbitOf n d w)
  obtain ⟨i0, hi, hz0, hz1, hz2⟩ := infoI8_parts
  have HI := Lib.hid hi
  have HZ0 := Lib.hid hz0
  clear hi hz0
  have hcs : ((oC n d = 3 ∨ 7 < (oL n d).length) ∧ c8 n d = 2 ∧ o8 n d = [] ∧ (oC n d = 3 ∨ oC n d = 0)) ∨ (oC n d ≠ 3 ∧ (oL n d).length ≤ 7 ∧ c8 n d = oC n d ∧ o8 n d = oL n d) := by
    rcases o8_cases n d with ⟨a, b, c, e, _⟩ | ⟨a, b, c, e, _⟩ | ⟨a, b, c, e, _⟩ | ⟨a, b, _, c, e, _⟩
    · exact .inr ⟨by omega, by rw [b]; simp, by omega, by rw [b, e]⟩
    · exact .inl ⟨.inl a, c, e, .inl a⟩
    · exact .inl ⟨.inr b, c, e, .inr a⟩
    · exact .inr ⟨by omega, b, by omega, e⟩
  generalize oL n d = L at *
  generalize oC n d = C at *
  generalize c8 n d = C' at *
  generalize o8 n d = L' at *
  rcases hcs with ⟨h1, e1, e2, h3⟩ | ⟨h1, h2, e1, e2⟩ <;> rw [e1, e2] <;> clear e1 e2
  · obtain ⟨m, hm⟩ : ∃ m, L.length = m := ⟨_, rfl⟩
    rw [hm] at h1
    have HLm := Lib.hid hm
    clear hm
    go_enter Try.func41, Try.ntmps41
    go_wp2_with fail
    refine (HO.out _).mono ?_
    rintro e w2 ⟨A, cap, rfl, hA, hb2⟩
    rw [HLm.out]
    have S2 : PtS w A L w2 := by
      refine ⟨?_, ?_, ?_, ⟨.slice none 0 0, ?_⟩, ⟨.slice none 0 0, ?_⟩, ?_, ?_⟩
      · (repeat' (first | (with_reducible exact Below.refl _ _) | (with_reducible assumption) | (with_reducible refine belowNext ?_ (by with_reducible assumption)) | (with_reducible refine belowAlloc ?_ _) | (with_reducible refine Below.drew ?_) | (with_reducible refine below_drewN ?_ _) | (with_reducible refine Below.setCell ?_ ?_ _) | go_size | (with_reducible refine sizeOf' ?_) | (with_reducible refine sizeAdd ?_) | (dsimp only; first | (with_reducible refine sizeOf' ?_) | (with_reducible refine sizeAdd ?_))))
      · have := hb2.size; simp at this; omega
      · intro hL
        obtain ⟨b, off, e, h1, h2, h3⟩ := hA hL
        exact ⟨b, off, e, by simp at h1; omega, h2, h3⟩
      · exact cellThru hb2 (by simp) (by simp [go_sem])
      · exact cellThru hb2 (by simp) (by simp [go_sem])
      · exact frozThru hb2 (by simp) (by simp [go_sem])
      · exact frozThru hb2 (by simp) (by simp [go_sem])
    clear hA hb2
    obtain ⟨B2, z2, own2, ⟨v0, p0⟩, ⟨v1, p1⟩, f0, f1⟩ := S2
    rcases h3 with rfl | rfl
    · go_wp2
      refine bodyPost_ret (v := .tuple #[.agg #[.slice none 0 0, .slice none 0 0], .int .i64 2]) (by simp [results, Try.results41, go_sem, p0, p1]) rfl ⟨none, 0, none, 0, rfl, own_nil, tabOwn_nil, ?_⟩
      (repeat' (first | (with_reducible exact Below.refl _ _) | (with_reducible assumption) | (with_reducible refine belowNext ?_ (by with_reducible assumption)) | (with_reducible refine belowAlloc ?_ _) | (with_reducible refine Below.drew ?_) | (with_reducible refine below_drewN ?_ _) | (with_reducible refine Below.setCell ?_ ?_ _) | go_size | (with_reducible refine sizeOf' ?_) | (with_reducible refine sizeAdd ?_) | (dsimp only; first | (with_reducible refine sizeOf' ?_) | (with_reducible refine sizeAdd ?_))))
    · have h7 : 7 < m := by omega
      have d7 : decide ((m : Int) > 7) = true := decide_eq_true (by omega)
      have d7' : decide ((7 : Int) < (m : Int)) = true := decide_eq_true (by omega)
      clear h1
      go_wp2
      refine bodyPost_ret (v := .tuple #[.agg #[.slice none 0 0, .slice none 0 0], .int .i64 2]) (by simp [results, Try.results41, go_sem, p0, p1]) rfl ⟨none, 0, none, 0, rfl, own_nil, tabOwn_nil, ?_⟩
      (repeat' (first | (with_reducible exact Below.refl _ _) | (with_reducible assumption) | (with_reducible refine belowNext ?_ (by with_reducible assumption)) | (with_reducible refine belowAlloc ?_ _) | (with_reducible refine Below.drew ?_) | (with_reducible refine below_drewN ?_ _) | (with_reducible refine Below.setCell ?_ ?_ _) | go_size | (with_reducible refine sizeOf' ?_) | (with_reducible refine sizeAdd ?_) | (dsimp only; first | (with_reducible refine sizeOf' ?_) | (with_reducible refine sizeAdd ?_))))
  · obtain ⟨m, hm⟩ : ∃ m, L.length = m := ⟨_, rfl⟩
    rw [hm] at h2
    have HLm := Lib.hid hm
    have hC3 : decide (C = 3) = false := decide_eq_false h1
    have hC3' : (C == 3) = false := beq_eq_false_iff_ne.2 h1
    have d7 : decide ((m : Int) > 7) = false := decide_eq_false (by omega)
    have d7' : decide ((7 : Int) < (m : Int)) = false := decide_eq_false (by omega)
    have HC3 := Lib.hid h1
    clear hm h1
    go_enter Try.func41, Try.ntmps41
    go_wp2_with fail
    refine (HO.out _).mono ?_
    rintro e w2 ⟨A, cap, rfl, hA, hb2⟩
    rw [HLm.out]
    have S2 : PtS w A L w2 := by
      refine ⟨?_, ?_, ?_, ⟨.slice none 0 0, ?_⟩, ⟨.slice none 0 0, ?_⟩, ?_, ?_⟩
      · (repeat' (first | (with_reducible exact Below.refl _ _) | (with_reducible assumption) | (with_reducible refine belowNext ?_ (by with_reducible assumption)) | (with_reducible refine belowAlloc ?_ _) | (with_reducible refine Below.drew ?_) | (with_reducible refine below_drewN ?_ _) | (with_reducible refine Below.setCell ?_ ?_ _) | go_size | (with_reducible refine sizeOf' ?_) | (with_reducible refine sizeAdd ?_) | (dsimp only; first | (with_reducible refine sizeOf' ?_) | (with_reducible refine sizeAdd ?_))))
      · have := hb2.size; simp at this; omega
      · intro hL
        obtain ⟨b, off, e, h1, h2, h3⟩ := hA hL
        exact ⟨b, off, e, by simp at h1; omega, h2, h3⟩
      · exact cellThru hb2 (by simp) (by simp [go_sem])
      · exact cellThru hb2 (by simp) (by simp [go_sem])
      · exact frozThru hb2 (by simp) (by simp [go_sem])
      · exact frozThru hb2 (by simp) (by simp [go_sem])
    have HS := Lib.hid S2
    clear hA hb2 S2
    go_wp2
    go_loopg [6, 7, 8, 24] m (fun g s6 _ _ ix wr => ∃ (k c : Nat) (B : Option Addr) (q : Nat), k + g = m ∧ ix = .int .i64 k ∧ s6 = .slice B q c ∧ Hid ((prK m k).length * 2 = q) ∧ Hid (wr.ownsRow w2.heap.size 2 1 (.slice B q c) q (flatA (prK m k))) ∧ Below w2.heap.size w2 wr)
    case atStart => exact ⟨0, 0, none, 0, by omega, rfl, rfl, Lib.hid rfl, Lib.hid ownNone8, Below.refl _ _⟩
    case round =>
      obtain ⟨k, c, B, q, hkg, rfl, rfl, HQ, HN, HB⟩ := hrel
      cases gk with
      | zero =>
        obtain rfl : k = m := by omega
        have hb21 := prL_len h2
        obtain ⟨N, hN⟩ : ∃ N, (prL k).length = N := ⟨_, rfl⟩
        have hq : q = N * 2 := by rw [← hN]; exact HQ.out.symm
        obtain ⟨B', c', hv, hqc, hg⟩ := ownForm8 HN.out
        obtain ⟨rfl, rfl⟩ : B = B' ∧ c = c' := by injection hv with a _ b; exact ⟨a, b⟩
        obtain ⟨b, hb⟩ : ∃ b, 0 < N → B = some ⟨b, 0, none⟩ ∧ w2.heap.size ≤ b ∧ b < wr.heap.size := by
          rcases Nat.eq_zero_or_pos N with h0 | h0
          · exact ⟨0, fun h => absurd h (by omega)⟩
          · obtain ⟨b, e⟩ := hg (by omega)
            exact ⟨b, fun _ => e⟩
        have HR := Lib.hid (implRows B q c 2 N b 0 wr hq hqc (fun h0 => ⟨(hb h0).1, by omega⟩) (by omega) (by omega) (by omega))
        have HB0 := Lib.hid hb
        have HNn := Lib.hid hN
        have HQq := Lib.hid hq
        have HNN : Hid (0 < N → wr.ownsRow w2.heap.size 2 1 (.slice (some ⟨b, 0, none⟩) (N * 2) c) (N * 2) (flatA (prL k))) := Lib.hid (fun h0 => by
          have := HN.out
          rw [(hb h0).1, hq] at this
          exact this)
        clear hkg hN hq hqc hg hb hv hb21 HN
        go_wp2_with fail
        refine HR.out.mono ?_
        rintro e w3 ⟨A2, cap2, rfl, H3, hb3⟩
        have S3 := (HS.out.on HB).on hb3
        have HT : Hid (TabOwn w3 w2.heap.size A2 N (fun _ => 2) (pF (prL k))) := Lib.hid (by
          have h := H3.out
          rw [← HNn.out] at h ⊢
          exact pairs_tab (b := b) (cn := c) (fun h0 => ownNext8 (by have := HNN.out (by rw [← HNn.out]; exact h0); rw [← HNn.out] at this; exact this) hb3) h HB.size (fun h0 => (HB0.out (by rw [← HNn.out]; exact h0)).2.2))
        obtain ⟨B2, z2, own2, ⟨v0, p0⟩, ⟨v1, p1⟩, f0, f1⟩ := id S3
        have S2z := HS.out.z
        clear HB H3 hb3 HS
        go_wp2
        refine bodyPost_ret (v := .tuple #[.agg #[.slice A k cap, .slice A2 N cap2], .int .i64 C]) (by simp [results, Try.results41, go_sem, p0, p1]) rfl ⟨A, cap, A2, cap2, by rw [HLm.out, HNn.out], ?_, ?_, ?_⟩
        · exact ((own2.setLow (by show w.heap.size + 1 < w.heap.size + 2; omega)).setLow (by show w.heap.size + 1 < w.heap.size + 2; omega)).low8 (by omega)
        · rw [HLm.out]
          have h := HT.out
          rw [← HNn.out] at h
          exact ((h.setLow (by show w.heap.size + 1 < w2.heap.size; omega)).setLow (by show w.heap.size + 1 < w2.heap.size; omega)).low (by omega)
        · (repeat' (first | (with_reducible exact Below.refl _ _) | (with_reducible assumption) | (with_reducible refine belowNext ?_ (by with_reducible assumption)) | (with_reducible refine belowAlloc ?_ _) | (with_reducible refine Below.drew ?_) | (with_reducible refine below_drewN ?_ _) | (with_reducible refine Below.setCell ?_ ?_ _) | go_size | (with_reducible refine sizeOf' ?_) | (with_reducible refine sizeAdd ?_) | (dsimp only; first | (with_reducible refine sizeOf' ?_) | (with_reducible refine sizeAdd ?_))))
      | succ g =>
        have hkm : k < m := by omega
        have HKG := Lib.hid hkg
        obtain ⟨P, hP⟩ : ∃ P : Nat, k + 1 = P := ⟨_, rfl⟩
        have hs1 : IntKind.i64.wrap ((k : Int) + 1) = (P : Int) := (IntWalk.i64_in _ (by omega)).trans (by omega)
        have HP := Lib.hid hP
        clear hkg hP
        go_wp2
        go_loopg [6, 8] (m - (k + 1)) (fun g s6 s8 wx => ∃ (j J c : Nat) (B : Option Addr) (q : Nat), j + g = m - (k + 1) ∧ Hid (J = k + 1 + j) ∧ s8 = .int .i64 (J : Int) ∧ s6 = .slice B q c ∧ Hid ((prK m k ++ innP k j).length * 2 = q) ∧ Hid (wx.ownsRow w2.heap.size 2 1 (.slice B q c) q (flatA (prK m k ++ innP k j))) ∧ Below w2.heap.size w2 wx)
        case atStart => exact ⟨0, P, c, B, q, by omega, Lib.hid HP.out.symm, rfl, rfl, by rw [innP_zero, List.append_nil]; exact HQ, by rw [innP_zero, List.append_nil]; exact HN, HB⟩
        case round =>
          clear HQ HN HB
          obtain ⟨j, J, c, B, q, hjg, HJ, rfl, rfl, HQ, HN, HB⟩ := hrel
          have hJ := HJ.out
          cases gk with
          | zero =>
            have d1 : decide ((J : Int) < (m : Int)) = false := decide_eq_false (by omega)
            have d1n : decide (J < m) = false := decide_eq_false (by omega)
            have e : prK m k ++ innP k j = prK m (k + 1) := by rw [show j = m - (k + 1) by omega]; rfl
            rw [e] at HQ HN
            clear e hJ hjg
            go_wp2
            go_roundg g
            case measure => omega
            case rel => exact ⟨k + 1, c, B, q, by have := HKG.out; omega, by have := HP.out; go_num, rfl, HQ, HN, HB⟩
          | succ g2 =>
            have d1 : decide ((J : Int) < (m : Int)) = true := decide_eq_true (by omega)
            have d1n : decide (J < m) = true := decide_eq_true (by omega)
            have hs2 : IntKind.i64.wrap ((J : Int) + 1) = (J : Int) + 1 := IntWalk.i64_in _ (by omega)
            have hbd := prK_bound h2 hkm (q := j) (by omega)
            rw [show (prK m k ++ innP k j).length ≤ 100 ↔ q ≤ 200 by rw [← HQ.out]; omega] at hbd
            have HE : Hid (flatA (prK m k ++ innP k j) ++ [.int .i64 (P : Int), .int .i64 ((J : Int) + 1)] = flatA (prK m k ++ innP k (j + 1))) := Lib.hid (by
              have e1 : (P : Int) = (k : Int) + 1 := by have := HP.out; omega
              have e2 : (J : Int) + 1 = (k : Int) + 2 + (j : Int) := by omega
              rw [innP_succ, e1, e2]
              simp only [flatA_app, List.append_assoc]
              rfl)
            have HQ2 : Hid ((prK m k ++ innP k (j + 1)).length * 2 = q + 2) := Lib.hid (by
              have := HQ.out
              simp only [List.length_append, innP_len] at this ⊢
              omega)
            have HJG := Lib.hid hjg
            have hi := HI.out
            have hz0 := HZ0.out
            have hown := HN.out
            have hzS := HB.size
            clear hJ hjg HQ HN
            go_wp2_with (at_builtin; refine wpList_append_own_at _ rfl _ _ 32 rfl w2.heap.size 2 i0 (.int .i64 0) 1 8 Try.underlying32 hi hz0 hz1 hz2 rfl (by decide) (.slice B q c) q (flatA (prK m k ++ innP k j)) rfl (World.ownsRow.alloc hown _) ⟨wr.heap.size, 0, none⟩ 2 2 [.int .i64 (P : Int), .int .i64 ((J : Int) + 1)] rfl rfl ?c1 ?c2 ?c3 ?c4 ?c5 ?_)
            case c1 => exact cell_two_new8 _ _ _ _
            case c2 => intro u hu; simp at hu; rcases hu with rfl | rfl <;> rfl
            case c3 => unfold maxLen; omega
            case c4 => omega
            case c5 => first | omega | (simp; omega)
            intro v' w1 hown' hgrow _ _
            rw [HE.out] at hown'
            have HB1 : Below w2.heap.size w2 w1 := below_grown8 (show Below w2.heap.size w2 (wr.alloc _) from belowAlloc HB _) hgrow (fun j e => ownBlock8 hown j e) (by simp; omega)
            obtain ⟨B', c', rfl, _⟩ := ownForm8 hown'
            have HO' := Lib.hid hown'
            clear hown hown' hgrow HB hzS HE hi hz0
            go_wp2
            go_roundg g2
            case measure => omega
            case rel => exact ⟨j + 1, J + 1, c', B', q + 2, by have := HJG.out; omega, Lib.hid (by have := HJ.out; omega), by go_num, rfl, HQ2, HO', HB1⟩

/-- A row of rows, owned: row i lies at (bb i, oo i). -/
structure RowsAt (W : World) (lo : Nat) (v : Value) (n : Nat) (ln : Nat → Nat) (f : Tab) (bb oo : Nat → Nat) : Prop where
  own : ∃ xs, W.ownsRow lo 32 1 v n xs ∧ ∀ i, i < n → ∃ A cap, xs[i]? = some (.slice A (ln i) cap) ∧ (0 < ln i → A = some ⟨bb i, oo i, none⟩)
  row : ∀ i, i < n → 0 < ln i → lo ≤ bb i ∧ bb i < W.heap.size ∧ some (bb i) ≠ v.ownBlock
  cell : ∀ i j, i < n → j < ln i → W.cell? ⟨bb i, oo i + j, none⟩ = some (.int .i64 (f i j)) ∧ W.frozen? ⟨bb i, oo i + j, none⟩ = false
  apart : ∀ i k j m, i < n → k < n → i ≠ k → j < ln i → m < ln k → bb i = bb k → oo i + j ≠ oo k + m
theorem rowsAt_nil {W : World} {lo : Nat} {ln : Nat → Nat} {f : Tab} {bb oo : Nat → Nat} : RowsAt W lo (.slice none 0 0) 0 ln f bb oo :=
  ⟨⟨[], ownNone8, fun i hi => absurd hi (by omega)⟩, fun i hi => absurd hi (by omega), fun i j hi => absurd hi (by omega), fun i k j m hi => absurd hi (by omega)⟩
theorem RowsAt.next {W W' : World} {lo : Nat} {v : Value} {n : Nat} {ln : Nat → Nat} {f : Tab} {bb oo : Nat → Nat} (h : RowsAt W lo v n ln f bb oo) (hb : Below W.heap.size W W') : RowsAt W' lo v n ln f bb oo := by
  obtain ⟨xs, h1, h2⟩ := h.own
  refine ⟨⟨xs, ownNext8 h1 hb, h2⟩, fun i hi h0 => ?_, fun i j hi hj => ?_, h.apart⟩
  · obtain ⟨a, b, c⟩ := h.row i hi h0
    exact ⟨a, Nat.lt_of_lt_of_le b hb.size, c⟩
  · obtain ⟨a, b⟩ := h.cell i j hi hj
    have h3 := (h.row i hi (by omega)).2.1
    exact ⟨(hb.cell (p := ⟨bb i, _, none⟩) h3).trans a, (hb.frozen (p := ⟨bb i, _, none⟩) h3).trans b⟩
theorem RowsAt.congr {W : World} {lo : Nat} {v : Value} {n : Nat} {ln ln' : Nat → Nat} {f f' : Tab} {bb oo : Nat → Nat} (h : RowsAt W lo v n ln f bb oo) (e : ∀ i, i < n → ln i = ln' i) (e2 : ∀ i j, i < n → j < ln i → f i j = f' i j) : RowsAt W lo v n ln' f' bb oo := by
  obtain ⟨xs, h1, h2⟩ := h.own
  refine ⟨⟨xs, h1, fun i hi => by rw [← e i hi]; exact h2 i hi⟩, fun i hi h0 => h.row i hi (by rw [e i hi]; exact h0), fun i j hi hj => ?_, fun i k j m hi hk hne hj hm => h.apart i k j m hi hk hne (by rw [e i hi]; exact hj) (by rw [e k hk]; exact hm)⟩
  rw [← e i hi] at hj
  rw [← e2 i j hi hj]; exact h.cell i j hi hj
theorem RowsAt.tab {W : World} {lo : Nat} {A : Option Addr} {n c : Nat} {ln : Nat → Nat} {f : Tab} {bb oo : Nat → Nat} (h : RowsAt W lo (.slice A n c) n ln f bb oo) : TabOwn W lo A n ln f := by
  intro hn
  obtain ⟨xs, h1, h2⟩ := h.own
  obtain ⟨g, c', hv, hg1, hg2⟩ := h1.form hn
  obtain ⟨rfl, rfl⟩ : A = some ⟨g, 0, none⟩ ∧ c = c' := by injection hv with hA _ hc; exact ⟨hA, hc⟩
  refine ⟨g, 0, bb, oo, rfl, hg1, hg2, fun i hi => ?_, fun i hi h0 => ?_, h.cell, h.apart⟩
  · obtain ⟨Ai, ci, e1, e2⟩ := h2 i hi
    refine ⟨Ai, ci, ?_, e2⟩
    rw [Nat.zero_add]
    exact (h1.cellAt i (by omega)).trans e1
  · obtain ⟨a, b, c⟩ := h.row i hi h0
    exact ⟨a, b, fun e => c (by rw [e]; rfl)⟩
/-- One more row behind the others. -/
theorem RowsAt.push {W W2 : World} {lo : Nat} {v v' : Value} {n : Nat} {ln : Nat → Nat} {f : Tab} {bb oo : Nat → Nat} (h : RowsAt W lo v n ln f bb oo) {xs : List Value} (hx : ∀ i, i < n → ∃ A cap, xs[i]? = some (.slice A (ln i) cap) ∧ (0 < ln i → A = some ⟨bb i, oo i, none⟩)) (hl : xs.length = n)
    {A : Option Addr} {m cap b o : Nat} {r : Nat → Int} (hA : 0 < m → A = some ⟨b, o, none⟩ ∧ lo ≤ b ∧ b < W.heap.size ∧ some b ≠ v.ownBlock ∧ ∀ j, j < m → W.cell? ⟨b, o + j, none⟩ = some (.int .i64 (r j)) ∧ W.frozen? ⟨b, o + j, none⟩ = false)
    (hap : ∀ i j k, i < n → j < ln i → k < m → bb i = b → oo i + j ≠ o + k)
    (hown : W2.ownsRow lo 32 1 v' (n + 1) (xs ++ [.slice A m cap])) (hg : W.grownBy W2 v.ownBlock) (hv : v'.ownBlock = v.ownBlock ∨ ∃ b, v'.ownBlock = some b ∧ W.heap.size ≤ b) :
    RowsAt W2 lo v' (n + 1) (fun i => if i = n then m else ln i) (fun i => if i = n then r else f i) (fun i => if i = n then b else bb i) (fun i => if i = n then o else oo i) := by
  have ne : ∀ c, c < W.heap.size → some c ≠ v.ownBlock → some c ≠ v'.ownBlock := by
    intro c hc h1 h2
    rcases hv with e | ⟨b', e, hb'⟩
    · rw [e] at h2; exact h1 h2
    · rw [e] at h2; have := Option.some.inj h2; omega
  refine ⟨⟨_, hown, fun i hi => ?_⟩, fun i hi h0 => ?_, fun i j hi hj => ?_, fun i k j m' hi hk hne hj hm he => ?_⟩
  · by_cases e : i = n
    · subst e
      simp only [if_pos]
      exact ⟨A, cap, by rw [List.getElem?_append_right (by omega), hl, Nat.sub_self]; rfl, fun h0 => (hA h0).1⟩
    · simp only [if_neg e]
      obtain ⟨B, c, h1, h2⟩ := hx i (by omega)
      exact ⟨B, c, by rw [List.getElem?_append_left (by omega)]; exact h1, h2⟩
  · by_cases e : i = n
    · subst e
      simp only [if_pos] at h0 ⊢
      obtain ⟨_, h1, h2, h3, _⟩ := hA h0
      exact ⟨h1, Nat.lt_of_lt_of_le h2 hg.size, ne _ h2 h3⟩
    · simp only [if_neg e] at h0 ⊢
      obtain ⟨h1, h2, h3⟩ := h.row i (by omega) h0
      exact ⟨h1, Nat.lt_of_lt_of_le h2 hg.size, ne _ h2 h3⟩
  · by_cases e : i = n
    · subst e
      simp only [if_pos] at hj ⊢
      obtain ⟨_, h1, h2, h3, h4⟩ := hA (by omega)
      obtain ⟨a1, a2⟩ := h4 j hj
      have hbk := hg.block b h2 h3
      exact ⟨(World.cell?_of_block (a := ⟨b, o + j, none⟩) hbk).trans a1, (World.frozen?_of_block (a := ⟨b, o + j, none⟩) hbk).trans a2⟩
    · simp only [if_neg e] at hj ⊢
      obtain ⟨h1, h2, h3⟩ := h.row i (by omega) (by omega)
      obtain ⟨a1, a2⟩ := h.cell i j (by omega) hj
      have hbk := hg.block (bb i) h2 h3
      exact ⟨(World.cell?_of_block (a := ⟨bb i, oo i + j, none⟩) hbk).trans a1, (World.frozen?_of_block (a := ⟨bb i, oo i + j, none⟩) hbk).trans a2⟩
  · by_cases e : i = n
    · subst e
      have e2 : k ≠ i := fun x => hne x.symm
      simp only [if_pos, if_neg e2] at hj hm he ⊢
      exact fun x => hap k m' j (by omega) hm hj he.symm x.symm
    · by_cases e2 : k = n
      · subst e2
        simp only [if_pos, if_neg e] at hj hm he ⊢
        exact hap i j m' (by omega) hj hm he
      · simp only [if_neg e, if_neg e2] at hj hm he ⊢
        exact h.apart i k j m' (by omega) (by omega) hne hj hm he

set_option maxRecDepth 8000 in
set_option maxHeartbeats 2000000 in
theorem specOrb8 (n d : Int) (w : World) : Calls Try.prog 39 #[ang n d] w (ResAng w (o8 n d) (c8 n d)) := by
  have HS := Lib.hid (fun w => specIs1 n d w)
  rcases o8_cases n d with ⟨_, _, e1, e2, h1⟩ | ⟨a, _, e1, e2, h1⟩ | ⟨a, b, e1, e2, h1⟩ | ⟨a, b, _, e1, e2, h1⟩
  · rw [e1, e2]
    rw [h1] at HS
    clear e1 e2 h1
    go_enter Try.func39, Try.ntmps39
    go_wp2_with fail
    refine (HS.out _).mono ?_
    rintro e w1 ⟨rfl, hb1⟩
    go_wp2
    go_ret2
    refine ⟨none, 0, rfl, own_nil, ?_⟩
    (repeat' (first | (with_reducible exact Below.refl _ _) | (with_reducible assumption) | (with_reducible refine belowNext ?_ (by with_reducible assumption)) | (with_reducible refine belowAlloc ?_ _) | (with_reducible refine Below.drew ?_) | (with_reducible refine below_drewN ?_ _) | (with_reducible refine Below.setCell ?_ ?_ _) | go_size | (with_reducible refine sizeOf' ?_) | (with_reducible refine sizeAdd ?_) | (dsimp only; first | (with_reducible refine sizeOf' ?_) | (with_reducible refine sizeAdd ?_))))
  · have HO := Lib.hid (fun w => specOrbit n d w (ang_red h1))
    rw [e1, e2]
    rw [h1] at HS
    have hf : findOrb (n, d) 65 0 = none := by
      cases hf : findOrb (n, d) 65 0 with
      | none => rfl
      | some k => unfold oC at a; simp [h1, hf] at a
    have HO2 : Hid (∀ w : World, Calls Try.prog 67 #[ang n d] w fun e w' => e = .returned (.tuple #[.slice none 0 0, .int .i64 0, .bool false]) ∧ Below w.heap.size w w') := Lib.hid (fun w => (HO.out w).mono fun e w' h => by unfold ResOrb at h; rw [hf] at h; exact h)
    clear e1 e2 h1 hf HO a
    go_enter Try.func39, Try.ntmps39
    go_wp2_with fail
    refine (HS.out _).mono ?_
    rintro e w1 ⟨rfl, hb1⟩
    obtain ⟨hc1, hf1⟩ := bcell hb1
    go_wp2_with fail
    refine (HO2.out _).mono ?_
    rintro e w2 ⟨rfl, hb2⟩
    go_wp2
    go_ret2
    refine ⟨none, 0, rfl, own_nil, ?_⟩
    (repeat' (first | (with_reducible exact Below.refl _ _) | (with_reducible assumption) | (with_reducible refine belowNext ?_ (by with_reducible assumption)) | (with_reducible refine belowAlloc ?_ _) | (with_reducible refine Below.drew ?_) | (with_reducible refine below_drewN ?_ _) | (with_reducible refine Below.setCell ?_ ?_ _) | go_size | (with_reducible refine sizeOf' ?_) | (with_reducible refine sizeAdd ?_) | (dsimp only; first | (with_reducible refine sizeOf' ?_) | (with_reducible refine sizeAdd ?_))))
  all_goals
    have HO := Lib.hid (fun w => specOrbit n d w (ang_red h1))
    obtain ⟨k, hf⟩ : ∃ k, findOrb (n, d) 65 0 = some k := by
      cases hf : findOrb (n, d) 65 0 with
      | none => unfold oC at a; simp [h1, hf] at a
      | some k => exact ⟨k, rfl⟩
    have e3 : oL n d = orbList (n, d) k := by unfold oL; simp [h1, hf]
    rw [e1, e2]
    rw [h1] at HS
    have HO2 : Hid (∀ w : World, Calls Try.prog 67 #[ang n d] w fun e w' => ∃ A cap, e = .returned (.tuple #[.slice A k cap, .int .i64 (pre (n, d) : Int), .bool true]) ∧ w'.ownsRow w.heap.size 27 2 (.slice A k cap) k (flat (n, d) k) ∧ Below w.heap.size w w') := Lib.hid (fun w => (HO.out w).mono fun e w' h => by unfold ResOrb at h; rw [hf] at h; exact h)
    rw [e3] at b
    try rw [e3]
    rw [orbList_len] at b
    clear e1 e2 h1 hf HO a e3
  · have d7 : decide ((k : Int) > 7) = true := decide_eq_true (by omega)
    have d7' : decide ((7 : Int) < (k : Int)) = true := decide_eq_true (by omega)
    have d7n : decide (7 < k) = true := decide_eq_true (by omega)
    go_enter Try.func39, Try.ntmps39
    go_wp2_with fail
    refine (HS.out _).mono ?_
    rintro e w1 ⟨rfl, hb1⟩
    obtain ⟨hc1, hf1⟩ := bcell hb1
    go_wp2_with fail
    refine (HO2.out _).mono ?_
    rintro e w2 ⟨A, cap, rfl, hown, hb2⟩
    go_wp2
    go_ret2
    refine ⟨none, 0, rfl, own_nil, ?_⟩
    (repeat' (first | (with_reducible exact Below.refl _ _) | (with_reducible assumption) | (with_reducible refine belowNext ?_ (by with_reducible assumption)) | (with_reducible refine belowAlloc ?_ _) | (with_reducible refine Below.drew ?_) | (with_reducible refine below_drewN ?_ _) | (with_reducible refine Below.setCell ?_ ?_ _) | go_size | (with_reducible refine sizeOf' ?_) | (with_reducible refine sizeAdd ?_) | (dsimp only; first | (with_reducible refine sizeOf' ?_) | (with_reducible refine sizeAdd ?_))))
  · have d7 : decide ((k : Int) > 7) = false := decide_eq_false (by omega)
    have d7' : decide ((7 : Int) < (k : Int)) = false := decide_eq_false (by omega)
    have d7n : decide (7 < k) = false := decide_eq_false (by omega)
    go_enter Try.func39, Try.ntmps39
    go_wp2_with fail
    refine (HS.out _).mono ?_
    rintro e w1 ⟨rfl, hb1⟩
    obtain ⟨hc1, hf1⟩ := bcell hb1
    go_wp2_with fail
    refine (HO2.out _).mono ?_
    rintro e w2 ⟨A, cap, rfl, hown, hb2⟩
    have B1 : Below w.heap.size w w1 := by
      (repeat' (first | (with_reducible exact Below.refl _ _) | (with_reducible assumption) | (with_reducible refine belowNext ?_ (by with_reducible assumption)) | (with_reducible refine belowAlloc ?_ _) | (with_reducible refine Below.drew ?_) | (with_reducible refine below_drewN ?_ _) | (with_reducible refine Below.setCell ?_ ?_ _) | go_size | (with_reducible refine sizeOf' ?_) | (with_reducible refine sizeAdd ?_) | (dsimp only; first | (with_reducible refine sizeOf' ?_) | (with_reducible refine sizeAdd ?_))))
    have HW := Lib.hid (own_of_row hown)
    clear hown
    go_wp2
    go_ret2
    exact ⟨A, cap, by rw [orbList_len]; rfl, HW.out.low8 B1.size, belowNext B1 hb2⟩

theorem rowsAt_lit {W : World} {lo : Nat} (hl : lo ≤ W.heap.size) {ln : Nat → Nat} {f : Tab} {bb oo : Nat → Nat} : RowsAt (W.alloc (.cells #[] 32)) lo (.slice (some ⟨W.heap.size, 0, none⟩) 0 0) 0 ln f bb oo :=
  ⟨⟨[], World.ownsRow_lit W #[] 0 hl (by decide) rfl, fun i hi => absurd hi (by omega)⟩, fun i hi => absurd hi (by omega), fun i j hi => absurd hi (by omega), fun i k j m hi => absurd hi (by omega)⟩
theorem pF_old {l : List (Int × Int)} {p : Int × Int} {i j : Nat} (h : i < l.length) : pF l i j = pF (l ++ [p]) i j := by
  unfold pF
  rw [List.getD_eq_getElem?_getD, List.getD_eq_getElem?_getD, List.getElem?_append_left h]
theorem pF_new {l : List (Int × Int)} {p : Int × Int} {j : Nat} : pF (l ++ [p]) l.length j = if j = 0 then p.1 else p.2 := by
  unfold pF
  rw [List.getD_eq_getElem?_getD, List.getElem?_append_right (Nat.le_refl _), Nat.sub_self]; rfl

set_option maxRecDepth 8000 in
set_option maxHeartbeats 4000000 in
theorem specPairs8 (m : Nat) (hm : m ≤ 7) (w : World) : Calls Try.prog 40 #[.int .i64 m] w fun e w' => ∃ A cap, e = .returned (.slice A (prL m).length cap) ∧ Hid (TabOwn w' w.heap.size A (prL m).length (fun _ => 2) (pF (prL m))) ∧ Below w.heap.size w w' := by
  obtain ⟨i0, hi, hz0, hz1, hz2⟩ := infoS8_parts
  have HI := Lib.hid hi
  have HZ0 := Lib.hid hz0
  clear hi hz0
  go_enter Try.func40, Try.ntmps40
  go_wp2
  go_loopg [3, 4, 5] m (fun g s3 s4 _ wr => ∃ (k P N : Nat) (v : Value), k + g = m ∧ Hid (P = k + 1) ∧ s4 = .int .i64 (P : Int) ∧ s3 = v ∧ Hid ((prK m k).length = N) ∧ Hid (∃ bb oo, RowsAt wr w.heap.size v N (fun _ => 2) (pF (prK m k)) bb oo) ∧ Below w.heap.size w wr)
  case atStart => exact ⟨0, 1, 0, _, by omega, Lib.hid rfl, rfl, rfl, Lib.hid rfl, Lib.hid ⟨fun _ => 0, fun _ => 0, rowsAt_lit (Nat.le_refl _)⟩, belowAlloc (Below.refl _ _) _⟩
  case round =>
    obtain ⟨k, P, N, v, hkg, HP, rfl, ev, HN, HR, HB⟩ := hrel
    have ev := ev.symm
    subst ev
    have hP := HP.out
    cases gk with
    | zero =>
      obtain rfl : k = m := by omega
      have d1 : decide ((P : Int) ≤ (k : Int)) = false := decide_eq_false (by omega)
      have d1n : decide (P ≤ k) = false := decide_eq_false (by omega)
      obtain ⟨bb, oo, hR⟩ := HR.out
      obtain ⟨xs, ho, hx⟩ := hR.own
      obtain ⟨A, c, rfl, _⟩ := ownForm8 ho
      have HT : Hid (TabOwn wr w.heap.size A (prL k).length (fun _ => 2) (pF (prL k))) := Lib.hid (by
        have := hR.tab
        rw [← HN.out] at this
        exact this)
      have HN2 : Hid (N = (prL k).length) := Lib.hid HN.out.symm
      clear hkg hP hR ho hx HR HN
      go_wp2
      go_ret
      exact ⟨A, c, by rw [HN2.out]; rfl, HT, HB⟩
    | succ g =>
      have hkm : k < m := by omega
      have HKG := Lib.hid hkg
      have d1 : decide ((P : Int) ≤ (m : Int)) = true := decide_eq_true (by omega)
      have d1n : decide (P ≤ m) = true := decide_eq_true (by omega)
      have hs1 : IntKind.i64.wrap ((P : Int) + 1) = (P : Int) + 1 := IntWalk.i64_in _ (by omega)
      clear hkg hP
      go_wp2
      go_loopg [3, 5] (m - (k + 1)) (fun g s3 s5 wx => ∃ (j J N : Nat) (v : Value), j + g = m - (k + 1) ∧ Hid (J = k + 2 + j) ∧ s5 = .int .i64 (J : Int) ∧ s3 = v ∧ Hid ((prK m k ++ innP k j).length = N) ∧ Hid (∃ bb oo, RowsAt wx w.heap.size v N (fun _ => 2) (pF (prK m k ++ innP k j)) bb oo) ∧ Below w.heap.size w wx)
      case atStart => exact ⟨0, P + 1, N, _, by omega, Lib.hid (by have := HP.out; omega), by go_num, rfl, by rw [innP_zero, List.append_nil]; exact HN, by rw [innP_zero, List.append_nil]; exact HR, HB⟩
      case round =>
        clear HN HR HB
        obtain ⟨j, J, N, v, hjg, HJ, rfl, ev, HN, HR, HB⟩ := hrel
        have ev := ev.symm
        subst ev
        have hJ := HJ.out
        cases gk with
        | zero =>
          have d2 : decide ((J : Int) ≤ (m : Int)) = false := decide_eq_false (by omega)
          have d2n : decide (J ≤ m) = false := decide_eq_false (by omega)
          have e : prK m k ++ innP k j = prK m (k + 1) := by rw [show j = m - (k + 1) by omega]; rfl
          rw [e] at HN HR
          clear e hJ hjg
          go_wp2
          go_roundg g
          case measure => omega
          case rel => exact ⟨k + 1, P + 1, N, _, by have := HKG.out; omega, Lib.hid (by have := HP.out; omega), by go_num, rfl, HN, HR, HB⟩
        | succ g2 =>
          have d2 : decide ((J : Int) ≤ (m : Int)) = true := decide_eq_true (by omega)
          have d2n : decide (J ≤ m) = true := decide_eq_true (by omega)
          have hs2 : IntKind.i64.wrap ((J : Int) + 1) = (J : Int) + 1 := IntWalk.i64_in _ (by omega)
          have hbd := prK_bound hm hkm (q := j) (by omega)
          rw [HN.out] at hbd
          obtain ⟨bb, oo, hR⟩ := HR.out
          obtain ⟨xs, hown, hx⟩ := hR.own
          have HRR := Lib.hid (And.intro hR hx)
          have HJG := Lib.hid hjg
          have hi := HI.out
          have hz0 := HZ0.out
          have hzS := HB.size
          have HX := Lib.hid hown.1
          clear hJ hjg hR hx HR
          go_wp2_with (at_builtin; refine wpList_append_own_at _ rfl _ _ 24 rfl w.heap.size 32 i0 (.slice none 0 0) 1 24 Try.underlying24 hi hz0 hz1 hz2 rfl (by decide) v N xs rfl (World.ownsRow.alloc (World.ownsRow.alloc hown _) _) ⟨wr.heap.size + 1, 0, none⟩ 1 1 [.slice (some ⟨wr.heap.size, 0, none⟩) 2 2] rfl rfl ?c1 ?c2 ?c3 ?c4 ?c5 ?_)
          case c2 => first | rfl | (intro u hu; simp at hu; subst hu; rfl)
          case c3 => unfold maxLen; omega
          case c4 => omega
          case c5 => first | omega | (simp; omega)
          intro v' w1 hown' hgrow _ hat
          have HE : Hid (∃ bb oo, RowsAt w1 w.heap.size v' (N + 1) (fun _ => 2) (pF (prK m k ++ innP k (j + 1))) bb oo) := Lib.hid (by
            have hb : Below wr.heap.size wr ((wr.alloc (.cells #[.int .i64 (P : Int), .int .i64 (J : Int)] 2)).alloc (.cells #[.slice (some ⟨wr.heap.size, 0, none⟩) 2 2] 32)) := belowAlloc (belowAlloc (Below.refl _ _) _) _
            have e1 : (P : Int) = (k : Int) + 1 := by have := HP.out; omega
            have e2 : (J : Int) = (k : Int) + 2 + (j : Int) := by have := HJ.out; omega
            have hlt : ∀ i, i < N → bb i < wr.heap.size := fun i hi => (HRR.out.1.row i hi (by omega)).2.1
            have hob : some wr.heap.size ≠ v.ownBlock := fun e => by have := (World.ownsRow.lt hown _ e.symm).2; omega
            have h := RowsAt.push (W := (wr.alloc (.cells #[.int .i64 (P : Int), .int .i64 (J : Int)] 2)).alloc (.cells #[.slice (some ⟨wr.heap.size, 0, none⟩) 2 2] 32)) (b := wr.heap.size) (o := 0) (m := 2) (r := fun j' => if j' = 0 then (P : Int) else (J : Int)) (HRR.out.1.next hb) (xs := xs) HRR.out.2 (by have := HX.out; omega) (A := some ⟨wr.heap.size, 0, none⟩) (cap := 2)
              (fun _ => ⟨rfl, hzS, by simp; omega, hob, fun j' hj' => by
                match j', hj' with
                | 0, _ => exact ⟨by simp [go_sem], by simp [go_sem]⟩
                | 1, _ => exact ⟨by simp [go_sem], by simp [go_sem]⟩⟩) (fun i j' k' hi _ _ he => by have := hlt i hi; omega) hown' hgrow (by
                rcases hat with e | e
                · exact .inl e
                · exact .inr ⟨_, e, by simp⟩)
            refine ⟨_, _, h.congr (fun i hi => by by_cases e : i = N <;> simp [e]) (fun i j' hi hj' => ?_)⟩
            rw [innP_succ, ← List.append_assoc, ← e1, ← e2]
            by_cases e : i = N
            · subst e
              rw [if_pos rfl, ← HN.out, pF_new]
            · rw [if_neg e]
              exact pF_old (by rw [HN.out]; omega))
          have HN2 : Hid ((prK m k ++ innP k (j + 1)).length = N + 1) := Lib.hid (by
            have := HN.out
            simp only [List.length_append, innP_len] at this ⊢
            omega)
          have HB1 : Below w.heap.size w w1 := below_grown8 (show Below w.heap.size w ((wr.alloc _).alloc _) from belowAlloc (belowAlloc HB _) _) hgrow (fun j e => ownBlock8 hown j e) (by simp; omega)
          clear hown hown' hgrow HB hzS hi hz0 HRR HX hat HN
          go_wp2
          go_roundg g2
          case measure => omega
          case rel => exact ⟨j + 1, J + 1, N + 1, v', by have := HJG.out; omega, Lib.hid (by have := HJ.out; omega), by go_num, rfl, HN2, HE, HB1⟩
end Go.Proofs.Ytjomgbjiognmmaa

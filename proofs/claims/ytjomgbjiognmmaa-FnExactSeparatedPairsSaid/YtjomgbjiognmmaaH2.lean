/-
  Lists of lists of integers as results: compared, marked, looked at again.
-/
import Derived.Test.YtjomgbjiognmmaaWO
import Derived.Test.YtjomgbjiognmmaaH1
import Derived.Deep.LoopGhost
namespace Go.Proofs.Ytjomgbjiognmmaa
open Go.RowKit

/-- A slice with the address A holds n numbers, in a block below B. -/
def RowRd (w : World) (B : Nat) (A : Option Addr) (n : Nat) (f : Nat → Int) : Prop :=
  0 < n → ∃ b off, A = some ⟨b, off, none⟩ ∧ b < B ∧ ∀ j, j < n → w.cell? ⟨b, off + j, none⟩ = some (.int .i64 (f j))
theorem RowRd.below {w w' : World} {B : Nat} {A : Option Addr} {n : Nat} {f : Nat → Int} (h : RowRd w B A n f) (hb : Below B w w') : RowRd w' B A n f := by
  intro hl
  obtain ⟨b, off, e, hB, hc⟩ := h hl
  exact ⟨b, off, e, hB, fun j hj => (hb.cell (p := ⟨b, off + j, none⟩) hB).trans (hc j hj)⟩
theorem RowRd.more {w : World} {B B' : Nat} {A : Option Addr} {n : Nat} {f : Nat → Int} (h : RowRd w B A n f) (hB : B ≤ B') : RowRd w B' A n f := by
  intro hl
  obtain ⟨b, off, e, hb, hc⟩ := h hl
  exact ⟨b, off, e, Nat.lt_of_lt_of_le hb hB, hc⟩
theorem RowRd.next {w w' : World} {A : Option Addr} {n : Nat} {f : Nat → Int} (h : RowRd w w.heap.size A n f) (hb : Below w.heap.size w w') : RowRd w' w'.heap.size A n f := (h.below hb).more hb.size
theorem RowRd.congr {w : World} {B : Nat} {A : Option Addr} {n : Nat} {f g : Nat → Int} (h : RowRd w B A n f) (e : ∀ j, j < n → f j = g j) : RowRd w B A n g := by
  intro hl
  obtain ⟨b, off, e1, hb, hc⟩ := h hl
  exact ⟨b, off, e1, hb, fun j hj => by rw [← e j hj]; exact hc j hj⟩
def rngL (n : Nat) (f : Nat → Int) : List Int := (List.range n).map f
theorem rngL_len (n : Nat) (f : Nat → Int) : (rngL n f).length = n := by simp [rngL]
theorem rngL_at {n : Nat} {f : Nat → Int} {i : Nat} {x : Int} (h : (rngL n f)[i]? = some x) : i < n ∧ f i = x := by
  have hi : i < n := by
    rcases Nat.lt_or_ge i n with h1 | h1
    · exact h1
    · rw [List.getElem?_eq_none (by rw [rngL_len]; exact h1)] at h; cases h
  unfold rngL at h
  rw [List.getElem?_map, List.getElem?_range hi] at h
  injection h with h
  exact ⟨hi, h⟩
theorem rngL_get {n : Nat} {f : Nat → Int} {i : Nat} (h : i < n) : (rngL n f)[i]? = some (f i) := by
  unfold rngL
  rw [List.getElem?_map, List.getElem?_range h]; rfl
theorem RowRd.int {w : World} {B : Nat} {A : Option Addr} {n : Nat} {f : Nat → Int} (h : RowRd w B A n f) : IntRow w B A (rngL n f) := by
  intro hl
  have hn : 0 < n := by
    rcases Nat.eq_zero_or_pos n with h0 | h0
    · subst h0; exact absurd rfl hl
    · exact h0
  obtain ⟨b, off, e, hb, hc⟩ := h hn
  refine ⟨b, off, e, hb, fun i x hi => ?_⟩
  obtain ⟨a, rfl⟩ := rngL_at hi
  exact hc i a

/-- A slice with the address A holds n rows, in blocks below B. -/
def TabRd (w : World) (B : Nat) (A : Option Addr) (n : Nat) (ln : Nat → Nat) (f : Tab) : Prop :=
  0 < n → ∃ g off, A = some ⟨g, off, none⟩ ∧ g < B ∧ ∀ i, i < n → ∃ Ai ci, w.cell? ⟨g, off + i, none⟩ = some (.slice Ai (ln i) ci) ∧ RowRd w B Ai (ln i) (f i)
theorem TabRd.below {w w' : World} {B : Nat} {A : Option Addr} {n : Nat} {ln : Nat → Nat} {f : Tab} (h : TabRd w B A n ln f) (hb : Below B w w') : TabRd w' B A n ln f := by
  intro hl
  obtain ⟨b, off, e, hB, hc⟩ := h hl
  refine ⟨b, off, e, hB, fun i hi => ?_⟩
  obtain ⟨Ai, ci, h1, h2⟩ := hc i hi
  exact ⟨Ai, ci, (hb.cell (p := ⟨b, off + i, none⟩) hB).trans h1, h2.below hb⟩
theorem TabRd.more {w : World} {B B' : Nat} {A : Option Addr} {n : Nat} {ln : Nat → Nat} {f : Tab} (h : TabRd w B A n ln f) (hB : B ≤ B') : TabRd w B' A n ln f := by
  intro hl
  obtain ⟨b, off, e, hb, hc⟩ := h hl
  refine ⟨b, off, e, Nat.lt_of_lt_of_le hb hB, fun i hi => ?_⟩
  obtain ⟨Ai, ci, h1, h2⟩ := hc i hi
  exact ⟨Ai, ci, h1, h2.more hB⟩
theorem TabRd.next {w w' : World} {A : Option Addr} {n : Nat} {ln : Nat → Nat} {f : Tab} (h : TabRd w w.heap.size A n ln f) (hb : Below w.heap.size w w') : TabRd w' w'.heap.size A n ln f := (h.below hb).more hb.size
theorem TabRd.congr {w : World} {B : Nat} {A : Option Addr} {n : Nat} {ln : Nat → Nat} {f g : Tab} (h : TabRd w B A n ln f) (e : ∀ i j, i < n → j < ln i → f i j = g i j) : TabRd w B A n ln g := by
  intro hl
  obtain ⟨b, off, e1, hb, hc⟩ := h hl
  refine ⟨b, off, e1, hb, fun i hi => ?_⟩
  obtain ⟨Ai, ci, h1, h2⟩ := hc i hi
  exact ⟨Ai, ci, h1, h2.congr fun j hj => e i j hi hj⟩
theorem tabRd_nil {w : World} {B : Nat} {A : Option Addr} {ln : Nat → Nat} {f : Tab} : TabRd w B A 0 ln f := fun h => absurd h (by omega)

/-- Rows that a call owns: no two of them share a number. -/
structure TabAt (w : World) (lo g off : Nat) (bb oo : Nat → Nat) (n : Nat) (ln : Nat → Nat) (f : Tab) : Prop where
  glo : lo ≤ g
  gz : g < w.heap.size
  head : ∀ i, i < n → ∃ Ai ci, w.cell? ⟨g, off + i, none⟩ = some (.slice Ai (ln i) ci) ∧ (0 < ln i → Ai = some ⟨bb i, oo i, none⟩)
  row : ∀ i, i < n → 0 < ln i → lo ≤ bb i ∧ bb i < w.heap.size ∧ bb i ≠ g
  cell : ∀ i j, i < n → j < ln i → w.cell? ⟨bb i, oo i + j, none⟩ = some (.int .i64 (f i j)) ∧ w.frozen? ⟨bb i, oo i + j, none⟩ = false
  apart : ∀ i k j m, i < n → k < n → i ≠ k → j < ln i → m < ln k → bb i = bb k → oo i + j ≠ oo k + m
def TabOwn (w : World) (lo : Nat) (A : Option Addr) (n : Nat) (ln : Nat → Nat) (f : Tab) : Prop :=
  0 < n → ∃ g off bb oo, A = some ⟨g, off, none⟩ ∧ TabAt w lo g off bb oo n ln f
theorem tabOwn_nil {w : World} {lo : Nat} {A : Option Addr} {ln : Nat → Nat} {f : Tab} : TabOwn w lo A 0 ln f := fun h => absurd h (by omega)
theorem TabAt.next {w w' : World} {lo g off : Nat} {bb oo : Nat → Nat} {n : Nat} {ln : Nat → Nat} {f : Tab} (h : TabAt w lo g off bb oo n ln f) (hb : Below w.heap.size w w') : TabAt w' lo g off bb oo n ln f := by
  have hs := hb.size
  refine ⟨h.glo, Nat.lt_of_lt_of_le h.gz hs, fun i hi => ?_, fun i hi h0 => ?_, fun i j hi hj => ?_, h.apart⟩
  · obtain ⟨Ai, ci, h1, h2⟩ := h.head i hi
    exact ⟨Ai, ci, (hb.cell (p := ⟨g, off + i, none⟩) h.gz).trans h1, h2⟩
  · obtain ⟨h1, h2, h3⟩ := h.row i hi h0
    exact ⟨h1, Nat.lt_of_lt_of_le h2 hs, h3⟩
  · obtain ⟨h1, h2⟩ := h.cell i j hi hj
    have h3 := (h.row i hi (by omega)).2.1
    exact ⟨(hb.cell (p := ⟨bb i, _, none⟩) h3).trans h1, (hb.frozen (p := ⟨bb i, _, none⟩) h3).trans h2⟩
theorem TabAt.congr {w : World} {lo g off : Nat} {bb oo : Nat → Nat} {n : Nat} {ln : Nat → Nat} {f f' : Tab} (h : TabAt w lo g off bb oo n ln f) (e : ∀ i j, i < n → j < ln i → f i j = f' i j) : TabAt w lo g off bb oo n ln f' :=
  ⟨h.glo, h.gz, h.head, h.row, fun i j hi hj => by rw [← e i j hi hj]; exact h.cell i j hi hj, h.apart⟩
theorem TabAt.rd {w : World} {lo g off : Nat} {bb oo : Nat → Nat} {n : Nat} {ln : Nat → Nat} {f : Tab} (h : TabAt w lo g off bb oo n ln f) : TabRd w w.heap.size (some ⟨g, off, none⟩) n ln f := by
  intro _
  refine ⟨g, off, rfl, h.gz, fun i hi => ?_⟩
  obtain ⟨Ai, ci, h1, h2⟩ := h.head i hi
  exact ⟨Ai, ci, h1, fun h0 => ⟨bb i, oo i, h2 h0, (h.row i hi h0).2.1, fun j hj => (h.cell i j hi hj).1⟩⟩
theorem TabOwn.next {w w' : World} {lo : Nat} {A : Option Addr} {n : Nat} {ln : Nat → Nat} {f : Tab} (h : TabOwn w lo A n ln f) (hb : Below w.heap.size w w') : TabOwn w' lo A n ln f := by
  intro hn
  obtain ⟨g, off, bb, oo, e, h1⟩ := h hn
  exact ⟨g, off, bb, oo, e, h1.next hb⟩
theorem TabOwn.rd {w : World} {lo : Nat} {A : Option Addr} {n : Nat} {ln : Nat → Nat} {f : Tab} (h : TabOwn w lo A n ln f) : TabRd w w.heap.size A n ln f := by
  intro hn
  obtain ⟨g, off, bb, oo, rfl, h1⟩ := h hn
  exact h1.rd hn
theorem TabOwn.congr {w : World} {lo : Nat} {A : Option Addr} {n : Nat} {ln : Nat → Nat} {f f' : Tab} (h : TabOwn w lo A n ln f) (e : ∀ i j, i < n → j < ln i → f i j = f' i j) : TabOwn w lo A n ln f' := by
  intro hn
  obtain ⟨g, off, bb, oo, e1, h1⟩ := h hn
  exact ⟨g, off, bb, oo, e1, h1.congr e⟩
theorem TabOwn.low {w : World} {lo lo' : Nat} {A : Option Addr} {n : Nat} {ln : Nat → Nat} {f : Tab} (h : TabOwn w lo A n ln f) (hl : lo' ≤ lo) : TabOwn w lo' A n ln f := by
  intro hn
  obtain ⟨g, off, bb, oo, e, h1⟩ := h hn
  exact ⟨g, off, bb, oo, e, Nat.le_trans hl h1.glo, h1.gz, h1.head, fun i hi h0 => ⟨Nat.le_trans hl (h1.row i hi h0).1, (h1.row i hi h0).2⟩, h1.cell, h1.apart⟩

/-- Worlds that differ in n cells of a block. -/
structure RowTurn (w w' : World) (b o n : Nat) : Prop where
  size : w'.heap.size = w.heap.size
  cell : ∀ p : Addr, ¬ (p.block = b ∧ o ≤ p.off ∧ p.off < o + n) → w'.cell? p = w.cell? p
  frz : ∀ p : Addr, w'.frozen? p = w.frozen? p
theorem RowTurn.refl (w : World) (b o : Nat) : RowTurn w w b o 0 := ⟨rfl, fun _ _ => rfl, fun _ => rfl⟩
theorem RowTurn.set {w w' : World} {b o n : Nat} (h : RowTurn w w' b o n) (v : Value) : RowTurn w (w'.setCell ⟨b, o + n, none⟩ v) b o (n + 1) := by
  refine ⟨by simpa using h.size, fun p hp => ?_, fun p => by simpa using h.frz p⟩
  rw [World.cell?_setCell_other _ _ _ _ (by intro e; subst e; exact hp ⟨rfl, by simp, by simp <;> omega⟩)]
  exact h.cell p fun ⟨a, b, c⟩ => hp ⟨a, b, by omega⟩

theorem TabAt.turn {w w' : World} {lo g off : Nat} {bb oo : Nat → Nat} {n : Nat} {ln : Nat → Nat} {f : Tab} (h : TabAt w lo g off bb oo n ln f) {k : Nat} (hk : k < n) (h0 : 0 < ln k)
    (ht : RowTurn w w' (bb k) (oo k) (ln k)) {v : Nat → Int} (hv : ∀ j, j < ln k → w'.cell? ⟨bb k, oo k + j, none⟩ = some (.int .i64 (v j))) : TabAt w' lo g off bb oo n ln (fun i j => if i = k then v j else f i j) := by
  refine ⟨h.glo, by rw [ht.size]; exact h.gz, fun i hi => ?_, fun i hi h0 => by rw [ht.size]; exact h.row i hi h0, fun i j hi hj => ?_, h.apart⟩
  · obtain ⟨Ai, ci, h1, h2⟩ := h.head i hi
    exact ⟨Ai, ci, (ht.cell ⟨g, off + i, none⟩ fun ⟨a, _, _⟩ => (h.row k hk h0).2.2 a.symm).trans h1, h2⟩
  · obtain ⟨h1, h2⟩ := h.cell i j hi hj
    refine ⟨?_, (ht.frz _).trans h2⟩
    by_cases e : i = k
    · subst e; rw [if_pos rfl]; exact hv j hj
    · rw [if_neg e]
      refine (ht.cell ⟨bb i, oo i + j, none⟩ fun ⟨a, b, c⟩ => ?_).trans h1
      simp only at a b c
      exact h.apart i k j (oo i + j - oo k) hi hk e hj (by omega) a (by omega)

/-- How many numbers the first rows have. -/
def totN (ln : Nat → Nat) : Nat → Nat
  | 0 => 0
  | k + 1 => totN ln k + ln k
theorem totN_le (ln : Nat → Nat) {k : Nat} : ∀ {n : Nat}, k ≤ n → totN ln k ≤ totN ln n
  | 0, h => by obtain rfl : k = 0 := by omega
               exact Nat.le_refl _
  | n + 1, h => by
    by_cases e : k = n + 1
    · subst e; exact Nat.le_refl _
    · have := totN_le ln (k := k) (n := n) (by omega); simp only [totN]; omega
theorem totN_row (ln : Nat → Nat) {k n : Nat} (h : k < n) : totN ln k + ln k ≤ totN ln n := totN_le ln (k := k + 1) h
def mkN (ln : Nat → Nat) : Tab := fun i j => 1 + (totN ln i : Int) + (j : Int)
theorem totN_const (c : Nat) : ∀ n, totN (fun _ => c) n = n * c
  | 0 => by simp [totN]
  | n + 1 => by simp only [totN]; rw [totN_const c n, Nat.succ_mul]

set_option maxHeartbeats 1000000 in
theorem markRow (A : Option Addr) (b o len cap : Nat) (f : Nat → Int) (lo : Nat) (k0 : Int) (w : World)
    (hr : 0 < len → A = some ⟨b, o, none⟩ ∧ lo ≤ b ∧ b < w.heap.size ∧ ∀ j, j < len → w.cell? ⟨b, o + j, none⟩ = some (.int .i64 (f j)) ∧ w.frozen? ⟨b, o + j, none⟩ = false)
    (hk0 : 0 ≤ k0) (hk1 : k0 ≤ 1000000000) (hm : len ≤ 1000000000000) :
    Calls Try.prog 27 #[.slice A len cap, .int .i64 k0] w fun e w' => e = .returned (.int .i64 (k0 + (len : Int))) ∧ Hid (Below lo w w' ∧ RowTurn w w' b o len ∧ ∀ j, j < len → w'.cell? ⟨b, o + j, none⟩ = some (.int .i64 (k0 + (j : Int)))) := by
  have HR := Lib.hid hr
  clear hr
  go_enter Try.func27, Try.ntmps27
  go_wp2
  go_loopw [1, 5] (fun q i wr => ∃ k : Nat, k ≤ len ∧ i = .int .i64 k ∧ q = .int .i64 (k0 + (k : Int)) ∧ Hid (Below lo w wr ∧ RowTurn w wr b o k ∧ ∀ j, j < k → wr.cell? ⟨b, o + j, none⟩ = some (.int .i64 (k0 + (j : Int))))) (fun _ i _ => len - (intOf i).toNat)
  case atStart => exact ⟨0, by omega, rfl, by simp, Lib.hid ⟨Below.refl _ _, RowTurn.refl _ _ _, fun j hj => absurd hj (by omega)⟩⟩
  case round =>
    obtain ⟨k, hk, rfl, rfl, H⟩ := hrel
    by_cases hlt : k < len
    · obtain ⟨rfl, hlo, hbb, hcells⟩ := HR.out (by omega)
      have x0 : wr.cell? ⟨b, o + k, none⟩ = some (.int .i64 (f k)) := (H.out.2.1.cell ⟨b, o + k, none⟩ (by rintro ⟨_, _, h⟩; simp at h)).trans (hcells k hlt).1
      have x2 : wr.frozen? ⟨b, o + k, none⟩ = false := (H.out.2.1.frz _).trans (hcells k hlt).2
      clear hcells
      go_wp2
      go_roundw
      case rel =>
        refine ⟨k + 1, by omega, by go_num, by go_num, Lib.hid ⟨H.out.1.setCell hlo _, H.out.2.1.set _, fun j hj => ?_⟩⟩
        by_cases e : j = k
        · subst e; exact World.cell?_setCell_same _ _ _ x0
        · exact (World.cell?_setCell_other _ _ _ _ (by intro e; injection e; omega)).trans (H.out.2.2 j (by omega))
      case measure => simp [intOf]; omega
    · obtain rfl : k = len := by omega
      go_wp2
      go_ret
      exact ⟨rfl, H⟩

set_option maxHeartbeats 1000000 in
theorem markTab (A : Option Addr) (n cap : Nat) (ln : Nat → Nat) (f : Tab) (lo : Nat) (w : World) (hr : TabOwn w lo A n ln f) (hm : n ≤ 1000000) (ht : totN ln n ≤ 1000000) :
    Calls Try.prog 16 #[.slice A n cap, .int .i64 1] w fun e w' => e = .returned (.int .i64 (1 + (totN ln n : Int))) ∧ Hid (TabOwn w' lo A n ln (mkN ln) ∧ Below lo w w') := by
  rcases Nat.eq_zero_or_pos n with h0 | h0
  · subst h0
    clear hr
    go_enter Try.func16, Try.ntmps16
    go_wp2
    go_loopw [1, 5] (fun q i wr => i = .int .i64 0 ∧ q = .int .i64 1 ∧ wr = w) (fun _ i _ => 0)
    case atStart => exact ⟨rfl, rfl, rfl⟩
    case round =>
      obtain ⟨rfl, rfl, rfl⟩ := hrel
      go_wp2
      go_ret
      exact ⟨by simp [totN], Lib.hid ⟨tabOwn_nil, Below.refl _ _⟩⟩
  · obtain ⟨g, off, bb, oo, rfl, hT⟩ := hr h0
    have HT := Lib.hid hT
    have HM := Lib.hid ht
    clear hT hr ht
    go_enter Try.func16, Try.ntmps16
    go_wp2
    go_loopg [1, 5] n (fun gk s1 ix wr => ∃ k : Nat, k + gk = n ∧ ix = .int .i64 k ∧ s1 = .int .i64 (1 + (totN ln k : Int)) ∧ Hid (TabAt wr lo g off bb oo n ln (fun i j => if i < k then mkN ln i j else f i j) ∧ Below lo w wr))
    case atStart => exact ⟨0, by omega, rfl, by simp [totN], Lib.hid ⟨HT.out.congr fun i j _ _ => by rw [if_neg (by omega)], Below.refl _ _⟩⟩
    case round =>
      obtain ⟨k, hkg, rfl, rfl, H⟩ := hrel
      cases gk with
      | zero =>
        obtain rfl : k = n := by omega
        clear hkg
        have HQ : Hid (TabOwn wr lo (some ⟨g, off, none⟩) k ln (mkN ln) ∧ Below lo w wr) := Lib.hid ⟨fun _ => ⟨g, off, bb, oo, rfl, H.out.1.congr fun i j hi _ => by rw [if_pos hi]⟩, H.out.2⟩
        clear H
        go_wp2
        go_ret
        exact ⟨rfl, HQ⟩
      | succ gk =>
        have hkn : k < n := by omega
        obtain ⟨Ai, ci, x0, hA⟩ := H.out.1.head k hkn
        have htk := Nat.le_trans (totN_row ln hkn) HM.out
        have HMk := Lib.hid (markRow Ai (bb k) (oo k) (ln k) ci (f k) lo (1 + (totN ln k : Int)) wr
          (fun h0 => ⟨hA h0, (H.out.1.row k hkn h0).1, (H.out.1.row k hkn h0).2.1, fun j hj => by have := H.out.1.cell k j hkn hj; rwa [if_neg (Nat.lt_irrefl k)] at this⟩) (by omega) (by omega) (by omega))
        obtain ⟨len, hlen⟩ : ∃ len, ln k = len := ⟨_, rfl⟩
        have HLn := Lib.hid hlen
        rw [hlen] at x0 HMk htk
        obtain ⟨T, hT⟩ : ∃ T, totN ln k = T := ⟨_, rfl⟩
        have HTk := Lib.hid hT
        rw [hT] at HMk htk ⊢
        have HKG := Lib.hid hkg
        clear hA hlen hT hkg
        go_wp2_with fail
        refine HMk.out.mono ?_
        rintro e w3 ⟨rfl, H3⟩
        have H4 : Hid (TabAt w3 lo g off bb oo n ln (fun i j => if i < k + 1 then mkN ln i j else f i j) ∧ Below lo w w3) := by
          refine Lib.hid ⟨?_, H.out.2.trans H3.out.1⟩
          rcases Nat.eq_zero_or_pos len with hz | hz
          · have e := H3.out.2.1
            rw [hz] at e
            refine TabAt.congr (f := fun i j => if i < k then mkN ln i j else f i j) ⟨H.out.1.glo, by rw [e.size]; exact H.out.1.gz, fun i hi => ?_, fun i hi h0 => by rw [e.size]; exact H.out.1.row i hi h0, fun i j hi hj => ?_, H.out.1.apart⟩ fun i j hi hj => ?_
            · obtain ⟨Ai, ci, h1, h2⟩ := H.out.1.head i hi
              exact ⟨Ai, ci, (e.cell _ (by omega)).trans h1, h2⟩
            · obtain ⟨h1, h2⟩ := H.out.1.cell i j hi hj
              exact ⟨(e.cell _ (by omega)).trans h1, (e.frz _).trans h2⟩
            · by_cases e : i = k
              · subst e; have := HLn.out; omega
              · by_cases e2 : i < k
                · rw [if_pos e2, if_pos (by omega)]
                · rw [if_neg e2, if_neg (by omega)]
          · have hl := HLn.out
            refine (H.out.1.turn (v := fun j => 1 + (T : Int) + (j : Int)) hkn (by omega) (by rw [hl]; exact H3.out.2.1) (by rw [hl]; exact H3.out.2.2)).congr fun i j hi hj => ?_
            by_cases e : i = k
            · subst e; rw [if_pos rfl, if_pos (by omega)]; unfold mkN; rw [HTk.out]
            · rw [if_neg e]
              by_cases e2 : i < k
              · rw [if_pos e2, if_pos (by omega)]
              · rw [if_neg e2, if_neg (by omega)]
        have HE : Hid ((1 : Int) + (T : Int) + (len : Int) = 1 + (totN ln (k + 1) : Int)) := Lib.hid (by simp only [totN]; rw [HTk.out, HLn.out]; omega)
        clear H H3 x0 HMk
        go_wp2
        go_roundg gk
        case measure => omega
        case rel => exact ⟨k + 1, by have := HKG.out; omega, by go_num, by rw [HE.out], H4⟩

set_option maxHeartbeats 1000000 in
theorem heldTab (A : Option Addr) (n cap : Nat) (ln : Nat → Nat) (w : World) (hr : TabRd w w.heap.size A n ln (mkN ln)) (hm : n ≤ 1000000) (ht : totN ln n ≤ 1000000) :
    Calls Try.prog 17 #[.slice A n cap, .int .i64 1] w fun e w' => e = .returned (.int .i64 (1 + (totN ln n : Int))) ∧ w = w' := by
  have HR := Lib.hid hr
  have HM := Lib.hid ht
  clear hr ht
  go_enter Try.func17, Try.ntmps17
  go_wp2
  go_loopg [1, 5] n (fun gk s1 ix wr => ∃ k : Nat, k + gk = n ∧ ix = .int .i64 k ∧ s1 = .int .i64 (1 + (totN ln k : Int)) ∧ w = wr)
  case atStart => exact ⟨0, by omega, rfl, by simp [totN], rfl⟩
  case round =>
    obtain ⟨k, hkg, rfl, rfl, rfl⟩ := hrel
    cases gk with
    | zero =>
      obtain rfl : k = n := by omega
      clear hkg
      go_wp2
      go_ret
      exact ⟨rfl, rfl⟩
    | succ gk =>
      have hkn : k < n := by omega
      obtain ⟨g, off, rfl, hg, hc⟩ := HR.out (by omega)
      obtain ⟨Ai, ci, x0, hrow⟩ := hc k hkn
      have htk := Nat.le_trans (totN_row ln hkn) HM.out
      have HMk := Lib.hid (heldInt Ai (ln k) ci (1 + (totN ln k : Int)) w hrow.int (by omega) (by omega) (by omega))
      obtain ⟨len, hlen⟩ : ∃ len, ln k = len := ⟨_, rfl⟩
      have HLn := Lib.hid hlen
      rw [hlen] at x0 HMk htk
      obtain ⟨T, hT⟩ : ∃ T, totN ln k = T := ⟨_, rfl⟩
      have HTk := Lib.hid hT
      rw [hT] at HMk htk ⊢
      have HKG := Lib.hid hkg
      have nn : (1 + (T : Int) + (len : Int) < 0) = False := by simp; omega
      clear hc hrow hlen hT hkg
      go_wp2_with fail
      refine HMk.out.mono ?_
      rintro e w3 ⟨rfl, rfl⟩
      have HE : Hid ((1 : Int) + (T : Int) + (len : Int) = 1 + (totN ln (k + 1) : Int)) := Lib.hid (by simp only [totN]; rw [HTk.out, HLn.out]; omega)
      clear x0 HMk
      go_wp2
      go_roundg gk
      case measure => omega
      case rel => exact ⟨k + 1, by have := HKG.out; omega, by go_num, by rw [HE.out], rfl⟩

/-- A list of lists of integers in new memory, and a code. -/
def ResTab (w : World) (n : Nat) (ln : Nat → Nat) (f : Tab) (c : Int) (e : Ending) (w' : World) : Prop :=
  ∃ A cap, e = .returned (.tuple #[.slice A n cap, .int .i64 c]) ∧ TabOwn w' w.heap.size A n ln f ∧ Below w.heap.size w w'
/-- The same, told only to be read. -/
def ResTabR (w : World) (n : Nat) (ln : Nat → Nat) (f : Tab) (c : Int) (e : Ending) (w' : World) : Prop :=
  ∃ A cap, e = .returned (.tuple #[.slice A n cap, .int .i64 c]) ∧ TabRd w' w'.heap.size A n ln f ∧ Below w.heap.size w w'

/-- Cells that a region reads. -/
structure H4 (w : World) (p1 p2 p3 p4 : Addr) (v1 v2 v3 v4 : Value) (W : World) : Prop where
  B : Below w.heap.size w W
  z1 : p1.block < W.heap.size
  z2 : p2.block < W.heap.size
  z3 : p3.block < W.heap.size
  z4 : p4.block < W.heap.size
  x1 : W.cell? p1 = some v1
  x2 : W.cell? p2 = some v2
  x3 : W.cell? p3 = some v3
  x4 : W.cell? p4 = some v4
theorem H4.on {w W W1 : World} {p1 p2 p3 p4 : Addr} {v1 v2 v3 v4 : Value} (H : H4 w p1 p2 p3 p4 v1 v2 v3 v4 W) (hb : Below W.heap.size W W1) : H4 w p1 p2 p3 p4 v1 v2 v3 v4 W1 := by
  have hs := hb.size
  have := H.z1; have := H.z2; have := H.z3; have := H.z4
  exact ⟨belowNext H.B hb, by omega, by omega, by omega, by omega, (hb.cell H.z1).trans H.x1, (hb.cell H.z2).trans H.x2, (hb.cell H.z3).trans H.x3, (hb.cell H.z4).trans H.x4⟩
theorem belowDrewH {W w1 : World} (h : Hid (∃ k, w1 = W.drewN k)) : Below W.heap.size W w1 := by
  obtain ⟨k, rfl⟩ := h.out
  exact below_drewN (Below.refl _ _) k

set_option maxRecDepth 8000 in
set_option maxHeartbeats 2000000 in
theorem eqTab (A : Option Addr) (n cap : Nat) (A' : Option Addr) (cap' : Nat) (ln : Nat → Nat) (f : Tab) (w : World) (hr : TabRd w w.heap.size A n ln f) (hr' : TabRd w w.heap.size A' n ln f) (hm : n ≤ 1000000) (ht : totN ln n ≤ 1000000) :
    Calls Try.prog 15 #[.slice A n cap, .slice A' n cap'] w fun e w' => e = .returned (.bool true) ∧ Below w.heap.size w w' := by
  have HR := Lib.hid hr
  have HR' := Lib.hid hr'
  have HM := Lib.hid ht
  clear hr hr' ht
  go_enter Try.func15, Try.ntmps15
  go_wp2
  go_loopg [5] n (fun g ix wr => ∃ k : Nat, k + g = n ∧ ix = .int .i64 k ∧ Hid (Below w.heap.size w wr))
  case atStart => exact ⟨0, by omega, rfl, Lib.hid (Below.refl _ _)⟩
  case round =>
    obtain ⟨k, hkg, rfl, HB⟩ := hrel
    cases gk with
    | zero =>
      obtain rfl : k = n := by omega
      clear hkg
      go_wp2
      go_ret
      exact ⟨rfl, HB.out⟩
    | succ g =>
      have hkn : k < n := by omega
      obtain ⟨b, off, rfl, hbb, hc⟩ := HR.out (by omega)
      obtain ⟨b', off', rfl, hbb', hc'⟩ := HR'.out (by omega)
      obtain ⟨Ai, ci, x0, hrow⟩ := hc k hkn
      obtain ⟨Aj, cj, y0, hrow'⟩ := hc' k hkn
      have htk := Nat.le_trans (totN_row ln hkn) HM.out
      have HE := Lib.hid (fun W (hB : Below w.heap.size w W) => eqIntS Ai Aj (ln k) ci cj (rngL (ln k) (f k)) W ((hrow.below hB).more hB.size).int ((hrow'.below hB).more hB.size).int (rngL_len _ _) (by omega))
      obtain ⟨len, hlen⟩ : ∃ len, ln k = len := ⟨_, rfl⟩
      rw [hlen] at x0 y0 HE
      have hbw : b < wr.heap.size := Nat.lt_of_lt_of_le hbb HB.out.size
      have hbw' : b' < wr.heap.size := Nat.lt_of_lt_of_le hbb' HB.out.size
      have S0 : H4 w ⟨b, off + k, none⟩ ⟨b', off' + k, none⟩ ⟨b', off' + k, none⟩ ⟨b', off' + k, none⟩ _ _ _ _ wr := ⟨HB.out, hbw, hbw', hbw', hbw', cellThru HB.out hbb x0, cellThru HB.out hbb' y0, cellThru HB.out hbb' y0, cellThru HB.out hbb' y0⟩
      have HKG := Lib.hid hkg
      clear hc hc' hrow hrow' hlen htk hkg x0 y0
      go_wp2_with fail
      refine wp_region_held_drew (S := (H4 w ⟨b, off + k, none⟩ ⟨b', off' + k, none⟩ ⟨b', off' + k, none⟩ ⟨b', off' + k, none⟩ (.slice Ai len ci) (.slice Aj len cj) (.slice Aj len cj) (.slice Aj len cj))) (by kernel_rfl) ?_ (fun hHeld => ?_)
      · exact S0.on (Below.refl _ _).drew
      refine wpAnyH_take (i := 0) (v := ?_) rfl (by kernel_rfl) (by kernel_rfl) (by kernel_rfl) (fun _ _ _ h => h) (Or.inl ⟨by kernel_rfl, ?_⟩) hHeld ?_
      rotate_left
      · intro w hSw; obtain ⟨B, z1, z2, z3, z4, x1, x2, x3, x4⟩ := hSw; first | (go_simp; done) | (go_simp; with_reducible rfl)
      refine wpAnyH_take (i := 1) (v := ?_) rfl (by kernel_rfl) (by kernel_rfl) (by kernel_rfl) (fun _ _ _ h => h) (Or.inl ⟨by kernel_rfl, ?_⟩) hHeld ?_
      rotate_left
      · intro w hSw; obtain ⟨B, z1, z2, z3, z4, x1, x2, x3, x4⟩ := hSw; first | (go_simp; done) | (go_simp; with_reducible rfl)
      refine wpAnyH_take (i := 2) (v := ?_) rfl (by kernel_rfl) (by kernel_rfl) (by kernel_rfl) (fun _ _ _ h => h) (Or.inl ⟨by kernel_rfl, ?_⟩) hHeld ?_
      rotate_left
      · intro w hSw; obtain ⟨B, z1, z2, z3, z4, x1, x2, x3, x4⟩ := hSw; first | (go_simp; done) | (go_simp; with_reducible rfl)
      refine wpAnyH_take (i := 3) (v := ?_) rfl (by kernel_rfl) (by kernel_rfl) (by kernel_rfl) (fun _ _ _ h => h) (Or.inl ⟨by kernel_rfl, ?_⟩) hHeld ?_
      rotate_left
      · intro w hSw; obtain ⟨B, z1, z2, z3, z4, x1, x2, x3, x4⟩ := hSw; first | (go_simp; done) | (go_simp; with_reducible rfl)
      refine wpAnyH_take (i := 4) (v := ?_) rfl (by kernel_rfl) (by kernel_rfl) (by kernel_rfl) (fun _ _ _ h => h) (Or.inl ⟨by kernel_rfl, ?_⟩) hHeld ?_
      rotate_left
      · intro w hSw; obtain ⟨B, z1, z2, z3, z4, x1, x2, x3, x4⟩ := hSw; first | (go_simp; done) | (go_simp; with_reducible rfl)
      refine wpAnyH_take (i := 5) (v := ?_) rfl (by kernel_rfl) (by kernel_rfl) (by kernel_rfl) (fun _ _ _ h => h) (Or.inl ⟨by kernel_rfl, ?_⟩) hHeld ?_
      rotate_left
      · intro w hSw; obtain ⟨B, z1, z2, z3, z4, x1, x2, x3, x4⟩ := hSw; first | (go_simp; done) | (go_simp; with_reducible rfl)
      refine wpAnyH_take (i := 6) (v := ?_) rfl (by kernel_rfl) (by kernel_rfl) (by kernel_rfl) (fun _ _ _ h => h) (Or.inl ⟨by kernel_rfl, ?_⟩) hHeld ?_
      rotate_left
      · intro w hSw; obtain ⟨B, z1, z2, z3, z4, x1, x2, x3, x4⟩ := hSw; first | (go_simp; done) | (go_simp; with_reducible rfl)
      refine wpAnyH_take (i := 7) (v := ?_) rfl (by kernel_rfl) (by kernel_rfl) (by kernel_rfl) (fun _ _ _ h => h) (Or.inl ⟨by kernel_rfl, ?_⟩) hHeld ?_
      rotate_left
      · intro w hSw; obtain ⟨B, z1, z2, z3, z4, x1, x2, x3, x4⟩ := hSw; first | (go_simp; done) | (go_simp; with_reducible rfl)
      refine wpAnyH_ready (rs := [8]) (by kernel_rfl) (by simp) ?_
      refine AllReadyH.cons rfl (fun K hK => ?_) AllReadyH.nil
      go_simp
      go_wp2_with (go_at_call 26; (with_reducible refine (HE.out _ hHeld.B).mono ?_); rintro e w1 ⟨rfl, hb1⟩)
      have S2 := hHeld.on (belowDrewH hb1)
      refine hK.out _ _ ?_ (fun hHeld => ?_)
      · exact S2
      clear hK K
      refine wpAnyH_take (i := 9) (v := ?_) rfl (by kernel_rfl) (by kernel_rfl) (by kernel_rfl) (fun _ _ _ h => h) (Or.inl ⟨by kernel_rfl, ?_⟩) hHeld ?_
      rotate_left
      · intro w hSw; obtain ⟨B, z1, z2, z3, z4, x1, x2, x3, x4⟩ := hSw; first | (go_simp; done) | (go_simp; with_reducible rfl)
      refine wpAnyH_done (by kernel_rfl) ?_ _
      have HB5 := Lib.hid S2.B
      clear S0 S2 HB
      go_wp2
      go_roundg g
      case measure => omega
      case rel => exact ⟨k + 1, by have := HKG.out; omega, by go_num, HB5⟩
end Go.Proofs.Ytjomgbjiognmmaa

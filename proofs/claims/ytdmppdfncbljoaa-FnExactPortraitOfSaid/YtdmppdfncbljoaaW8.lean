/-
  Contracts: lists of angles as results: compared, marked, looked at again.
-/
import Derived.Test.YtdmppdfncbljoaaW3
import Derived.Deep.RegionHeld3
namespace Go.Proofs.Ytdmppdfncbljoaa
open Go.RowKit

/-- A slice with the address A holds the angles l in a block from lo on, whose cells may be written. -/
def AngOwn (w : World) (lo : Nat) (A : Option Addr) (l : List (Int × Int)) : Prop :=
  l ≠ [] → ∃ b off, A = some ⟨b, off, none⟩ ∧ lo ≤ b ∧ b < w.heap.size ∧ ∀ i n d, l[i]? = some (n, d) →
    w.cell? ⟨b, off + i * 2, none⟩ = some (.int .i64 n) ∧ w.cell? ⟨b, off + i * 2 + 1, none⟩ = some (.int .i64 d) ∧ w.frozen? ⟨b, off + i * 2, none⟩ = false ∧ w.frozen? ⟨b, off + i * 2 + 1, none⟩ = false

theorem AngOwn.row {w : World} {lo : Nat} {A : Option Addr} {l : List (Int × Int)} (h : AngOwn w lo A l) : AngRow w w.heap.size A l := by
  intro hl
  obtain ⟨b, off, e, _, hb, hc⟩ := h hl
  exact ⟨b, off, e, hb, fun i n d hi => ⟨(hc i n d hi).1, (hc i n d hi).2.1⟩⟩
theorem AngOwn.next {w w' : World} {lo : Nat} {A : Option Addr} {l : List (Int × Int)} (h : AngOwn w lo A l) (hb : Below w.heap.size w w') : AngOwn w' lo A l := by
  intro hl
  obtain ⟨b, off, e, h1, h2, hc⟩ := h hl
  refine ⟨b, off, e, h1, Nat.lt_of_lt_of_le h2 hb.size, fun i n d hi => ?_⟩
  obtain ⟨a1, a2, a3, a4⟩ := hc i n d hi
  exact ⟨(hb.cell (p := ⟨b, _, none⟩) h2).trans a1, (hb.cell (p := ⟨b, _, none⟩) h2).trans a2, (hb.frozen (p := ⟨b, _, none⟩) h2).trans a3, (hb.frozen (p := ⟨b, _, none⟩) h2).trans a4⟩
theorem AngRow.next {w w' : World} {A : Option Addr} {l : List (Int × Int)} (h : AngRow w w.heap.size A l) (hb : Below w.heap.size w w') : AngRow w' w'.heap.size A l := (h.below hb).more hb.size

/-- The marks that are written: k, k + 1, and so on. -/
def marks (k : Int) (n : Nat) : List (Int × Int) := (List.range n).map fun (i : Nat) => (k + 2 * (i : Int), k + 2 * (i : Int) + 1)
theorem marks_len (k : Int) (n : Nat) : (marks k n).length = n := by simp [marks]
theorem marks_at {k : Int} {n i : Nat} (h : i < n) : (marks k n)[i]? = some (k + 2 * (i : Int), k + 2 * (i : Int) + 1) := by
  simp [marks, List.getElem?_map, List.getElem?_range h]

set_option maxHeartbeats 1000000 in
theorem eqAngS (A A' : Option Addr) (len cap cap' : Nat) (l : List (Int × Int)) (w : World) (hr : AngRow w w.heap.size A l) (hr' : AngRow w w.heap.size A' l) (hl : l.length = len) (hm : len ≤ 4611686018427387904) :
    Calls Try.prog 48 #[.slice A len cap, .slice A' len cap'] w fun e w' => e = .returned (.bool true) ∧ Below w.heap.size w w' := by
  have HR := Lib.hid hr
  have HR' := Lib.hid hr'
  have HL := Lib.hid hl
  clear hr hr' hl
  go_enter Try.func48, Try.ntmps48
  go_wp2
  go_loopw [5] (fun i wr => ∃ k : Nat, k ≤ len ∧ i = .int .i64 k ∧ Below w.heap.size w wr) (fun i _ => len - (intOf i).toNat)
  case atStart => exact ⟨0, by omega, rfl, Below.refl _ _⟩
  case round =>
    obtain ⟨k, hk, rfl, hbe⟩ := hrel
    by_cases hlt : k < len
    · have hkl : k < l.length := by have := HL.out; omega
      obtain ⟨n, d, hnd⟩ : ∃ n d, l[k] = (n, d) := ⟨_, _, rfl⟩
      have hk2 : l[k]? = some (n, d) := by rw [List.getElem?_eq_getElem hkl, hnd]
      have hne : l ≠ [] := by intro h; rw [h] at hkl; simp at hkl
      obtain ⟨b, off, rfl, hbb, hcells⟩ := HR.out hne
      obtain ⟨b', off', rfl, hbb', hcells'⟩ := HR'.out hne
      have x0 := (hbe.cell (p := ⟨b, off + k * 2, none⟩) hbb).trans (hcells k n d hk2).1
      have x1 := (hbe.cell (p := ⟨b, off + k * 2 + 1, none⟩) hbb).trans (hcells k n d hk2).2
      have y0 := (hbe.cell (p := ⟨b', off' + k * 2, none⟩) hbb').trans (hcells' k n d hk2).1
      have y1 := (hbe.cell (p := ⟨b', off' + k * 2 + 1, none⟩) hbb').trans (hcells' k n d hk2).2
      have hbw : b < wr.drew.heap.size := Nat.lt_of_lt_of_le hbb hbe.size
      have hbw' : b' < wr.drew.heap.size := Nat.lt_of_lt_of_le hbb' hbe.size
      clear hnd hcells hcells' hk2 hne
      go_wp2_with fail
      go_region_held3 (fun w' => Below w.heap.size w w' ∧ w'.cell? ⟨b, off + k * 2, none⟩ = some (.int .i64 n) ∧ w'.cell? ⟨b, off + k * 2 + 1, none⟩ = some (.int .i64 d) ∧ w'.cell? ⟨b', off' + k * 2, none⟩ = some (.int .i64 n) ∧ w'.cell? ⟨b', off' + k * 2 + 1, none⟩ = some (.int .i64 d))
        (first | exact ⟨hbe.drew, x0, x1, y0, y1⟩ | exact ⟨belowNext hbe.drew (by assumption), cellThru (by assumption) hbw x0, cellThru (by assumption) hbw x1, cellThru (by assumption) hbw' y0, cellThru (by assumption) hbw' y1⟩)
        (first | (go_at_call 75; (with_reducible refine (eqAngSame _ _ _).mono ?_); rintro e w1 ⟨rfl, hb1⟩))
      rename_i hHeld
      have hB := hHeld.1
      clear hHeld x0 x1 y0 y1 hbw hbw' hb1 hbe
      go_wp2
      go_roundw
      case rel => exact ⟨k + 1, by omega, by go_num, hB⟩
      case measure => simp [intOf]; omega
    · obtain rfl : k = len := by omega
      go_wp2
      go_ret
      exact ⟨rfl, hbe⟩

/-- The first k of l are marked, the rest is as it was. -/
def marked (k : Int) (l : List (Int × Int)) (n : Nat) : List (Int × Int) := marks k n ++ l.drop n
theorem marked_all (k : Int) (l : List (Int × Int)) : marked k l l.length = marks k l.length := by simp [marked]
theorem marked_none (k : Int) (l : List (Int × Int)) : marked k l 0 = l := by simp [marked, marks]
theorem marked_old {k : Int} {l : List (Int × Int)} {n i : Nat} (h : n ≤ i) : (marked k l n)[i]? = l[i]? := by
  unfold marked
  rw [List.getElem?_append_right (by rw [marks_len]; exact h), marks_len, List.getElem?_drop]
  congr 1; omega
theorem marked_new {k : Int} {l : List (Int × Int)} {n i : Nat} (h : i < n) : (marked k l n)[i]? = some (k + 2 * (i : Int), k + 2 * (i : Int) + 1) := by
  unfold marked
  rw [List.getElem?_append_left (by rw [marks_len]; exact h), marks_at h]

set_option maxHeartbeats 1000000 in
theorem heldAng (A : Option Addr) (len cap : Nat) (k0 : Int) (w : World) (hr : AngRow w w.heap.size A (marks k0 len)) (hk0 : 0 ≤ k0) (hk1 : k0 ≤ 1000000000) (hm : len ≤ 1000000000000) :
    Calls Try.prog 50 #[.slice A len cap, .int .i64 k0] w fun e w' => e = .returned (.int .i64 (k0 + 2 * (len : Int))) ∧ w = w' := by
  have HR := Lib.hid hr
  clear hr
  go_enter Try.func50, Try.ntmps50
  go_wp2
  go_loop [1, 5] (fun q i => ∃ k : Nat, k ≤ len ∧ i = .int .i64 k ∧ q = .int .i64 (k0 + 2 * (k : Int))) (fun _ i => len - (intOf i).toNat)
  case atStart => exact ⟨0, by omega, rfl, by simp⟩
  case round =>
    obtain ⟨k, hk, rfl, rfl⟩ := hrel
    by_cases hlt : k < len
    · have hk2 : (marks k0 len)[k]? = some (k0 + 2 * (k : Int), k0 + 2 * (k : Int) + 1) := marks_at hlt
      have hne : marks k0 len ≠ [] := by intro h; rw [h] at hk2; simp at hk2
      obtain ⟨b, off, rfl, hbb, hcells⟩ := HR.out hne
      have x0 := (hcells k _ _ hk2).1
      have x1 := (hcells k _ _ hk2).2
      clear hcells hk2 hne
      go_wp2
      go_round
      case rel => exact ⟨k + 1, by omega, by go_num, by go_num⟩
      case measure => simp [intOf]; omega
    · obtain rfl : k = len := by omega
      go_wp2
      go_ret
      exact ⟨rfl, rfl⟩

theorem other2 {W : World} {b o1 o2 o : Nat} {x y : Value} (h1 : o ≠ o1) (h2 : o ≠ o2) : ((W.setCell ⟨b, o1, none⟩ x).setCell ⟨b, o2, none⟩ y).cell? ⟨b, o, none⟩ = W.cell? ⟨b, o, none⟩ := by
  rw [World.cell?_setCell_other _ _ _ _ (by intro e; injection e; omega), World.cell?_setCell_other _ _ _ _ (by intro e; injection e; omega)]
theorem first2 {W : World} {b o1 o2 : Nat} {x y u : Value} (h : o1 ≠ o2) (h1 : W.cell? ⟨b, o1, none⟩ = some u) : ((W.setCell ⟨b, o1, none⟩ x).setCell ⟨b, o2, none⟩ y).cell? ⟨b, o1, none⟩ = some x := by
  rw [World.cell?_setCell_other _ _ _ _ (by intro e; injection e; omega)]
  exact World.cell?_setCell_same _ _ _ h1
theorem second2 {W : World} {b o1 o2 : Nat} {x y u : Value} (h : o1 ≠ o2) (h1 : W.cell? ⟨b, o2, none⟩ = some u) : ((W.setCell ⟨b, o1, none⟩ x).setCell ⟨b, o2, none⟩ y).cell? ⟨b, o2, none⟩ = some y :=
  World.cell?_setCell_same _ _ _ ((World.cell?_setCell_other _ _ _ _ (by intro e; injection e; omega)).trans h1)

theorem mark_step {W : World} {lo b off k : Nat} {k0 : Int} {l : List (Int × Int)} (hkl : k < l.length) (hlo : lo ≤ b) (hb : b < W.heap.size)
    (hc : ∀ i n d, (marked k0 l k)[i]? = some (n, d) → W.cell? ⟨b, off + i * 2, none⟩ = some (.int .i64 n) ∧ W.cell? ⟨b, off + i * 2 + 1, none⟩ = some (.int .i64 d) ∧ W.frozen? ⟨b, off + i * 2, none⟩ = false ∧ W.frozen? ⟨b, off + i * 2 + 1, none⟩ = false) :
    AngOwn ((W.setCell ⟨b, off + k * 2, none⟩ (.int .i64 (k0 + 2 * (k : Int)))).setCell ⟨b, off + k * 2 + 1, none⟩ (.int .i64 (k0 + 2 * (k : Int) + 1))) lo (some ⟨b, off, none⟩) (marked k0 l (k + 1)) := by
  intro _
  refine ⟨b, off, rfl, hlo, by simpa using hb, fun i n d hi => ?_⟩
  by_cases hik : i = k
  · subst hik
    have hx := marked_new (k := k0) (l := l) (show i < i + 1 by omega)
    rw [hx] at hi
    injection hi with hi
    injection hi with e1 e2
    subst e1 e2
    have hy : (marked k0 l i)[i]? = some (l[i].1, l[i].2) := by rw [marked_old (Nat.le_refl _), List.getElem?_eq_getElem hkl]
    obtain ⟨a1, a2, a3, a4⟩ := hc i _ _ hy
    exact ⟨first2 (by omega) a1, second2 (by omega) a2, by simpa using a3, by simpa using a4⟩
  · have hy : (marked k0 l k)[i]? = some (n, d) := by
      by_cases h : i < k
      · rw [marked_new h, ← hi, marked_new (by omega)]
      · rw [marked_old (by omega), ← hi, marked_old (by omega)]
    obtain ⟨a1, a2, a3, a4⟩ := hc i _ _ hy
    exact ⟨(other2 (by omega) (by omega)).trans a1, (other2 (by omega) (by omega)).trans a2, by simpa using a3, by simpa using a4⟩

set_option maxHeartbeats 1000000 in
theorem markAng (A : Option Addr) (len cap : Nat) (l : List (Int × Int)) (lo : Nat) (k0 : Int) (w : World) (hr : AngOwn w lo A l) (hl : l.length = len) (hk0 : 0 ≤ k0) (hk1 : k0 ≤ 1000000000) (hm : len ≤ 1000000000000) :
    Calls Try.prog 49 #[.slice A len cap, .int .i64 k0] w fun e w' => e = .returned (.int .i64 (k0 + 2 * (len : Int))) ∧ Hid (AngOwn w' lo A (marks k0 len) ∧ Below lo w w') := by
  have HR := Lib.hid hr
  have HL := Lib.hid hl
  clear hr hl
  go_enter Try.func49, Try.ntmps49
  go_wp2
  go_loopw [1, 5] (fun q i wr => ∃ k : Nat, k ≤ len ∧ i = .int .i64 k ∧ q = .int .i64 (k0 + 2 * (k : Int)) ∧ Hid (AngOwn wr lo A (marked k0 l k) ∧ Below lo w wr ∧ w.heap.size ≤ wr.heap.size)) (fun _ i _ => len - (intOf i).toNat)
  case atStart => exact ⟨0, by omega, rfl, by simp, Lib.hid ⟨by rw [marked_none]; exact HR.out, Below.refl _ _, Nat.le_refl _⟩⟩
  case round =>
    obtain ⟨k, hk, rfl, rfl, H⟩ := hrel
    by_cases hlt : k < len
    · have hkl : k < l.length := by have := HL.out; omega
      obtain ⟨n, d, hnd⟩ : ∃ n d, l[k] = (n, d) := ⟨_, _, rfl⟩
      have hk2 : (marked k0 l k)[k]? = some (n, d) := by rw [marked_old (Nat.le_refl _), List.getElem?_eq_getElem hkl, hnd]
      have hne : marked k0 l k ≠ [] := by intro h; rw [h] at hk2; simp at hk2
      obtain ⟨b, off, rfl, hlo, hbb, hcells⟩ := H.out.1 hne
      obtain ⟨x0, x1, x2, x3⟩ := hcells k n d hk2
      have HC := Lib.hid hcells
      clear hcells hne hnd
      go_wp2
      go_roundw
      case rel =>
        refine ⟨k + 1, by omega, by go_num, by go_num, Lib.hid ⟨?_, ?_, ?_⟩⟩
        · exact mark_step hkl hlo hbb HC.out
        · exact (H.out.2.1.setCell hlo _).setCell hlo _
        · simpa using H.out.2.2
      case measure => simp [intOf]; omega
    · obtain rfl : k = len := by omega
      have h1 := H.out.1
      rw [← HL.out, marked_all, HL.out] at h1
      have H1 := Lib.hid (And.intro h1 H.out.2.1)
      clear h1
      go_wp2
      go_ret
      exact ⟨rfl, H1⟩
end Go.Proofs.Ytdmppdfncbljoaa

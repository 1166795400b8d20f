/-
  Contracts: lists of angles as results: compared, marked, looked at again.
-/
import Derived.Test.YtnciiodgkanpjaaW3
import Derived.Deep.RegionHeld3
namespace Go.Proofs.Ytnciiodgkanpjaa
open Go.RowKit

/-- A slice with the address A holds the angles l in a block from lo on, whose cells may be written. -/
def AngOwn (w : World) (lo : Nat) (A : Option Addr) (l : List (Int × Int)) : Prop :=
  l ≠ [] → ∃ b off, A = some ⟨b, off, none⟩ ∧ lo ≤ b ∧ b < w.heap.size ∧ ∀ i n d, l[i]? = some (n, d) →
    w.cell? ⟨b, off + i * 2, none⟩ = some (.int .i64 n) ∧ w.cell? ⟨b, off + i * 2 + 1, none⟩ = some (.int .i64 d) ∧ w.frozen? ⟨b, off + i * 2, none⟩ = false ∧ w.frozen? ⟨b, off + i * 2 + 1, none⟩ = false

theorem AngOwn.row {w : World} {lo : Nat} {A : Option Addr} {l : List (Int × Int)} (h : AngOwn w lo A l) : AngRow w w.heap.size A l := by
  intro hl
  obtain ⟨b, off, e, _, hb, hc⟩ := h hl
  exact ⟨b, off, e, hb, fun i n d hi => ⟨(hc i n d hi).1, (hc i n d hi).2.1⟩⟩
theorem AngOwn.next {w w' : World} {lo : Nat} {A : Option Addr} {l : List (Int × Int)} (h : AngOwn w lo A l) (hb : Below w.heap.size w w') : AngOwn w' lo A l := by
  intro hl
  obtain ⟨b, off, e, h1, h2, hc⟩ := h hl
  refine ⟨b, off, e, h1, Nat.lt_of_lt_of_le h2 hb.size, fun i n d hi => ?_⟩
  obtain ⟨a1, a2, a3, a4⟩ := hc i n d hi
  exact ⟨(hb.cell (p := ⟨b, _, none⟩) h2).trans a1, (hb.cell (p := ⟨b, _, none⟩) h2).trans a2, (hb.frozen (p := ⟨b, _, none⟩) h2).trans a3, (hb.frozen (p := ⟨b, _, none⟩) h2).trans a4⟩
theorem AngRow.next {w w' : World} {A : Option Addr} {l : List (Int × Int)} (h : AngRow w w.heap.size A l) (hb : Below w.heap.size w w') : AngRow w' w'.heap.size A l := (h.below hb).more hb.size

/-- The marks that are written: k, k + 1, and so on. -/
def marks (k : Int) (n : Nat) : List (Int × Int) := (List.range n).map fun (i : Nat) => (k + 2 * (i : Int), k + 2 * (i : Int) + 1)
theorem marks_len (k : Int) (n : Nat) : (marks k n).length = n := by simp [marks]
theorem marks_at {k : Int} {n i : Nat} (h : i < n) : (marks k n)[i]? = some (k + 2 * (i : Int), k + 2 * (i : Int) + 1) := by
  simp [marks, List.getElem?_map, List.getElem?_range h]

/-- The first k of l are marked, the rest is as it was. -/
def marked (k : Int) (l : List (Int × Int)) (n : Nat) : List (Int × Int) := marks k n ++ l.drop n
theorem marked_all (k : Int) (l : List (Int × Int)) : marked k l l.length = marks k l.length := by simp [marked]
theorem marked_none (k : Int) (l : List (Int × Int)) : marked k l 0 = l := by simp [marked, marks]
theorem marked_old {k : Int} {l : List (Int × Int)} {n i : Nat} (h : n ≤ i) : (marked k l n)[i]? = l[i]? := by
  unfold marked
  rw [List.getElem?_append_right (by rw [marks_len]; exact h), marks_len, List.getElem?_drop]
  congr 1; omega
theorem marked_new {k : Int} {l : List (Int × Int)} {n i : Nat} (h : i < n) : (marked k l n)[i]? = some (k + 2 * (i : Int), k + 2 * (i : Int) + 1) := by
  unfold marked
  rw [List.getElem?_append_left (by rw [marks_len]; exact h), marks_at h]

theorem other2 {W : World} {b o1 o2 o : Nat} {x y : Value} (h1 : o ≠ o1) (h2 : o ≠ o2) : ((W.setCell ⟨b, o1, none⟩ x).setCell ⟨b, o2, none⟩ y).cell? ⟨b, o, none⟩ = W.cell? ⟨b, o, none⟩ := by
  rw [World.cell?_setCell_other _ _ _ _ (by intro e; injection e; omega), World.cell?_setCell_other _ _ _ _ (by intro e; injection e; omega)]
theorem first2 {W : World} {b o1 o2 : Nat} {x y u : Value} (h : o1 ≠ o2) (h1 : W.cell? ⟨b, o1, none⟩ = some u) : ((W.setCell ⟨b, o1, none⟩ x).setCell ⟨b, o2, none⟩ y).cell? ⟨b, o1, none⟩ = some x := by
  rw [World.cell?_setCell_other _ _ _ _ (by intro e; injection e; omega)]
  exact World.cell?_setCell_same _ _ _ h1
theorem second2 {W : World} {b o1 o2 : Nat} {x y u : Value} (h : o1 ≠ o2) (h1 : W.cell? ⟨b, o2, none⟩ = some u) : ((W.setCell ⟨b, o1, none⟩ x).setCell ⟨b, o2, none⟩ y).cell? ⟨b, o2, none⟩ = some y :=
  World.cell?_setCell_same _ _ _ ((World.cell?_setCell_other _ _ _ _ (by intro e; injection e; omega)).trans h1)

theorem mark_step {W : World} {lo b off k : Nat} {k0 : Int} {l : List (Int × Int)} (hkl : k < l.length) (hlo : lo ≤ b) (hb : b < W.heap.size)
    (hc : ∀ i n d, (marked k0 l k)[i]? = some (n, d) → W.cell? ⟨b, off + i * 2, none⟩ = some (.int .i64 n) ∧ W.cell? ⟨b, off + i * 2 + 1, none⟩ = some (.int .i64 d) ∧ W.frozen? ⟨b, off + i * 2, none⟩ = false ∧ W.frozen? ⟨b, off + i * 2 + 1, none⟩ = false) :
    AngOwn ((W.setCell ⟨b, off + k * 2, none⟩ (.int .i64 (k0 + 2 * (k : Int)))).setCell ⟨b, off + k * 2 + 1, none⟩ (.int .i64 (k0 + 2 * (k : Int) + 1))) lo (some ⟨b, off, none⟩) (marked k0 l (k + 1)) := by
  intro _
  refine ⟨b, off, rfl, hlo, by simpa using hb, fun i n d hi => ?_⟩
  by_cases hik : i = k
  · subst hik
    have hx := marked_new (k := k0) (l := l) (show i < i + 1 by omega)
    rw [hx] at hi
    injection hi with hi
    injection hi with e1 e2
    subst e1 e2
    have hy : (marked k0 l i)[i]? = some (l[i].1, l[i].2) := by rw [marked_old (Nat.le_refl _), List.getElem?_eq_getElem hkl]
    obtain ⟨a1, a2, a3, a4⟩ := hc i _ _ hy
    exact ⟨first2 (by omega) a1, second2 (by omega) a2, by simpa using a3, by simpa using a4⟩
  · have hy : (marked k0 l k)[i]? = some (n, d) := by
      by_cases h : i < k
      · rw [marked_new h, ← hi, marked_new (by omega)]
      · rw [marked_old (by omega), ← hi, marked_old (by omega)]
    obtain ⟨a1, a2, a3, a4⟩ := hc i _ _ hy
    exact ⟨(other2 (by omega) (by omega)).trans a1, (other2 (by omega) (by omega)).trans a2, by simpa using a3, by simpa using a4⟩

end Go.Proofs.Ytnciiodgkanpjaa

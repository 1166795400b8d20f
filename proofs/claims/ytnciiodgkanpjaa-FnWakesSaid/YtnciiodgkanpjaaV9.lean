/-
  Contracts: lists of leaves as results: compared, marked, looked at again.
-/
import Derived.Test.YtnciiodgkanpjaaV4
import Derived.Test.YtnciiodgkanpjaaW8
import Derived.Deep.RegionHeld3
namespace Go.Proofs.Ytnciiodgkanpjaa
open Go.RowKit

structure Cells4 (w : World) (b o : Nat) (n d m c : Int) : Prop where
  c0 : w.cell? ⟨b, o, none⟩ = some (.int .i64 n)
  c1 : w.cell? ⟨b, o + 1, none⟩ = some (.int .i64 d)
  c2 : w.cell? ⟨b, o + 2, none⟩ = some (.int .i64 m)
  c3 : w.cell? ⟨b, o + 3, none⟩ = some (.int .i64 c)
structure Free4 (w : World) (b o : Nat) : Prop where
  f0 : w.frozen? ⟨b, o, none⟩ = false
  f1 : w.frozen? ⟨b, o + 1, none⟩ = false
  f2 : w.frozen? ⟨b, o + 2, none⟩ = false
  f3 : w.frozen? ⟨b, o + 3, none⟩ = false
theorem Cells4.next {w w' : World} {b o : Nat} {n d m c : Int} (h : Cells4 w b o n d m c) (hb : Below w.heap.size w w') (hlt : b < w.heap.size) : Cells4 w' b o n d m c :=
  ⟨cellThru hb hlt h.c0, cellThru hb hlt h.c1, cellThru hb hlt h.c2, cellThru hb hlt h.c3⟩
theorem Free4.next {w w' : World} {b o : Nat} (h : Free4 w b o) (hb : Below w.heap.size w w') (hlt : b < w.heap.size) : Free4 w' b o :=
  ⟨frozThru hb hlt h.f0, frozThru hb hlt h.f1, frozThru hb hlt h.f2, frozThru hb hlt h.f3⟩

/-- A slice with the address A holds the leaves l in a block from lo on, whose cells may be written. -/
def LfOwn (w : World) (lo : Nat) (A : Option Addr) (l : List Lf4) : Prop :=
  l ≠ [] → ∃ b off, A = some ⟨b, off, none⟩ ∧ lo ≤ b ∧ b < w.heap.size ∧ ∀ i n d m c, l[i]? = some (n, d, m, c) → Cells4 w b (off + i * 4) n d m c ∧ Free4 w b (off + i * 4)
theorem LfOwn.row {w : World} {lo : Nat} {A : Option Addr} {l : List Lf4} (h : LfOwn w lo A l) : LfRow w w.heap.size A l := by
  intro hl
  obtain ⟨b, off, e, _, hb, hc⟩ := h hl
  exact ⟨b, off, e, hb, fun i n d m c hi => ⟨(hc i n d m c hi).1.c0, (hc i n d m c hi).1.c1, (hc i n d m c hi).1.c2, (hc i n d m c hi).1.c3⟩⟩
theorem LfOwn.next {w w' : World} {lo : Nat} {A : Option Addr} {l : List Lf4} (h : LfOwn w lo A l) (hb : Below w.heap.size w w') : LfOwn w' lo A l := by
  intro hl
  obtain ⟨b, off, e, h1, h2, hc⟩ := h hl
  exact ⟨b, off, e, h1, Nat.lt_of_lt_of_le h2 hb.size, fun i n d m c hi => ⟨(hc i n d m c hi).1.next hb h2, (hc i n d m c hi).2.next hb h2⟩⟩
theorem lfOwn_nil {w : World} {lo : Nat} {A : Option Addr} : LfOwn w lo A [] := fun h => absurd rfl h

/-- The marks that are written: k, k + 1, and so on. -/
def marks4 (k : Int) (n : Nat) : List Lf4 := (List.range n).map fun (i : Nat) => (k + 4 * (i : Int), k + 4 * (i : Int) + 1, k + 4 * (i : Int) + 2, k + 4 * (i : Int) + 3)
theorem marks4_len (k : Int) (n : Nat) : (marks4 k n).length = n := by simp [marks4]
theorem marks4_at {k : Int} {n i : Nat} (h : i < n) : (marks4 k n)[i]? = some (k + 4 * (i : Int), k + 4 * (i : Int) + 1, k + 4 * (i : Int) + 2, k + 4 * (i : Int) + 3) := by
  simp [marks4, List.getElem?_map, List.getElem?_range h]

theorem row_at {w : World} {A : Option Addr} {l : List Lf4} (hr : LfRow w w.heap.size A l) (hne : l ≠ []) : ∃ b off, A = some ⟨b, off, none⟩ ∧ b < w.heap.size ∧ ∀ i n d m c, l[i]? = some (n, d, m, c) → Cells4 w b (off + i * 4) n d m c := by
  obtain ⟨b, off, e, hb, hc⟩ := hr hne
  exact ⟨b, off, e, hb, fun i n d m c hi => ⟨(hc i n d m c hi).1, (hc i n d m c hi).2.1, (hc i n d m c hi).2.2.1, (hc i n d m c hi).2.2.2⟩⟩

/-- Two leaves in rows, kept. -/
theorem rows8 {w W w1 : World} {b b' o o' : Nat} {n d m c : Int} (hb : Below W.heap.size W w1) (hx : b < W.heap.size) (hy : b' < W.heap.size)
    (H : Below w.heap.size w W ∧ W.cell? ⟨b, o, none⟩ = some (.int .i64 n) ∧ W.cell? ⟨b, o + 1, none⟩ = some (.int .i64 d) ∧ W.cell? ⟨b, o + 2, none⟩ = some (.int .i64 m) ∧ W.cell? ⟨b, o + 3, none⟩ = some (.int .i64 c) ∧
      W.cell? ⟨b', o', none⟩ = some (.int .i64 n) ∧ W.cell? ⟨b', o' + 1, none⟩ = some (.int .i64 d) ∧ W.cell? ⟨b', o' + 2, none⟩ = some (.int .i64 m) ∧ W.cell? ⟨b', o' + 3, none⟩ = some (.int .i64 c)) :
    Below w.heap.size w w1 ∧ w1.cell? ⟨b, o, none⟩ = some (.int .i64 n) ∧ w1.cell? ⟨b, o + 1, none⟩ = some (.int .i64 d) ∧ w1.cell? ⟨b, o + 2, none⟩ = some (.int .i64 m) ∧ w1.cell? ⟨b, o + 3, none⟩ = some (.int .i64 c) ∧
      w1.cell? ⟨b', o', none⟩ = some (.int .i64 n) ∧ w1.cell? ⟨b', o' + 1, none⟩ = some (.int .i64 d) ∧ w1.cell? ⟨b', o' + 2, none⟩ = some (.int .i64 m) ∧ w1.cell? ⟨b', o' + 3, none⟩ = some (.int .i64 c) := by
  obtain ⟨hB, h0, h1, h2, h3, h4, h5, h6, h7⟩ := H
  exact ⟨belowNext hB hb, cellThru hb hx h0, cellThru hb hx h1, cellThru hb hx h2, cellThru hb hx h3, cellThru hb hy h4, cellThru hb hy h5, cellThru hb hy h6, cellThru hb hy h7⟩

/-- The first k of l are marked, the rest is as it was. -/
def marked4 (k : Int) (l : List Lf4) (n : Nat) : List Lf4 := marks4 k n ++ l.drop n
theorem marked4_all (k : Int) (l : List Lf4) : marked4 k l l.length = marks4 k l.length := by simp [marked4]
theorem marked4_none (k : Int) (l : List Lf4) : marked4 k l 0 = l := by simp [marked4, marks4]
theorem marked4_old {k : Int} {l : List Lf4} {n i : Nat} (h : n ≤ i) : (marked4 k l n)[i]? = l[i]? := by
  unfold marked4
  rw [List.getElem?_append_right (by rw [marks4_len]; exact h), marks4_len, List.getElem?_drop]
  congr 1; omega
theorem marked4_new {k : Int} {l : List Lf4} {n i : Nat} (h : i < n) : (marked4 k l n)[i]? = some (k + 4 * (i : Int), k + 4 * (i : Int) + 1, k + 4 * (i : Int) + 2, k + 4 * (i : Int) + 3) := by
  unfold marked4
  rw [List.getElem?_append_left (by rw [marks4_len]; exact h), marks4_at h]

/-- Four cells written, one behind the other. -/
def set4 (W : World) (b o : Nat) (x0 x1 x2 x3 : Value) : World := (((W.setCell ⟨b, o, none⟩ x0).setCell ⟨b, o + 1, none⟩ x1).setCell ⟨b, o + 2, none⟩ x2).setCell ⟨b, o + 3, none⟩ x3
theorem set4_other {W : World} {b o o' : Nat} {x0 x1 x2 x3 : Value} (h : o' < o ∨ o + 3 < o') : (set4 W b o x0 x1 x2 x3).cell? ⟨b, o', none⟩ = W.cell? ⟨b, o', none⟩ := by
  unfold set4
  rw [World.cell?_setCell_other _ _ _ _ (by intro e; injection e; omega), World.cell?_setCell_other _ _ _ _ (by intro e; injection e; omega), World.cell?_setCell_other _ _ _ _ (by intro e; injection e; omega), World.cell?_setCell_other _ _ _ _ (by intro e; injection e; omega)]
theorem set4_got {W : World} {b o : Nat} {x0 x1 x2 x3 u0 u1 u2 u3 : Value} (h0 : W.cell? ⟨b, o, none⟩ = some u0) (h1 : W.cell? ⟨b, o + 1, none⟩ = some u1) (h2 : W.cell? ⟨b, o + 2, none⟩ = some u2) (h3 : W.cell? ⟨b, o + 3, none⟩ = some u3) :
    (set4 W b o x0 x1 x2 x3).cell? ⟨b, o, none⟩ = some x0 ∧ (set4 W b o x0 x1 x2 x3).cell? ⟨b, o + 1, none⟩ = some x1 ∧ (set4 W b o x0 x1 x2 x3).cell? ⟨b, o + 2, none⟩ = some x2 ∧ (set4 W b o x0 x1 x2 x3).cell? ⟨b, o + 3, none⟩ = some x3 := by
  have ne : ∀ i j : Nat, i ≠ j → (⟨b, i, none⟩ : Addr) ≠ ⟨b, j, none⟩ := fun i j hij e => by injection e; omega
  unfold set4
  refine ⟨?_, ?_, ?_, ?_⟩
  · rw [World.cell?_setCell_other _ _ _ _ (by intro e; injection e; omega), World.cell?_setCell_other _ _ _ _ (by intro e; injection e; omega), World.cell?_setCell_other _ _ _ _ (by intro e; injection e; omega)]
    exact World.cell?_setCell_same _ _ _ h0
  · rw [World.cell?_setCell_other _ _ _ _ (by intro e; injection e; omega), World.cell?_setCell_other _ _ _ _ (by intro e; injection e; omega)]
    exact World.cell?_setCell_same _ _ _ ((World.cell?_setCell_other _ _ _ _ (by intro e; injection e; omega)).trans h1)
  · rw [World.cell?_setCell_other _ _ _ _ (by intro e; injection e; omega)]
    exact World.cell?_setCell_same _ _ _ ((World.cell?_setCell_other _ _ _ _ (by intro e; injection e; omega)).trans ((World.cell?_setCell_other _ _ _ _ (by intro e; injection e; omega)).trans h2))
  · exact World.cell?_setCell_same _ _ _ ((World.cell?_setCell_other _ _ _ _ (by intro e; injection e; omega)).trans ((World.cell?_setCell_other _ _ _ _ (by intro e; injection e; omega)).trans ((World.cell?_setCell_other _ _ _ _ (by intro e; injection e; omega)).trans h3)))

theorem mark4_step {W : World} {lo b off k : Nat} {k0 v0 v1 v2 v3 : Int} {l : List Lf4} (hkl : k < l.length) (hlo : lo ≤ b) (hb : b < W.heap.size)
    (e0 : v0 = k0 + 4 * (k : Int)) (e1 : v1 = k0 + 4 * (k : Int) + 1) (e2 : v2 = k0 + 4 * (k : Int) + 2) (e3 : v3 = k0 + 4 * (k : Int) + 3)
    (hc : ∀ i n d m c, (marked4 k0 l k)[i]? = some (n, d, m, c) → Cells4 W b (off + i * 4) n d m c ∧ Free4 W b (off + i * 4)) :
    LfOwn (set4 W b (off + k * 4) (.int .i64 v0) (.int .i64 v1) (.int .i64 v2) (.int .i64 v3)) lo (some ⟨b, off, none⟩) (marked4 k0 l (k + 1)) := by
  subst e0 e1 e2 e3
  intro _
  refine ⟨b, off, rfl, hlo, by simpa [set4] using hb, fun i n d m c hi => ?_⟩
  by_cases hik : i = k
  · subst hik
    have hx := marked4_new (k := k0) (l := l) (show i < i + 1 by omega)
    rw [hx] at hi
    injection hi with hi
    injection hi with e1 hi
    injection hi with e2 hi
    injection hi with e3 e4
    subst e1 e2 e3 e4
    have hy : (marked4 k0 l i)[i]? = some (l[i].1, l[i].2.1, l[i].2.2.1, l[i].2.2.2) := by rw [marked4_old (Nat.le_refl _), List.getElem?_eq_getElem hkl]
    obtain ⟨⟨a1, a2, a3, a4⟩, ⟨g1, g2, g3, g4⟩⟩ := hc i _ _ _ _ hy
    obtain ⟨t1, t2, t3, t4⟩ := set4_got (x0 := .int .i64 (k0 + 4 * (i : Int))) (x1 := .int .i64 (k0 + 4 * (i : Int) + 1)) (x2 := .int .i64 (k0 + 4 * (i : Int) + 2)) (x3 := .int .i64 (k0 + 4 * (i : Int) + 3)) a1 a2 a3 a4
    exact ⟨⟨t1, t2, t3, t4⟩, ⟨by simpa [set4] using g1, by simpa [set4] using g2, by simpa [set4] using g3, by simpa [set4] using g4⟩⟩
  · have hy : (marked4 k0 l k)[i]? = some (n, d, m, c) := by
      by_cases h : i < k
      · rw [marked4_new h, ← hi, marked4_new (by omega)]
      · rw [marked4_old (by omega), ← hi, marked4_old (by omega)]
    obtain ⟨⟨a1, a2, a3, a4⟩, ⟨g1, g2, g3, g4⟩⟩ := hc i _ _ _ _ hy
    exact ⟨⟨(set4_other (by omega)).trans a1, (set4_other (by omega)).trans a2, (set4_other (by omega)).trans a3, (set4_other (by omega)).trans a4⟩, ⟨by simpa [set4] using g1, by simpa [set4] using g2, by simpa [set4] using g3, by simpa [set4] using g4⟩⟩

end Go.Proofs.Ytnciiodgkanpjaa

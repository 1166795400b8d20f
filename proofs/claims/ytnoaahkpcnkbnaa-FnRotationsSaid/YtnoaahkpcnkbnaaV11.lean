/-
  Contracts: two angles in a row turned round.
  Contracts: leaves that are pulled back past a diameter.
-/
import Derived.Test.YtnoaahkpcnkbnaaV9
import Derived.Test.YtnoaahkpcnkbnaaW20
import Derived.Test.YtnoaahkpcnkbnaaV6
namespace Go.Proofs.Ytnoaahkpcnkbnaa
open Go.RowKit

theorem own2_cells {w : World} {lo : Nat} {A : Option Addr} {x y x' y' : Int} (h : AngOwn w lo A [(x, y), (x', y')]) :
    ∃ b off, A = some ⟨b, off, none⟩ ∧ lo ≤ b ∧ b < w.heap.size ∧ (w.cell? ⟨b, off, none⟩ = some (.int .i64 x) ∧ w.cell? ⟨b, off + 1, none⟩ = some (.int .i64 y) ∧ w.cell? ⟨b, off + 2, none⟩ = some (.int .i64 x') ∧ w.cell? ⟨b, off + 2 + 1, none⟩ = some (.int .i64 y')) ∧
      (w.frozen? ⟨b, off, none⟩ = false ∧ w.frozen? ⟨b, off + 1, none⟩ = false ∧ w.frozen? ⟨b, off + 2, none⟩ = false ∧ w.frozen? ⟨b, off + 2 + 1, none⟩ = false) := by
  obtain ⟨b, off, e, h1, h2, hc⟩ := h (by simp)
  obtain ⟨a1, a2, a3, a4⟩ := hc 0 x y rfl
  obtain ⟨b1, b2, b3, b4⟩ := hc 1 x' y' rfl
  simp only [Nat.zero_mul, Nat.add_zero, Nat.one_mul] at a1 a2 a3 a4 b1 b2 b3 b4
  exact ⟨b, off, e, h1, h2, ⟨a1, a2, b1, b2⟩, ⟨a3, a4, b3, b4⟩⟩
theorem own2_of {w : World} {lo b off : Nat} {x y x' y' : Int} (h1 : lo ≤ b) (h2 : b < w.heap.size)
    (a : w.cell? ⟨b, off, none⟩ = some (.int .i64 x) ∧ w.cell? ⟨b, off + 1, none⟩ = some (.int .i64 y) ∧ w.cell? ⟨b, off + 2, none⟩ = some (.int .i64 x') ∧ w.cell? ⟨b, off + 2 + 1, none⟩ = some (.int .i64 y'))
    (f : w.frozen? ⟨b, off, none⟩ = false ∧ w.frozen? ⟨b, off + 1, none⟩ = false ∧ w.frozen? ⟨b, off + 2, none⟩ = false ∧ w.frozen? ⟨b, off + 2 + 1, none⟩ = false) : AngOwn w lo (some ⟨b, off, none⟩) [(x, y), (x', y')] := by
  intro _
  refine ⟨b, off, rfl, h1, h2, fun i n d hi => ?_⟩
  match i, hi with
  | 0, hi => simp at hi; obtain ⟨rfl, rfl⟩ := hi; simp only [Nat.zero_mul, Nat.add_zero]; exact ⟨a.1, a.2.1, f.1, f.2.1⟩
  | 1, hi => simp at hi; obtain ⟨rfl, rfl⟩ := hi; simp only [Nat.one_mul]; exact ⟨a.2.2.1, a.2.2.2, f.2.2.1, f.2.2.2⟩

/-- The form of an answer that is a list of leaves and a code. -/
def ResLf (w : World) (l : List Lf4) (c : Int) (e : Ending) (w' : World) : Prop :=
  ∃ A cap, e = .returned (.tuple #[.slice A l.length cap, .int .i64 c]) ∧ LfOwn w' w.heap.size A l ∧ Below w.heap.size w w'
theorem lfOwn2 {w : World} (W : World) (B : Below w.heap.size w W) (T : TypeId) (a b c d e f g h : Int) (G : Nat) (hg : G = W.heap.size) : LfOwn (W.alloc (.cells #[.int .i64 a, .int .i64 b, .int .i64 c, .int .i64 d, .int .i64 e, .int .i64 f, .int .i64 g, .int .i64 h] T)) w.heap.size (some ⟨G, 0, none⟩) [(a, b, c, d), (e, f, g, h)] := by
  subst hg
  intro _
  refine ⟨W.heap.size, 0, rfl, B.size, by simp, fun i n m p q hi => ?_⟩
  match i, hi with
  | 0, hi => simp at hi; obtain ⟨rfl, rfl, rfl, rfl⟩ := hi; exact ⟨⟨by simp [go_sem], by simp [go_sem], by simp [go_sem], by simp [go_sem]⟩, ⟨by simp [go_sem], by simp [go_sem], by simp [go_sem], by simp [go_sem]⟩⟩
  | 1, hi => simp at hi; obtain ⟨rfl, rfl, rfl, rfl⟩ := hi; exact ⟨⟨by simp [go_sem], by simp [go_sem], by simp [go_sem], by simp [go_sem]⟩, ⟨by simp [go_sem], by simp [go_sem], by simp [go_sem], by simp [go_sem]⟩⟩

/-- The leaf between two angles, as four numbers. -/
def lf4 (a b c d : Int) : Lf4 := (lfA a b c d, lfB a b c d, lfC a b c d, lfD a b c d)
/-- The halves of the ends lie on other sides. -/
def pbSw (a b c d e f g h : Int) : Bool := arcB (redN a (2 * b)) (redD a (2 * b)) e f g h != arcB (redN c (2 * d)) (redD c (2 * d)) e f g h
def pbOk (a b c d e f g h : Int) : Bool := isLf a b c d && isLf e f g h
/-- One cannot be pulled back past the other. -/
def pbSt (a b c d e f g h : Int) : Bool := !diaB e f g h || (eqA (redN (2 * e) f) (redD (2 * e) f) a b || eqA (redN (2 * e) f) (redD (2 * e) f) c d)
def pbHal (a b c d : Int) : Bool := halOk a b && halOk c d
def pbL (a b c d e f g h : Int) : List Lf4 :=
  if pbOk a b c d e f g h then (if pbSt a b c d e f g h then [] else if pbHal a b c d then
    (if pbSw a b c d e f g h then [lf4 (redN a (2 * b)) (redD a (2 * b)) (redN (c + d) (2 * d)) (redD (c + d) (2 * d)), lf4 (redN (a + b) (2 * b)) (redD (a + b) (2 * b)) (redN c (2 * d)) (redD c (2 * d))]
    else [lf4 (redN a (2 * b)) (redD a (2 * b)) (redN c (2 * d)) (redD c (2 * d)), lf4 (redN (a + b) (2 * b)) (redD (a + b) (2 * b)) (redN (c + d) (2 * d)) (redD (c + d) (2 * d))]) else []) else []
def pbC (a b c d e f g h : Int) : Int :=
  if pbOk a b c d e f g h then (if pbSt a b c d e f g h then 5 else if pbHal a b c d then 0 else 3) else 1
theorem pb_no {a b c d e f g h : Int} (h1 : pbOk a b c d e f g h = false) : pbL a b c d e f g h = [] ∧ pbC a b c d e f g h = 1 := by
  unfold pbL pbC; simp [h1]
theorem pb_st {a b c d e f g h : Int} (h1 : pbOk a b c d e f g h = true) (h2 : pbSt a b c d e f g h = true) : pbL a b c d e f g h = [] ∧ pbC a b c d e f g h = 5 := by
  unfold pbL pbC; simp [h1, h2]
theorem pb_far {a b c d e f g h : Int} (h1 : pbOk a b c d e f g h = true) (h2 : pbSt a b c d e f g h = false) (h3 : pbHal a b c d = false) : pbL a b c d e f g h = [] ∧ pbC a b c d e f g h = 3 := by
  unfold pbL pbC; simp [h1, h2, h3]
theorem pb_sw {a b c d e f g h : Int} (h1 : pbOk a b c d e f g h = true) (h2 : pbSt a b c d e f g h = false) (h3 : pbHal a b c d = true) (h4 : pbSw a b c d e f g h = true) :
    pbL a b c d e f g h = [lf4 (redN a (2 * b)) (redD a (2 * b)) (redN (c + d) (2 * d)) (redD (c + d) (2 * d)), lf4 (redN (a + b) (2 * b)) (redD (a + b) (2 * b)) (redN c (2 * d)) (redD c (2 * d))] ∧ pbC a b c d e f g h = 0 := by
  unfold pbL pbC; simp [h1, h2, h3, h4]
theorem pb_ns {a b c d e f g h : Int} (h1 : pbOk a b c d e f g h = true) (h2 : pbSt a b c d e f g h = false) (h3 : pbHal a b c d = true) (h4 : pbSw a b c d e f g h = false) :
    pbL a b c d e f g h = [lf4 (redN a (2 * b)) (redD a (2 * b)) (redN c (2 * d)) (redD c (2 * d)), lf4 (redN (a + b) (2 * b)) (redD (a + b) (2 * b)) (redN (c + d) (2 * d)) (redD (c + d) (2 * d))] ∧ pbC a b c d e f g h = 0 := by
  unfold pbL pbC; simp [h1, h2, h3, h4]
theorem st_cases (x y z : Bool) : (x = false ∧ (!x || (y || z)) = true) ∨ (x = true ∧ y = true ∧ (!x || (y || z)) = true) ∨ (x = true ∧ y = false ∧ z = true ∧ (!x || (y || z)) = true) ∨ (x = true ∧ y = false ∧ z = false ∧ (!x || (y || z)) = false) := by
  cases x <;> cases y <;> cases z <;> simp

/-- What the region of the two arcs reads, kept. -/
theorem keepPB {wb W w1 : World} {q b1 b2 o1 o2 : Nat} {e f g h x y u v : Int} (hb : Below W.heap.size W w1)
    (H : q < W.heap.size ∧ b1 < W.heap.size ∧ b2 < W.heap.size ∧ Below wb.heap.size wb W ∧ W.cell? ⟨q, 0, none⟩ = some (.int .i64 e) ∧ W.cell? ⟨q, 1, none⟩ = some (.int .i64 f) ∧ W.cell? ⟨q, 2, none⟩ = some (.int .i64 g) ∧ W.cell? ⟨q, 3, none⟩ = some (.int .i64 h) ∧
      W.cell? ⟨b1, o1, none⟩ = some (.int .i64 x) ∧ W.cell? ⟨b1, o1 + 1, none⟩ = some (.int .i64 y) ∧ W.cell? ⟨b2, o2, none⟩ = some (.int .i64 u) ∧ W.cell? ⟨b2, o2 + 1, none⟩ = some (.int .i64 v)) :
    q < w1.heap.size ∧ b1 < w1.heap.size ∧ b2 < w1.heap.size ∧ Below wb.heap.size wb w1 ∧ w1.cell? ⟨q, 0, none⟩ = some (.int .i64 e) ∧ w1.cell? ⟨q, 1, none⟩ = some (.int .i64 f) ∧ w1.cell? ⟨q, 2, none⟩ = some (.int .i64 g) ∧ w1.cell? ⟨q, 3, none⟩ = some (.int .i64 h) ∧
      w1.cell? ⟨b1, o1, none⟩ = some (.int .i64 x) ∧ w1.cell? ⟨b1, o1 + 1, none⟩ = some (.int .i64 y) ∧ w1.cell? ⟨b2, o2, none⟩ = some (.int .i64 u) ∧ w1.cell? ⟨b2, o2 + 1, none⟩ = some (.int .i64 v) := by
  obtain ⟨z0, z1, z2, hB, h0, h1, h2, h3, h4, h5, h6, h7⟩ := H
  have hs := hb.size
  exact ⟨by omega, by omega, by omega, belowNext hB hb, cellThru hb z0 h0, cellThru hb z0 h1, cellThru hb z0 h2, cellThru hb z0 h3, cellThru hb z1 h4, cellThru hb z1 h5, cellThru hb z2 h6, cellThru hb z2 h7⟩

/-- Two angles in a row. -/
structure Row2 (w : World) (b o : Nat) (x y x' y' : Int) : Prop where
  c0 : w.cell? ⟨b, o, none⟩ = some (.int .i64 x)
  c1 : w.cell? ⟨b, o + 1, none⟩ = some (.int .i64 y)
  c2 : w.cell? ⟨b, o + 2, none⟩ = some (.int .i64 x')
  c3 : w.cell? ⟨b, o + 2 + 1, none⟩ = some (.int .i64 y')
theorem Row2.next {w w' : World} {b o B : Nat} {x y x' y' : Int} (h : Row2 w b o x y x' y') (hb : Below B w w') (hlt : b < B) : Row2 w' b o x y x' y' :=
  ⟨(hb.cell (p := ⟨b, _, none⟩) hlt).trans h.c0, (hb.cell (p := ⟨b, _, none⟩) hlt).trans h.c1, (hb.cell (p := ⟨b, _, none⟩) hlt).trans h.c2, (hb.cell (p := ⟨b, _, none⟩) hlt).trans h.c3⟩
theorem row2_at {w : World} {lo b off : Nat} {x y x' y' : Int} (h : AngOwn w lo (some ⟨b, off, none⟩) [(x, y), (x', y')]) : Row2 w b off x y x' y' ∧ lo ≤ b ∧ b < w.heap.size := by
  obtain ⟨b', off', e, h1, h2, ⟨a0, a1, a2, a3⟩, -⟩ := own2_cells h
  injection e with e
  injection e with e1 e2
  subst e1 e2
  exact ⟨⟨a0, a1, a2, a3⟩, h1, h2⟩
theorem own2_some {w : World} {lo : Nat} {A : Option Addr} {x y x' y' : Int} (h : AngOwn w lo A [(x, y), (x', y')]) : ∃ b off, A = some ⟨b, off, none⟩ := by
  obtain ⟨b, off, e, _⟩ := own2_cells h
  exact ⟨b, off, e⟩
theorem AngOwn.lo {w : World} {lo lo' : Nat} {A : Option Addr} {l : List (Int × Int)} (h : AngOwn w lo A l) (hl : lo' ≤ lo) : AngOwn w lo' A l := by
  intro hn
  obtain ⟨b, off, e, h1, h2, hc⟩ := h hn
  exact ⟨b, off, e, Nat.le_trans hl h1, h2, hc⟩

/-- The halves of both ends, in rows of their own; the second row lies above the first one. -/
def ResHE (w : World) (x0 y0 x1 y1 u0 v0 u1 v1 : Int) (e : Ending) (w' : World) : Prop :=
  ∃ b1 o1 k1 b2 o2 k2 G, e = .returned (.tuple #[.slice (some ⟨b1, o1, none⟩) 2 k1, .slice (some ⟨b2, o2, none⟩) 2 k2, .int .i64 0]) ∧ AngOwn w' w.heap.size (some ⟨b1, o1, none⟩) [(x0, y0), (x1, y1)] ∧
    AngOwn w' G (some ⟨b2, o2, none⟩) [(u0, v0), (u1, v1)] ∧ b1 < G ∧ w.heap.size ≤ G ∧ Below w.heap.size w w'

end Go.Proofs.Ytnoaahkpcnkbnaa

/-
  Contracts: the order of leaves on the program's side; lists in strictly ascending order.
  Contracts: a leaf that crosses one of a list.
  Contracts: what is a lamination, on the program's side.
-/
import Derived.Test.YtnoaahkpcnkbnaaV17
import Derived.Deep.RegionHeld3
import Derived.Test.YtnoaahkpcnkbnaaV4
namespace Go.Proofs.Ytnoaahkpcnkbnaa
open Go.RowKit

/-- The order of leaves, as the program tells it. -/
def cmpL (a b c d e f g h : Int) : Int := if cmpI (a * f) (e * b) = 0 then cmpI (c * h) (g * d) else cmpI (a * f) (e * b)
theorem lfAt {l : List Lf4} {k : Nat} (h : k < l.length) : ∃ a b e f, l[k]? = some (a, b, e, f) := ⟨l[k].1, l[k].2.1, l[k].2.2.1, l[k].2.2.2, by rw [List.getElem?_eq_getElem h]⟩
theorem cmpI_zero {x y : Int} (h : cmpI x y = 0) : x = y := by
  unfold cmpI at h
  split at h
  · omega
  · split at h <;> omega
theorem cmpI_same (x : Int) : cmpI x x = 0 := by unfold cmpI; rw [if_neg (by omega), if_neg (by omega)]

theorem lessX_cmp {a b c d e f g h : Int} (r1 : Red (a, b)) (_r2 : Red (c, d)) (r3 : Red (e, f)) (_r4 : Red (g, h)) : decide (cmpL a b c d e f g h < 0) = (if eqA a b e f then ltA c d g h else ltA a b e f) := by
  unfold cmpL
  cases hq : eqA a b e f
  · have hn : ¬ cmpI (a * f) (e * b) = 0 := fun h => ne_of_red r1 r3 hq (cmpI_zero h)
    rw [if_neg hn, ← ltA_cmp]
    rfl
  · obtain ⟨rfl, rfl⟩ := (eqA_iff _ _ _ _).1 hq
    rw [if_pos (cmpI_same _), ← ltA_cmp]
    rfl
theorem cmpL_range (a b c d e f g h : Int) : -1 ≤ cmpL a b c d e f g h ∧ cmpL a b c d e f g h ≤ 1 := by
  unfold cmpL
  split <;> exact cmpI_range _ _

/-- Two leaves in rows, kept. -/
theorem rows8g {w W w1 : World} {b b' o o' : Nat} {n d m c n' d' m' c' : Int} (hb : Below W.heap.size W w1) (hx : b < w.heap.size) (hy : b' < w.heap.size)
    (H : Below w.heap.size w W ∧ W.cell? ⟨b, o, none⟩ = some (.int .i64 n) ∧ W.cell? ⟨b, o + 1, none⟩ = some (.int .i64 d) ∧ W.cell? ⟨b, o + 2, none⟩ = some (.int .i64 m) ∧ W.cell? ⟨b, o + 3, none⟩ = some (.int .i64 c) ∧
      W.cell? ⟨b', o', none⟩ = some (.int .i64 n') ∧ W.cell? ⟨b', o' + 1, none⟩ = some (.int .i64 d') ∧ W.cell? ⟨b', o' + 2, none⟩ = some (.int .i64 m') ∧ W.cell? ⟨b', o' + 3, none⟩ = some (.int .i64 c')) :
    Below w.heap.size w w1 ∧ w1.cell? ⟨b, o, none⟩ = some (.int .i64 n) ∧ w1.cell? ⟨b, o + 1, none⟩ = some (.int .i64 d) ∧ w1.cell? ⟨b, o + 2, none⟩ = some (.int .i64 m) ∧ w1.cell? ⟨b, o + 3, none⟩ = some (.int .i64 c) ∧
      w1.cell? ⟨b', o', none⟩ = some (.int .i64 n') ∧ w1.cell? ⟨b', o' + 1, none⟩ = some (.int .i64 d') ∧ w1.cell? ⟨b', o' + 2, none⟩ = some (.int .i64 m') ∧ w1.cell? ⟨b', o' + 3, none⟩ = some (.int .i64 c') := by
  obtain ⟨hB, h0, h1, h2, h3, h4, h5, h6, h7⟩ := H
  have hx := Nat.lt_of_lt_of_le hx hB.size
  have hy := Nat.lt_of_lt_of_le hy hB.size
  exact ⟨belowNext hB hb, cellThru hb hx h0, cellThru hb hx h1, cellThru hb hx h2, cellThru hb hx h3, cellThru hb hy h4, cellThru hb hy h5, cellThru hb hy h6, cellThru hb hy h7⟩

/-- A leaf comes before another one. -/
def lessX (x y : Lf4) : Bool := if eqA x.1 x.2.1 y.1 y.2.1 then ltA x.2.2.1 x.2.2.2 y.2.2.1 y.2.2.2 else ltA x.1 x.2.1 y.1 y.2.1
/-- Each leaf comes behind the one before it. -/
def Asc (l : List Lf4) : Prop := ∀ (i : Nat) (x y : Lf4), l[i]? = some x → l[i + 1]? = some y → lessX x y = true

def crossX (x y : Lf4) : Bool := crossB x.1 x.2.1 x.2.2.1 x.2.2.2 y.1 y.2.1 y.2.2.1 y.2.2.2
/-- A leaf crosses one of a list. -/
def CrossOne (x : Lf4) (l : List Lf4) : Prop := ∃ (k : Nat) (y : Lf4), l[k]? = some y ∧ crossX x y = true

/-- No two leaves cross. -/
def NoCross (l : List Lf4) : Prop := ∀ (i k : Nat) (x y : Lf4), k < i → l[i]? = some x → l[k]? = some y → crossX x y = false
def Lam (l : List Lf4) : Prop := l.length ≤ 200 ∧ allLf l = true ∧ Asc l ∧ NoCross l
/-- The form of an answer yes or no that tells P. -/
def ResYes (w : World) (P : Prop) (e : Ending) (w' : World) : Prop := (∃ r : Bool, e = .returned (.bool r) ∧ Hid (r = true ↔ P)) ∧ Below w.heap.size w w'
theorem take_at {l : List Lf4} {i k : Nat} {y : Lf4} : (l.take i)[k]? = some y ↔ k < i ∧ l[k]? = some y := by
  by_cases h : k < i
  · rw [List.getElem?_take_of_lt h]; exact ⟨fun e => ⟨h, e⟩, fun e => e.2⟩
  · rw [List.getElem?_eq_none (by simp; omega)]; exact ⟨fun e => (by cases e), fun e => absurd e.1 h⟩
theorem LfRow.take {w : World} {B : Nat} {A : Option Addr} {l : List Lf4} (h : LfRow w B A l) (i : Nat) : LfRow w B A (l.take i) := by
  intro hn
  obtain ⟨b, off, e, hb, hc⟩ := h (fun h0 => hn (by rw [h0]; simp))
  exact ⟨b, off, e, hb, fun j n d m c hj => hc j n d m c (take_at.1 hj).2⟩
theorem allLf_take {l : List Lf4} (h : allLf l = true) (i : Nat) : allLf (l.take i) = true := by
  unfold allLf at *
  rw [List.all_eq_true] at *
  intro x hx
  exact h x (List.mem_of_mem_take hx)
theorem noCross_iff {l : List Lf4} : NoCross l ↔ ∀ (i : Nat) (x : Lf4), l[i]? = some x → ¬ CrossOne x (l.take i) := by
  constructor
  · intro h i x hx ⟨k, y, hk, hc⟩
    obtain ⟨h1, h2⟩ := take_at.1 hk
    rw [h i k x y h1 hx h2] at hc; cases hc
  · intro h i k x y hk hx hy
    cases hc : crossX x y
    · rfl
    · exact absurd ⟨k, y, take_at.2 ⟨hk, hy⟩, hc⟩ (h i x hx)

end Go.Proofs.Ytnoaahkpcnkbnaa

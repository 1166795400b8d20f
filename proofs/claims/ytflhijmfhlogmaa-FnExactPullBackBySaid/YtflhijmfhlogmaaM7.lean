/-
  Contracts: the first leaf of which no other one is longer.
-/
import Derived.Test.YtflhijmfhlogmaaM1
import Derived.Test.YtflhijmfhlogmaaV22
import Derived.Test.YtflhijmfhlogmaaV18
import Derived.Test.YtflhijmfhlogmaaV24
namespace Go.Proofs.Ytflhijmfhlogmaa
open Go.RowKit

theorem cmpI_gt (x y : Int) : decide (0 < cmpI x y) = decide (y < x) := by
  unfold cmpI
  rw [decide_eq_decide]
  split
  · omega
  · split <;> omega
/-- The first one is shorter. -/
def lngB (m x : Lf4) : Bool := ltA (dsN m.1 m.2.1 m.2.2.1 m.2.2.2) (dsD m.1 m.2.1 m.2.2.1 m.2.2.2) (dsN x.1 x.2.1 x.2.2.1 x.2.2.2) (dsD x.1 x.2.1 x.2.2.1 x.2.2.2)
/-- The first leaf of which no other one is longer. -/
def bestL : Lf4 → List Lf4 → Lf4
  | m, [] => m
  | m, x :: t => bestL (if lngB m x then x else m) t
theorem best_end {l : List Lf4} {k : Nat} {m : Lf4} (h : l.length ≤ k) : bestL m (l.drop k) = m := by
  rw [List.drop_eq_nil_of_le h]; rfl
theorem best_yes {l : List Lf4} {k : Nat} {m x : Lf4} (hx : l[k]? = some x) (h : lngB m x = true) : bestL m (l.drop k) = bestL x (l.drop (k + 1)) := by
  have hk : k < l.length := by
    rcases Nat.lt_or_ge k l.length with h1 | h1
    · exact h1
    · rw [List.getElem?_eq_none h1] at hx; cases hx
  rw [List.drop_eq_getElem_cons hk]
  have e : l[k] = x := by rw [List.getElem?_eq_getElem hk] at hx; injection hx
  rw [e]
  show bestL (if lngB m x then x else m) _ = _
  rw [h]; rfl
theorem best_no {l : List Lf4} {k : Nat} {m x : Lf4} (hx : l[k]? = some x) (h : lngB m x = false) : bestL m (l.drop k) = bestL m (l.drop (k + 1)) := by
  have hk : k < l.length := by
    rcases Nat.lt_or_ge k l.length with h1 | h1
    · exact h1
    · rw [List.getElem?_eq_none h1] at hx; cases hx
  rw [List.drop_eq_getElem_cons hk]
  have e : l[k] = x := by rw [List.getElem?_eq_getElem hk] at hx; injection hx
  rw [e]
  show bestL (if lngB m x then x else m) _ = _
  rw [h]; rfl

/-- What holds when k leaves have been looked at; rb: the result's box, bb: the box of the best one. -/
structure LgSt (w : World) (rb bb : Nat) (l : List Lf4) (x0 : Lf4) (k : Nat) (m : Lf4) (wr : World) : Prop where
  cs : Cells4 wr bb 0 m.1 m.2.1 m.2.2.1 m.2.2.2
  fs : Free4 wr bb 0
  rs : Cells4 wr rb 0 0 0 0 0
  rf : Free4 wr rb 0
  z : bb < wr.heap.size
  B : Below w.heap.size w wr
  g : isLfX m = true
  e : bestL m (l.drop k) = bestL x0 (l.drop 1)
theorem LgSt.next {w wr W : World} {rb bb : Nat} {l : List Lf4} {x0 m : Lf4} {k : Nat} (h : LgSt w rb bb l x0 k m wr) (hr : rb < bb) (hb : Below wr.heap.size wr W) : LgSt w rb bb l x0 k m W :=
  ⟨h.cs.next hb h.z, h.fs.next hb h.z, h.rs.next hb (Nat.lt_trans hr h.z), h.rf.next hb (Nat.lt_trans hr h.z), Nat.lt_of_lt_of_le h.z hb.size, belowNext h.B hb, h.g, h.e⟩
/-- What is kept on the way: all but the place. -/
theorem LgSt.step {w wr : World} {rb bb : Nat} {l : List Lf4} {x0 m x : Lf4} {k : Nat} (h : LgSt w rb bb l x0 k m wr) (hx : l[k]? = some x) (hl : lngB m x = false) : LgSt w rb bb l x0 (k + 1) m wr :=
  ⟨h.cs, h.fs, h.rs, h.rf, h.z, h.B, h.g, by rw [← best_no hx hl]; exact h.e⟩
theorem drop_one (x : Lf4) (t : List Lf4) : bestL x ((x :: t).drop 1) = bestL x t := rfl

end Go.Proofs.Ytflhijmfhlogmaa

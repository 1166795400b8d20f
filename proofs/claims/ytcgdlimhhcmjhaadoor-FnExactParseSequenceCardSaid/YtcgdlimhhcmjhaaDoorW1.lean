/-
  Contracts of the small functions of angles.
-/
import Derived.Test.YtcgdlimhhcmjhaaDoorProg
import Derived.Test.YtcgdlimhhcmjhaaDoorMath
import Derived.Handy
import Derived.WalkSpells
import Derived.WalkLawsBesides
import Derived.BigQuiet
import Derived.Deep.QuietTactic
import Derived.Lib.Hide
import Derived.RegionTactic
import Derived.BigRegion
import Derived.WalkSmall
namespace Go.Proofs.YtcgdlimhhcmjhaaDoor
open Go.RowKit

theorem belowNext {w W w1 : World} (B : Below w.heap.size w W) (hb : Below W.heap.size W w1) : Below w.heap.size w w1 := B.trans (hb.mono B.size)
theorem belowAlloc {w W : World} (B : Below w.heap.size w W) (o : Obj) : Below w.heap.size w (W.alloc o) := B.alloc B.size o
theorem sizeOf' {w W : World} (B : Below w.heap.size w W) : w.heap.size ≤ W.heap.size := B.size
theorem sizeAdd {w W : World} {k : Nat} (B : Below w.heap.size w W) : w.heap.size ≤ W.heap.size + k := Nat.le_trans B.size (Nat.le_add_right _ _)
theorem bcell {W w1 : World} (hb : Below W.heap.size W w1) : (∀ b o, b < W.heap.size → w1.cell? ⟨b, o, none⟩ = W.cell? ⟨b, o, none⟩) ∧ (∀ b o, b < W.heap.size → w1.frozen? ⟨b, o, none⟩ = W.frozen? ⟨b, o, none⟩) :=
  ⟨fun b o h => hb.cell (p := ⟨b, o, none⟩) h, fun b o h => hb.frozen (p := ⟨b, o, none⟩) h⟩

theorem cellThru {W w1 : World} (hb : Below W.heap.size W w1) {b o : Nat} {v : Value} (hlt : b < W.heap.size) (h : W.cell? ⟨b, o, none⟩ = some v) : w1.cell? ⟨b, o, none⟩ = some v := (hb.cell (p := ⟨b, o, none⟩) hlt).trans h
theorem frozThru {W w1 : World} (hb : Below W.heap.size W w1) {b o : Nat} {v : Bool} (hlt : b < W.heap.size) (h : W.frozen? ⟨b, o, none⟩ = v) : w1.frozen? ⟨b, o, none⟩ = v := (hb.frozen (p := ⟨b, o, none⟩) hlt).trans h

/-- An angle as a value. -/
abbrev ang (n d : Int) : Value := .agg #[.int .i64 n, .int .i64 d]

/-- Whether n/d is an angle as it is written. -/
def isAng (n d : Int) : Bool := decide (1 ≤ d ∧ d ≤ 8191 ∧ 0 ≤ n ∧ n < d ∧ gcdI n d = 1)
theorem isAng_yes {n d : Int} (h : isAng n d = true) : 1 ≤ d ∧ d ≤ 8191 ∧ 0 ≤ n ∧ n < d ∧ gcdI n d = 1 := by unfold isAng at h; simpa using h

/-- What is told of a reduced fraction: itself, or the zero value and a code. -/
def toldN (p q : Int) : Int := if 8191 < q then 0 else p
def toldD (q : Int) : Int := if 8191 < q then 0 else q
def toldC (q : Int) : Int := if 8191 < q then 3 else 0

end Go.Proofs.YtcgdlimhhcmjhaaDoor

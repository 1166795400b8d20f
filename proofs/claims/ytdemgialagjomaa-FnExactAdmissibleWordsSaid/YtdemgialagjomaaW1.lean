/-
  Contracts of the small functions of angles.
-/
import Derived.Test.YtdemgialagjomaaProg
import Derived.Test.YtdemgialagjomaaMath
import Derived.Handy
import Derived.WalkSpells
import Derived.WalkLawsBesides
import Derived.BigQuiet
import Derived.Deep.QuietTactic
import Derived.Lib.Hide
import Derived.RegionTactic
import Derived.BigRegion
import Derived.WalkSmall
namespace Go.Proofs.Ytdemgialagjomaa
open Go.RowKit

theorem belowNext {w W w1 : World} (B : Below w.heap.size w W) (hb : Below W.heap.size W w1) : Below w.heap.size w w1 := B.trans (hb.mono B.size)
theorem belowAlloc {w W : World} (B : Below w.heap.size w W) (o : Obj) : Below w.heap.size w (W.alloc o) := B.alloc B.size o
theorem sizeOf' {w W : World} (B : Below w.heap.size w W) : w.heap.size ≤ W.heap.size := B.size
theorem sizeAdd {w W : World} {k : Nat} (B : Below w.heap.size w W) : w.heap.size ≤ W.heap.size + k := Nat.le_trans B.size (Nat.le_add_right _ _)
theorem bcell {W w1 : World} (hb : Below W.heap.size W w1) : (∀ b o, b < W.heap.size → w1.cell? ⟨b, o, none⟩ = W.cell? ⟨b, o, none⟩) ∧ (∀ b o, b < W.heap.size → w1.frozen? ⟨b, o, none⟩ = W.frozen? ⟨b, o, none⟩) :=
  ⟨fun b o h => hb.cell (p := ⟨b, o, none⟩) h, fun b o h => hb.frozen (p := ⟨b, o, none⟩) h⟩

theorem cellThru {W w1 : World} (hb : Below W.heap.size W w1) {b o : Nat} {v : Value} (hlt : b < W.heap.size) (h : W.cell? ⟨b, o, none⟩ = some v) : w1.cell? ⟨b, o, none⟩ = some v := (hb.cell (p := ⟨b, o, none⟩) hlt).trans h
theorem frozThru {W w1 : World} (hb : Below W.heap.size W w1) {b o : Nat} {v : Bool} (hlt : b < W.heap.size) (h : W.frozen? ⟨b, o, none⟩ = v) : w1.frozen? ⟨b, o, none⟩ = v := (hb.frozen (p := ⟨b, o, none⟩) hlt).trans h

/-- An angle as a value. -/
abbrev ang (n d : Int) : Value := .agg #[.int .i64 n, .int .i64 d]

/-- Whether n/d is an angle as it is written. -/
def isAng (n d : Int) : Bool := decide (1 ≤ d ∧ d ≤ 8191 ∧ 0 ≤ n ∧ n < d ∧ gcdI n d = 1)
theorem isAng_yes {n d : Int} (h : isAng n d = true) : 1 ≤ d ∧ d ≤ 8191 ∧ 0 ≤ n ∧ n < d ∧ gcdI n d = 1 := by unfold isAng at h; simpa using h

/-- What is told of a reduced fraction: itself, or the zero value and a code. -/
def toldN (p q : Int) : Int := if 8191 < q then 0 else p
def toldD (q : Int) : Int := if 8191 < q then 0 else q
def toldC (q : Int) : Int := if 8191 < q then 3 else 0

set_option maxHeartbeats 400000 in
theorem inYes (n lo hi : Int) (w : World) (h1 : lo ≤ n) (h2 : n ≤ hi) :
    Calls Try.prog 9 #[.int .i64 n, .int .i64 lo, .int .i64 hi] w fun e w' => e = .returned (.bool true) ∧ w = w' := by
  go_enter Try.func9, Try.ntmps9
  go_wp2
  go_ret
  exact ⟨rfl, rfl⟩
set_option maxHeartbeats 400000 in
theorem inNo (n lo hi : Int) (w : World) (h : n < lo ∨ hi < n) :
    Calls Try.prog 9 #[.int .i64 n, .int .i64 lo, .int .i64 hi] w fun e w' => e = .returned (.bool false) ∧ w = w' := by
  by_cases h1 : n < lo
  · have e1 : decide (lo ≤ n) = false := by simp; omega
    go_enter Try.func9, Try.ntmps9
    go_wp2
    go_ret
    exact ⟨rfl, rfl⟩
  · have h2 : hi < n := by omega
    have h3 : lo ≤ n := by omega
    have e1 : decide (n ≤ hi) = false := by simp; omega
    clear h
    go_enter Try.func9, Try.ntmps9
    go_wp2
    go_ret
    exact ⟨rfl, rfl⟩
end Go.Proofs.Ytdemgialagjomaa

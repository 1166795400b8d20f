/-
  Contracts: periods as the model tells them.
-/
import Derived.Test.YtillliangojdkaaW16
import Derived.Test.YtillliangojdkaaW17
namespace Go.Proofs.Ytillliangojdkaa
open Go.RowKit

/-- A list of integers in new memory, and a code. -/
def ResInt (w : World) (l : List Int) (c : Int) (e : Ending) (w' : World) : Prop :=
  ∃ A cap, e = .returned (.tuple #[.slice A l.length cap, .int .i64 c]) ∧ IntOwn w' w.heap.size A l ∧ Below w.heap.size w w'
theorem ownI_nil {w : World} {lo : Nat} {A : Option Addr} : IntOwn w lo A [] := fun h => absurd rfl h
theorem ownI2 {w : World} (W : World) (B : Below w.heap.size w W) (T : TypeId) (a b : Int) (g : Nat) (hg : g = W.heap.size) : IntOwn (W.alloc (.cells #[.int .i64 a, .int .i64 b] T)) w.heap.size (some ⟨g, 0, none⟩) [a, b] := by
  subst hg
  intro _
  refine ⟨W.heap.size, 0, rfl, B.size, by simp, fun i n hi => ?_⟩
  match i, hi with
  | 0, hi => simp at hi; subst hi; exact ⟨by simp [go_sem], by simp [go_sem]⟩
  | 1, hi => simp at hi; subst hi; exact ⟨by simp [go_sem], by simp [go_sem]⟩
def pL (n d : Int) : List Int := if isAng n d then (match findOrb (n, d) 65 0 with | some k => [(pre (n, d) : Int), (k : Int) - (pre (n, d) : Int)] | none => []) else []
theorem pL_len (n d : Int) : (pL n d).length ≤ 1000000000000 := by
  unfold pL
  split
  · cases findOrb (n, d) 65 0 <;> simp
  · simp

end Go.Proofs.Ytillliangojdkaa

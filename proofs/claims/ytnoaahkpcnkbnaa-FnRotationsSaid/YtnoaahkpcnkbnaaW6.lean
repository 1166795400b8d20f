/-
  Contracts: sums, arcs and cyclic orders as the exported functions tell them.
-/
import Derived.Test.YtnoaahkpcnkbnaaW5
namespace Go.Proofs.Ytnoaahkpcnkbnaa
open Go.RowKit

theorem row2 (W : World) (T : TypeId) (a b c d : Int) (g : Nat) (hg : g = W.heap.size) : AngRow (W.alloc (.cells #[.int .i64 a, .int .i64 b, .int .i64 c, .int .i64 d] T)) (W.alloc (.cells #[.int .i64 a, .int .i64 b, .int .i64 c, .int .i64 d] T)).heap.size (some ⟨g, 0, none⟩) [(a, b), (c, d)] := by
  subst hg
  intro _
  refine ⟨W.heap.size, 0, rfl, by simp, fun i n m hi => ?_⟩
  match i, hi with
  | 0, hi => simp at hi; obtain ⟨rfl, rfl⟩ := hi; exact ⟨by simp [go_sem], by simp [go_sem]⟩
  | 1, hi => simp at hi; obtain ⟨rfl, rfl⟩ := hi; exact ⟨by simp [go_sem], by simp [go_sem]⟩
theorem row3 (W : World) (T : TypeId) (a b c d e f : Int) (g : Nat) (hg : g = W.heap.size) : AngRow (W.alloc (.cells #[.int .i64 a, .int .i64 b, .int .i64 c, .int .i64 d, .int .i64 e, .int .i64 f] T)) (W.alloc (.cells #[.int .i64 a, .int .i64 b, .int .i64 c, .int .i64 d, .int .i64 e, .int .i64 f] T)).heap.size (some ⟨g, 0, none⟩) [(a, b), (c, d), (e, f)] := by
  subst hg
  intro _
  refine ⟨W.heap.size, 0, rfl, by simp, fun i n m hi => ?_⟩
  match i, hi with
  | 0, hi => simp at hi; obtain ⟨rfl, rfl⟩ := hi; exact ⟨by simp [go_sem], by simp [go_sem]⟩
  | 1, hi => simp at hi; obtain ⟨rfl, rfl⟩ := hi; exact ⟨by simp [go_sem], by simp [go_sem]⟩
  | 2, hi => simp at hi; obtain ⟨rfl, rfl⟩ := hi; exact ⟨by simp [go_sem], by simp [go_sem]⟩
theorem all2 (a b c d : Int) : allAng [(a, b), (c, d)] = (isAng a b && isAng c d) := by simp [allAng]
theorem all3 (a b c d e f : Int) : allAng [(a, b), (c, d), (e, f)] = (isAng a b && (isAng c d && isAng e f)) := by simp [allAng]

def sumOk (n d m c : Int) : Bool := isAng n d && isAng m c
def sumN (n d m c : Int) : Int := if sumOk n d m c then toldN (redN (n * c + m * d) (d * c)) (redD (n * c + m * d) (d * c)) else 0
def sumD (n d m c : Int) : Int := if sumOk n d m c then toldD (redD (n * c + m * d) (d * c)) else 0
def sumC (n d m c : Int) : Int := if sumOk n d m c then toldC (redD (n * c + m * d) (d * c)) else 1
theorem sum_yes {n d m c : Int} (h : sumOk n d m c = true) : sumN n d m c = toldN (redN (n * c + m * d) (d * c)) (redD (n * c + m * d) (d * c)) ∧ sumD n d m c = toldD (redD (n * c + m * d) (d * c)) ∧ sumC n d m c = toldC (redD (n * c + m * d) (d * c)) := by
  unfold sumN sumD sumC; simp [h]
theorem sum_no {n d m c : Int} (h : sumOk n d m c = false) : sumN n d m c = 0 ∧ sumD n d m c = 0 ∧ sumC n d m c = 1 := by
  unfold sumN sumD sumC; simp [h]

end Go.Proofs.Ytnoaahkpcnkbnaa

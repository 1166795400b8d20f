/-
  Contracts: halves.
-/
import Derived.Test.YtnciiodgkanpjaaW8
import Derived.Test.YtnciiodgkanpjaaW6
import Derived.Deep.DeepCutAuto
namespace Go.Proofs.Ytnciiodgkanpjaa
open Go.RowKit

/-- A list of angles in new memory, and a code. -/
def ResAng (w : World) (l : List (Int × Int)) (c : Int) (e : Ending) (w' : World) : Prop :=
  ∃ A cap, e = .returned (.tuple #[.slice A l.length cap, .int .i64 c]) ∧ AngOwn w' w.heap.size A l ∧ Below w.heap.size w w'
theorem own_nil {w : World} {lo : Nat} {A : Option Addr} : AngOwn w lo A [] := fun h => absurd rfl h
theorem own2 {w : World} (W : World) (B : Below w.heap.size w W) (T : TypeId) (a b c d : Int) (g : Nat) (hg : g = W.heap.size) : AngOwn (W.alloc (.cells #[.int .i64 a, .int .i64 b, .int .i64 c, .int .i64 d] T)) w.heap.size (some ⟨g, 0, none⟩) [(a, b), (c, d)] := by
  subst hg
  intro _
  refine ⟨W.heap.size, 0, rfl, B.size, by simp, fun i n m hi => ?_⟩
  match i, hi with
  | 0, hi => simp at hi; obtain ⟨rfl, rfl⟩ := hi; exact ⟨by simp [go_sem], by simp [go_sem], by simp [go_sem], by simp [go_sem]⟩
  | 1, hi => simp at hi; obtain ⟨rfl, rfl⟩ := hi; exact ⟨by simp [go_sem], by simp [go_sem], by simp [go_sem], by simp [go_sem]⟩

/-- Both halves are angles. -/
def halOk (n d : Int) : Bool := decide (redD n (2 * d) ≤ 8191 ∧ redD (n + d) (2 * d) ≤ 8191)
def halL (n d : Int) : List (Int × Int) := if isAng n d && halOk n d then [(redN n (2 * d), redD n (2 * d)), (redN (n + d) (2 * d), redD (n + d) (2 * d))] else []
def halC (n d : Int) : Int := if isAng n d then (if halOk n d then 0 else 3) else 1
theorem hal_no {n d : Int} (h : isAng n d = false) : halL n d = [] ∧ halC n d = 1 := by unfold halL halC; simp [h]
theorem hal_far {n d : Int} (h : isAng n d = true) (h2 : halOk n d = false) : halL n d = [] ∧ halC n d = 3 := by unfold halL halC; simp [h, h2]
theorem hal_yes {n d : Int} (h : isAng n d = true) (h2 : halOk n d = true) : halL n d = [(redN n (2 * d), redD n (2 * d)), (redN (n + d) (2 * d), redD (n + d) (2 * d))] ∧ halC n d = 0 := by unfold halL halC; simp [h, h2]
theorem hal_cases (n d : Int) : (isAng n d = false) ∨ (isAng n d = true ∧ halOk n d = false ∧ 8191 < redD n (2 * d)) ∨ (isAng n d = true ∧ halOk n d = false ∧ redD n (2 * d) ≤ 8191 ∧ 8191 < redD (n + d) (2 * d)) ∨
    (isAng n d = true ∧ halOk n d = true ∧ redD n (2 * d) ≤ 8191 ∧ redD (n + d) (2 * d) ≤ 8191) := by
  cases isAng n d
  · simp
  · by_cases h1 : redD n (2 * d) ≤ 8191 <;> by_cases h2 : redD (n + d) (2 * d) ≤ 8191 <;> simp [halOk, h1, h2] <;> omega
theorem told_ok {p q : Int} (h : q ≤ 8191) : toldN p q = p ∧ toldD q = q ∧ toldC q = 0 := by
  unfold toldN toldD toldC
  rw [if_neg (by omega), if_neg (by omega), if_neg (by omega)]; exact ⟨rfl, rfl, rfl⟩
theorem told_far {p q : Int} (h : 8191 < q) : toldN p q = 0 ∧ toldD q = 0 ∧ toldC q = 3 := by
  unfold toldN toldD toldC
  rw [if_pos h, if_pos h, if_pos h]; exact ⟨rfl, rfl, rfl⟩

end Go.Proofs.Ytnciiodgkanpjaa

/-
  Contracts: sequences told in the one way (the specification's).
-/
import Derived.Test.YtdemgialagjomaaS3
namespace Go.Proofs.Ytdemgialagjomaa
open Go.RowKit

theorem sp_hit {l : Wd} {k : Nat} (h : l.length % k = 0) (h2 : perB l k = true) (hk : k ≤ l.length) : spFrom l (l.length - k) k = k := by
  by_cases e : k = l.length
  · subst e; rw [Nat.sub_self]; rfl
  · have e1 : l.length - k = (l.length - (k + 1)) + 1 := by omega
    rw [e1, sp_yes h h2]
theorem strs2 (w : World) (T : TypeId) (a b : Value) : (w.alloc (.cells #[a, b] T)).cell? ⟨w.heap.size, 0, none⟩ = some a ∧ (w.alloc (.cells #[a, b] T)).cell? ⟨w.heap.size, 1, none⟩ = some b ∧
    (w.alloc (.cells #[a, b] T)).frozen? ⟨w.heap.size, 0, none⟩ = false ∧ (w.alloc (.cells #[a, b] T)).frozen? ⟨w.heap.size, 1, none⟩ = false := by
  refine ⟨?_, ?_, ?_, ?_⟩ <;> simp [go_sem]

end Go.Proofs.Ytdemgialagjomaa

/-
  Contracts: the wakes around an angle on both sides; the law's walk.
-/
import Derived.Test.YtabddjfgbhnldaaR32
import Derived.Test.YtabddjfgbhnldaaR33
namespace Go.Proofs.Ytabddjfgbhnldaa
open Go.RowKit

/-- What WakesAround answers. -/
def waL (n d m : Int) : List Lf4 := if isAng n d then (if 2 ≤ m ∧ m ≤ 8 then wkL (n, d) (m.toNat - 1) else []) else []
def waC (n d m : Int) : Int := if isAng n d then (if 2 ≤ m ∧ m ≤ 8 then 0 else 2) else 1
theorem wa_yes {n d : Int} {N : Nat} (h : isAng n d = true) (h1 : 2 ≤ N) (h8 : N ≤ 8) : waL n d (N : Int) = wkL (n, d) (N - 1) ∧ waC n d (N : Int) = 0 := by
  have h' : (2 : Int) ≤ (N : Int) ∧ (N : Int) ≤ 8 := by omega
  unfold waL waC
  rw [h, if_pos rfl, if_pos rfl, if_pos h', if_pos h']
  exact ⟨rfl, rfl⟩
theorem wa_range {n d m : Int} (h : isAng n d = true) (h1 : ¬ (2 ≤ m ∧ m ≤ 8)) : waL n d m = [] ∧ waC n d m = 2 := by
  unfold waL waC
  rw [h, if_neg h1, if_neg h1]
  exact ⟨rfl, rfl⟩
theorem wa_no {n d : Int} (m : Int) (h : isAng n d = false) : waL n d m = [] ∧ waC n d m = 1 := by
  unfold waL waC
  rw [h]
  exact ⟨rfl, rfl⟩
theorem waL_len (n d m : Int) : (waL n d m).length ≤ 1000000000000 := by
  unfold waL
  split
  · split
    · next h => have := (wkL_facts (n, d) (m := m.toNat - 1) (by omega)).2.2.2.2; omega
    · simp
  · simp

end Go.Proofs.Ytabddjfgbhnldaa

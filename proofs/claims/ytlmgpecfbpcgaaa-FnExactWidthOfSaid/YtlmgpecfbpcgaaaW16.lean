/-
  Contracts: orbits and periods as the model tells them.
-/
import Derived.Test.YtlmgpecfbpcgaaaW15
import Derived.Test.YtlmgpecfbpcgaaaW9
namespace Go.Proofs.Ytlmgpecfbpcgaaa
open Go.RowKit

theorem ang_red {n d : Int} (h : isAng n d = true) : Red (n, d) := by
  obtain ⟨a, b, c, e, f⟩ := isAng_yes h
  exact ⟨a, b, c, e, f⟩
/-- The first k angles of an orbit. -/
def orbList (p : Int × Int) (k : Nat) : List (Int × Int) := (List.range k).map (orb p)
theorem orbList_len (p : Int × Int) (k : Nat) : (orbList p k).length = k := by simp [orbList]
theorem orbList_at {p : Int × Int} {k i : Nat} {n d : Int} (h : (orbList p k)[i]? = some (n, d)) : i < k ∧ orb p i = (n, d) := by
  have hi : i < k := by
    rcases Nat.lt_or_ge i k with h1 | h1
    · exact h1
    · rw [List.getElem?_eq_none (by rw [orbList_len]; exact h1)] at h; cases h
  unfold orbList at h
  rw [List.getElem?_map, List.getElem?_range hi] at h
  injection h with h
  exact ⟨hi, h⟩
theorem own_of_row {w : World} {lo : Nat} {p : Int × Int} {k : Nat} {A : Option Addr} {cap : Nat} (h : w.ownsRow lo 24 2 (.slice A k cap) k (flat p k)) : AngOwn w lo A (orbList p k) := by
  intro hl
  have hk : 0 < k := by
    rcases Nat.eq_zero_or_pos k with h0 | h0
    · subst h0; exact absurd rfl hl
    · exact h0
  obtain ⟨g, c, hv, hlo, hg⟩ := h.form hk
  obtain ⟨rfl, rfl⟩ : A = some ⟨g, 0, none⟩ ∧ cap = c := by injection hv with hA hn hc; exact ⟨hA, hc⟩
  refine ⟨g, 0, rfl, hlo, hg, fun i n d hi => ?_⟩
  obtain ⟨hik, e⟩ := orbList_at hi
  obtain ⟨f1, f2⟩ := flat_at p hik
  rw [e] at f1 f2
  rw [show 0 + i * 2 = i * 2 by omega]
  exact ⟨(h.cellAt _ (by omega)).trans f1, (h.cellAt _ (by omega)).trans f2, h.frozenAt _, h.frozenAt _⟩

def oL (n d : Int) : List (Int × Int) := if isAng n d then (match findOrb (n, d) 65 0 with | some k => orbList (n, d) k | none => []) else []
def oC (n d : Int) : Int := if isAng n d then (match findOrb (n, d) 65 0 with | some _ => 0 | none => 3) else 1
theorem find_le (p : Int × Int) : ∀ (f j : Nat) {k : Nat}, findOrb p f j = some k → k < f + j ∧ j ≤ k ∧ hit p k = true ∧ ∀ i, j ≤ i → i < k → hit p i = false
  | 0, _, _, h => by simp [findOrb] at h
  | f + 1, j, k, h => by
    simp only [findOrb] at h
    split at h
    · next hh =>
      injection h with h; subst h; exact ⟨by omega, by omega, hh, fun i h1 h2 => absurd h1 (by omega)⟩
    · next hh =>
      obtain ⟨a, b, c, e⟩ := find_le p f (j + 1) h
      refine ⟨by omega, by omega, c, fun i h1 h2 => ?_⟩
      by_cases he : i = j
      · subst he; simpa using hh
      · exact e i (by omega) h2
theorem oL_len (n d : Int) : (oL n d).length ≤ 1000000000000 := by
  unfold oL
  split
  · cases e : findOrb (n, d) 65 0 with
    | none => simp
    | some k => have := find_le _ _ _ e; simp only [orbList_len]; omega
  · simp

end Go.Proofs.Ytlmgpecfbpcgaaa

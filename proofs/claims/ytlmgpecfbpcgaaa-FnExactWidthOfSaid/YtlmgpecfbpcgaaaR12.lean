/-
  Contracts: the partner of an angle, as the program tells it.
-/
import Derived.Test.YtlmgpecfbpcgaaaR11
namespace Go.Proofs.Ytlmgpecfbpcgaaa
open Go.RowKit

/-- What PartnerOf answers. -/
def paA (n d : Int) : Int × Int := if poC n d = 0 then (if eqA (poP n d).1 (poP n d).2.1 n d then ((poP n d).2.2.1, (poP n d).2.2.2) else ((poP n d).1, (poP n d).2.1)) else (0, 0)
theorem pa_cases (n d : Int) : (poC n d ≠ 0 ∧ paA n d = (0, 0)) ∨ (poC n d = 0 ∧ eqA (poP n d).1 (poP n d).2.1 n d = true ∧ paA n d = ((poP n d).2.2.1, (poP n d).2.2.2)) ∨ (poC n d = 0 ∧ eqA (poP n d).1 (poP n d).2.1 n d = false ∧ paA n d = ((poP n d).1, (poP n d).2.1)) := by
  unfold paA
  by_cases h : poC n d = 0
  · cases h2 : eqA (poP n d).1 (poP n d).2.1 n d
    · exact .inr (.inr ⟨h, rfl, by simp [h]⟩)
    · exact .inr (.inl ⟨h, rfl, by simp [h]⟩)
  · exact .inl ⟨h, by simp [h]⟩

end Go.Proofs.Ytlmgpecfbpcgaaa

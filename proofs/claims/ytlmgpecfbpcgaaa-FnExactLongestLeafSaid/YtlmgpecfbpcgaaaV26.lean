/-
  A list of leaves as an argument of a law: opened.
-/
import Derived.Test.YtlmgpecfbpcgaaaV0
import Derived.Test.YtlmgpecfbpcgaaaV4
import Derived.Deep.Slices
namespace Go.Proofs.Ytlmgpecfbpcgaaa
open Go.ChangeShapes Go.WideShapes Go.ChangeAt Go.RowKit Go.Joins Go.Deep

theorem laidOutAll : laidOutB Try.prog = true := by kernel_rfl

theorem cell_in {w : World} {p : Addr} {v : Value} (h : w.cell? p = some v) : p.block < w.heap.size := by
  rcases Nat.lt_or_ge p.block w.heap.size with h1 | h1
  · exact h1
  · simp [World.cell?, Array.getElem?_eq_none h1] at h

section
variable {H : Type} {enc : TypeId × Value → H} {w : World} {base : Nat} {spare : Nat → Bool} {held : Bool}
set_option maxRecDepth 100000 in
theorem openLfS {r : Reach} {b0 : Nat} {v : Value} {d : DataW H} {p : List MemPlace} (hv : Value.okWide Try.prog w r b0 37 v) (h : DataW.Trod enc Try.prog w base spare held 37 v d p) :
    ∃ (A : Option Addr) (len cap : Nat) (l : List Lf4), v = .slice A len cap ∧ LfRow w w.heap.size A l ∧ l.length = len ∧ len ≤ 9223372036854775807 := by
  obtain ⟨A, len, cap, rfl⟩ := okWide_slice Try.underlying37 hv
  obtain ⟨fuel, hf⟩ := h
  rcases open_slice Try.underlying37 hf with ⟨hcs, hx⟩ | ⟨a, len', cap', m, n, D, Pl, hcs, _, hl, hm, hmm, hx, hel⟩
  · simp [Value.cells] at hcs
    obtain ⟨rfl, rfl, rfl⟩ := hcs
    exact ⟨none, 0, 0, [], rfl, fun h => absurd rfl h, rfl, by omega⟩
  · simp [Value.cells] at hcs
    obtain ⟨rfl, rfl, rfl⟩ := hcs
    have hlm : len ≤ m := by rw [hmm]; split <;> omega
    obtain ⟨b, off, spot⟩ := a
    have key : ∀ i, i < len → ∃ x : Lf4, spot = none ∧ w.cell? ⟨b, off + i * 4, none⟩ = some (.int .i64 x.1) ∧ w.cell? ⟨b, off + i * 4 + 1, none⟩ = some (.int .i64 x.2.1) ∧ w.cell? ⟨b, off + i * 4 + 2, none⟩ = some (.int .i64 x.2.2.1) ∧ w.cell? ⟨b, off + i * 4 + 3, none⟩ = some (.int .i64 x.2.2.2) := by
      intro i hi
      obtain ⟨cs', hc, ht⟩ := hel i (by omega)
      rw [cellsLf] at hc
      obtain ⟨_, hl4, hcell⟩ := World.cells?_some hc
      obtain ⟨c0, c1, c2, c3, rfl⟩ : ∃ c0 c1 c2 c3, cs' = [c0, c1, c2, c3] := by
        match cs', hl4 with
        | [c0, c1, c2, c3], _ => exact ⟨c0, c1, c2, c3, rfl⟩
      obtain ⟨y0, y1, n', _, _, h0, h1⟩ := trod_struct2 Try.underlying31 ht
      rw [cellsLfA] at h0 h1
      obtain ⟨x, y, rfl, rfl, _⟩ := openAngC (c0 := c0) (c1 := c1) h0
      obtain ⟨z, u, rfl, rfl, _⟩ := openAngC (c0 := c2) (c1 := c3) h1
      have r0 := hcell 0 (by omega)
      have r1 := hcell 1 (by omega)
      have r2 := hcell 2 (by omega)
      have r3 := hcell 3 (by omega)
      have hspot : spot = none := by
        obtain ⟨cs0, hc0, _⟩ := hel 0 (by omega)
        rw [cellsLf] at hc0
        obtain ⟨_, l0, hcell0⟩ := World.cells?_some hc0
        obtain ⟨u0, u1, u2, u3, rfl⟩ : ∃ c0 c1 c2 c3, cs0 = [c0, c1, c2, c3] := by
          match cs0, l0 with
          | [c0, c1, c2, c3], _ => exact ⟨c0, c1, c2, c3, rfl⟩
        have r00 := hcell0 0 (by omega)
        have s0 := World.cell?_spot r00
        simpa [Addr.add] using s0
      subst hspot
      refine ⟨(x, y, z, u), rfl, ?_, ?_, ?_, ?_⟩
      · simpa [add_plain] using r0
      · simpa [add_plain] using r1
      · simpa [add_plain] using r2
      · simpa [add_plain] using r3
    obtain ⟨L, hL⟩ := choose_lt key
    refine ⟨_, len, cap, (List.range len).map L, rfl, ?_, by simp, by unfold maxLen at hm; omega⟩
    intro hne
    have h0 : 0 < len := by
      rcases Nat.eq_zero_or_pos len with rfl | h
      · exact absurd rfl hne
      · exact h
    obtain ⟨rfl, c0, _⟩ := hL 0 h0
    refine ⟨b, off, rfl, cell_in c0, fun i x y z u hi => ?_⟩
    have hlt : i < len := by
      rcases Nat.lt_or_ge i len with h1 | h1
      · exact h1
      · rw [List.getElem?_eq_none (by simpa using h1)] at hi; cases hi
    rw [List.getElem?_map, List.getElem?_range hlt] at hi
    simp only [Option.map_some, Option.some.injEq] at hi
    have := (hL i hlt).2
    rw [hi] at this
    exact this
end
end Go.Proofs.Ytlmgpecfbpcgaaa

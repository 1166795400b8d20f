/-
  Contracts: the ray pairs of a period, as the model joins them: the loops.
-/
import Derived.Test.YtlmgpecfbpcgaaaR13
namespace Go.Proofs.Ytlmgpecfbpcgaaa
open Go.RowKit

/-- What holds in the model's loops: the list so far, in a row of its own; the angles; the marks of those that are joined (their block: U). -/
structure SJ (w : World) (lo U : Nat) (L : List (Lf4 × Nat)) (A : List (Int × Int)) (N : Nat) (Aa : Option Addr) (M : List (Nat × Nat)) (s0 : Value) (W : World) : Prop where
  own : W.ownsRow lo 91 4 s0 (plOf L A N M).length (flatP ((plOf L A N M).map (·.1)))
  far : ∀ g, s0.ownBlock = some g → g < w.heap.size ∨ U < g
  row : A ≠ [] → ∃ b off, Aa = some ⟨b, off, none⟩ ∧ w.heap.size ≤ b ∧ b < U ∧ ∀ i n d, A[i]? = some (n, d) → W.cell? ⟨b, off + i * 2, none⟩ = some (.int .i64 n) ∧ W.cell? ⟨b, off + i * 2 + 1, none⟩ = some (.int .i64 d)
  uz : U < W.heap.size
  used : ∀ j, j < A.length → ∃ b, W.cell? ⟨U, j, none⟩ = some (.bool b)
  free : ∀ o, W.frozen? ⟨U, o, none⟩ = false
  bel : Below lo w W
  uw : w.heap.size ≤ U
  lw : lo ≤ w.heap.size
theorem cellBelow {W W1 : World} (hb : Below W.heap.size W W1) {p : Addr} {v : Value} (h : W.cell? p = some v) : W1.cell? p = some v := by
  have hlt : p.block < W.heap.size := by
    rcases Nat.lt_or_ge p.block W.heap.size with h1 | h1
    · exact h1
    · simp [World.cell?, Array.getElem?_eq_none h1] at h
  exact (hb.cell hlt).trans h
theorem SJ.next {w W W1 : World} {lo U N : Nat} {L : List (Lf4 × Nat)} {A : List (Int × Int)} {Aa : Option Addr} {M : List (Nat × Nat)} {s0 : Value} (h : SJ w lo U L A N Aa M s0 W) (hb : Below W.heap.size W W1) : SJ w lo U L A N Aa M s0 W1 := by
  refine ⟨ownsKeep h.own hb, h.far, fun hne => ?_, Nat.lt_of_lt_of_le h.uz hb.size, fun j hj => ?_, fun o => frozThru hb h.uz (h.free o), h.bel.trans (hb.mono ?_), h.uw, h.lw⟩
  · obtain ⟨b, off, e, h1, h2, h3⟩ := h.row hne
    exact ⟨b, off, e, h1, h2, fun i n d hi => ⟨cellBelow hb (h3 i n d hi).1, cellBelow hb (h3 i n d hi).2⟩⟩
  · obtain ⟨b, hc⟩ := h.used j hj
    exact ⟨b, cellBelow hb hc⟩
  · exact Nat.le_trans h.lw h.bel.size
theorem SJ.mark {w W : World} {lo U N : Nat} {L : List (Lf4 × Nat)} {A : List (Int × Int)} {Aa : Option Addr} {M : List (Nat × Nat)} {s0 : Value} (h : SJ w lo U L A N Aa M s0 W) (k : Nat) (hk : k < A.length) (t : Bool) : SJ w lo U L A N Aa M s0 (W.setCell ⟨U, k, none⟩ (.bool t)) := by
  refine ⟨ownsRow_setCell_other h.own (fun e => by have := h.far _ e; have := h.uw; dsimp only at *; omega) _, h.far, fun hne => ?_, by simpa using h.uz, fun j hj => ?_, fun o => by simpa using h.free o, h.bel.setCell (Nat.le_trans h.lw h.uw) _, h.uw, h.lw⟩
  · obtain ⟨b, off, e, h1, h2, h3⟩ := h.row hne
    have ne : ∀ x, (⟨U, k, none⟩ : Addr) ≠ ⟨b, x, none⟩ := fun x e => by injection e with e1; omega
    exact ⟨b, off, e, h1, h2, fun i n d hi => ⟨(World.cell?_setCell_other _ _ _ _ (ne _)).trans (h3 i n d hi).1, (World.cell?_setCell_other _ _ _ _ (ne _)).trans (h3 i n d hi).2⟩⟩
  · obtain ⟨b, hc⟩ := h.used j hj
    by_cases hjk : j = k
    · subst hjk; exact ⟨t, World.cell?_setCell_same _ _ _ hc⟩
    · exact ⟨b, (World.cell?_setCell_other _ _ _ _ (fun e => by injection e with _ e1; omega)).trans hc⟩
theorem SJ.app {w W W1 : World} {lo U N i k : Nat} {L : List (Lf4 × Nat)} {A : List (Int × Int)} {Aa : Option Addr} {M : List (Nat × Nat)} {s0 s1 : Value} (h : SJ w lo U L A N Aa M s0 W)
    (hg : W.grownBy W1 s0.ownBlock) (hloc : s1.ownBlock = s0.ownBlock ∨ s1.ownBlock = some W.heap.size)
    (ho : W1.ownsRow lo 91 4 s1 ((plOf L A N M).length + 1) (flatP ((plOf L A N M).map (·.1)) ++ flatP [lfOf (at_ A i) (at_ A k)])) : SJ w lo U L A N Aa (M ++ [(i, k)]) s1 W1 := by
  have nU : some U ≠ s0.ownBlock := fun e => by have := h.far U e.symm; have := h.uw; omega
  have lows : ∀ r, s0.ownBlock = some r → lo ≤ r := fun r e => by
    rcases h.own.2 with ⟨hv, _⟩ | ⟨g0, c0, cur, hv, hv2, _⟩
    · rw [hv] at e; simp [Value.ownBlock] at e
    · rw [hv] at e; simp [Value.ownBlock] at e; omega
  refine ⟨?_, fun g e => ?_, fun hne => ?_, Nat.lt_of_lt_of_le h.uz hg.size, fun j hj => ?_, fun o => ?_, h.bel.grown hg (Nat.le_trans h.lw h.bel.size) lows, h.uw, h.lw⟩
  · rw [plOf_snoc, List.length_append, List.map_append, flatP_app]
    exact ho
  · rcases hloc with e2 | e2
    · exact h.far g (e2 ▸ e)
    · rw [e2] at e
      have := Option.some.inj e
      have := h.uz
      omega
  · obtain ⟨b, off, e, h1, h2, h3⟩ := h.row hne
    have hb : b < W.heap.size := Nat.lt_trans h2 h.uz
    have nb : some b ≠ s0.ownBlock := fun e => by have := h.far b e.symm; omega
    exact ⟨b, off, e, h1, h2, fun i n d hi => ⟨(World.cell?_of_block (hg.block b hb nb)).trans (h3 i n d hi).1, (World.cell?_of_block (hg.block b hb nb)).trans (h3 i n d hi).2⟩⟩
  · obtain ⟨b, hc⟩ := h.used j hj
    exact ⟨b, (World.cell?_of_block (hg.block U h.uz nU)).trans hc⟩
  · exact (World.frozen?_of_block (hg.block U h.uz nU)).trans (h.free o)
/-- The marks from i on are right. -/
def marksOk (U : Nat) (A : List (Int × Int)) (M : List (Nat × Nat)) (i : Nat) (W : World) : Prop := ∀ j, i ≤ j → j < A.length → W.cell? ⟨U, j, none⟩ = some (.bool ((upOf M).contains j))
theorem marksOk.next {U i : Nat} {A : List (Int × Int)} {M : List (Nat × Nat)} {W W1 : World} (h : marksOk U A M i W) (hb : Below W.heap.size W W1) : marksOk U A M i W1 := fun j h1 h2 => cellBelow hb (h j h1 h2)
theorem marksOk.grown {U i : Nat} {A : List (Int × Int)} {M : List (Nat × Nat)} {W W1 : World} {row : Option Nat} (h : marksOk U A M i W) (hg : W.grownBy W1 row) (hU : U < W.heap.size) (hne : some U ≠ row) : marksOk U A M i W1 := fun j h1 h2 => (World.cell?_of_block (hg.block U hU hne)).trans (h j h1 h2)
theorem marksOk.put {U i k q : Nat} {A : List (Int × Int)} {M : List (Nat × Nat)} {W : World} (h : marksOk U A M i W) (hk : k < i) (hq : ∃ b, W.cell? ⟨U, q, none⟩ = some b) : marksOk U A (M ++ [(k, q)]) i ((W.setCell ⟨U, k, none⟩ (.bool true)).setCell ⟨U, q, none⟩ (.bool true)) := by
  intro j h1 h2
  have n1 : (⟨U, k, none⟩ : Addr) ≠ ⟨U, j, none⟩ := fun e => by injection e with _ e1; omega
  by_cases e : j = q
  · subst e
    obtain ⟨b, hb⟩ := hq
    rw [World.cell?_setCell_same _ _ _ ((World.cell?_setCell_other _ _ _ _ n1).trans hb), upOf_snoc]
    simp
  · have n2 : (⟨U, q, none⟩ : Addr) ≠ ⟨U, j, none⟩ := fun e' => by injection e' with _ e1; omega
    rw [World.cell?_setCell_other _ _ _ _ n2, World.cell?_setCell_other _ _ _ _ n1, h j h1 h2, upOf_snoc]
    simp [e]
end Go.Proofs.Ytlmgpecfbpcgaaa

/-
  Contracts: a list of leaves handed from a law to the program: counted, copied.
-/
import Derived.Test.YtnoaahkpcnkbnaaV18
namespace Go.Proofs.Ytnoaahkpcnkbnaa
open Go.RowKit

/-- The first k leaves have been copied into the block g, which has room for n. -/
structure Fill4 (w : World) (g n : Nat) (l : List Lf4) (k : Nat) (W : World) : Prop where
  B : Below w.heap.size w W
  lo : w.heap.size ≤ g
  z : g < W.heap.size
  got : ∀ (i : Nat) (a b c d : Int), i < k → l[i]? = some (a, b, c, d) → Cells4 W g (i * 4) a b c d
  there : ∀ o, o < n * 4 → ∃ v, W.cell? ⟨g, o, none⟩ = some v
  free : ∀ o, W.frozen? ⟨g, o, none⟩ = false
theorem Fill4.next {w W W1 : World} {g n k : Nat} {l : List Lf4} (H : Fill4 w g n l k W) (hb : Below W.heap.size W W1) : Fill4 w g n l k W1 :=
  ⟨belowNext H.B hb, H.lo, Nat.lt_of_lt_of_le H.z hb.size, fun i a b c d hi hx => (H.got i a b c d hi hx).next hb H.z, fun o ho => (H.there o ho).imp fun _ hv => cellThru hb H.z hv, fun o => frozThru hb H.z (H.free o)⟩
theorem Fill4.put {w W : World} {g n k : Nat} {l : List Lf4} {a b c d : Int} (H : Fill4 w g n l k W) (hk : k < n) (hx : l[k]? = some (a, b, c, d)) :
    Fill4 w g n l (k + 1) (set4 W g (k * 4) (.int .i64 a) (.int .i64 b) (.int .i64 c) (.int .i64 d)) := by
  obtain ⟨u0, h0⟩ := H.there (k * 4) (by omega)
  obtain ⟨u1, h1⟩ := H.there (k * 4 + 1) (by omega)
  obtain ⟨u2, h2⟩ := H.there (k * 4 + 2) (by omega)
  obtain ⟨u3, h3⟩ := H.there (k * 4 + 3) (by omega)
  obtain ⟨t0, t1, t2, t3⟩ := set4_got (x0 := .int .i64 a) (x1 := .int .i64 b) (x2 := .int .i64 c) (x3 := .int .i64 d) h0 h1 h2 h3
  refine ⟨?_, H.lo, by simpa [set4] using H.z, fun i a' b' c' d' hi hx' => ?_, fun o ho => ?_, fun o => ?_⟩
  · exact (((H.B.setCell H.lo _).setCell H.lo _).setCell H.lo _).setCell H.lo _
  · by_cases hik : i = k
    · subst hik
      rw [hx] at hx'
      injection hx' with hx'
      simp only [Prod.mk.injEq] at hx'
      obtain ⟨rfl, rfl, rfl, rfl⟩ := hx'
      exact ⟨t0, t1, t2, t3⟩
    · obtain ⟨a1, a2, a3, a4⟩ := H.got i a' b' c' d' (by omega) hx'
      exact ⟨(set4_other (by omega)).trans a1, (set4_other (by omega)).trans a2, (set4_other (by omega)).trans a3, (set4_other (by omega)).trans a4⟩
  · by_cases h : o < k * 4 ∨ k * 4 + 3 < o
    · obtain ⟨v, hv⟩ := H.there o ho
      exact ⟨v, (set4_other h).trans hv⟩
    · rcases (show o = k * 4 ∨ o = k * 4 + 1 ∨ o = k * 4 + 2 ∨ o = k * 4 + 3 by omega) with rfl | rfl | rfl | rfl
      · exact ⟨_, t0⟩
      · exact ⟨_, t1⟩
      · exact ⟨_, t2⟩
      · exact ⟨_, t3⟩
  · simpa [set4] using H.free o

theorem belowGrown {A B : World} (h : A.grownBy B none) : Below A.heap.size A B := ⟨h.os, h.tape, h.output, h.size, fun k hk => h.block k hk (by simp)⟩

end Go.Proofs.Ytnoaahkpcnkbnaa

/-
  A list of angles as an argument of a law: opened, counted, copied, marked.
-/
import Derived.Test.YtnoaahkpcnkbnaaW8
import Derived.Test.YtnoaahkpcnkbnaaOnly
import Derived.Test.YtnoaahkpcnkbnaaV0
import Derived.Deep.Slices
import Derived.OwnWalk
namespace Go.Proofs.Ytnoaahkpcnkbnaa
open Go.ChangeShapes Go.WideShapes Go.ChangeAt Go.RowKit Go.Joins Go.Deep

theorem laidOutAllA : laidOutB Try.prog = true := by kernel_rfl
theorem cell_inA {w : World} {p : Addr} {v : Value} (h : w.cell? p = some v) : p.block < w.heap.size := by
  rcases Nat.lt_or_ge p.block w.heap.size with h1 | h1
  · exact h1
  · simp [World.cell?, Array.getElem?_eq_none h1] at h

section
variable {H : Type} {enc : TypeId × Value → H} {w : World} {base : Nat} {spare : Nat → Bool} {held : Bool}
end

theorem AngOwn.only {b : Nat} {w w' : World} (h : OnlyB b w w') {lo : Nat} {A : Option Addr} {l : List (Int × Int)} (hl : AngOwn w lo A l) (hlo : b < lo) : AngOwn w' lo A l := by
  intro hne
  obtain ⟨g, off, e, h1, h2, hc⟩ := hl hne
  have hgb : ∀ o, (⟨g, o, none⟩ : Addr).block ≠ b := fun o => by show g ≠ b; omega
  refine ⟨g, off, e, h1, by rw [h.1]; exact h2, fun i n d hi => ?_⟩
  obtain ⟨a0, a1, f0, f1⟩ := hc i n d hi
  exact ⟨(h.cell (hgb _)).trans a0, (h.cell (hgb _)).trans a1, (h.frozen (hgb _)).trans f0, (h.frozen (hgb _)).trans f1⟩

theorem infoAg : (Try.prog.info? 32).map (fun i => (i.zero, i.size, i.bytes)) = some (some (.agg #[.int .i64 0, .int .i64 0]), 2, 16) := by kernel_rfl
theorem infoAg_parts {t : TypeId} {z : Value} {s b : Nat} (h : (Try.prog.info? t).map (fun i => (i.zero, i.size, i.bytes)) = some (some z, s, b)) : ∃ i, Try.prog.info? t = some i ∧ i.zero = some z ∧ i.size = s ∧ i.bytes = b := by
  cases hi : Try.prog.info? t with
  | none => rw [hi] at h; cases h
  | some i =>
    rw [hi] at h
    simp only [Option.map_some, Option.some.injEq, Prod.mk.injEq] at h
    exact ⟨i, rfl, h.1, h.2.1, h.2.2⟩
/-- The first k angles have been copied into the block g, which has room for n. -/
structure FillA (w : World) (g n : Nat) (l : List (Int × Int)) (k : Nat) (W : World) : Prop where
  B : Below w.heap.size w W
  lo : w.heap.size ≤ g
  z : g < W.heap.size
  got : ∀ (i : Nat) (a b : Int), i < k → l[i]? = some (a, b) → W.cell? ⟨g, i * 2, none⟩ = some (.int .i64 a) ∧ W.cell? ⟨g, i * 2 + 1, none⟩ = some (.int .i64 b)
  there : ∀ o, o < n * 2 → ∃ v, W.cell? ⟨g, o, none⟩ = some v
  free : ∀ o, W.frozen? ⟨g, o, none⟩ = false
theorem FillA.next {w W W1 : World} {g n k : Nat} {l : List (Int × Int)} (H : FillA w g n l k W) (hb : Below W.heap.size W W1) : FillA w g n l k W1 :=
  ⟨belowNext H.B hb, H.lo, Nat.lt_of_lt_of_le H.z hb.size, fun i a b hi hx => ⟨cellThru hb H.z (H.got i a b hi hx).1, cellThru hb H.z (H.got i a b hi hx).2⟩, fun o ho => (H.there o ho).imp fun _ hv => cellThru hb H.z hv, fun o => frozThru hb H.z (H.free o)⟩
theorem FillA.put {w W : World} {g n k : Nat} {l : List (Int × Int)} {a b : Int} (H : FillA w g n l k W) (hk : k < n) (hx : l[k]? = some (a, b)) :
    FillA w g n l (k + 1) ((W.setCell ⟨g, k * 2, none⟩ (.int .i64 a)).setCell ⟨g, k * 2 + 1, none⟩ (.int .i64 b)) := by
  obtain ⟨u0, h0⟩ := H.there (k * 2) (by omega)
  obtain ⟨u1, h1⟩ := H.there (k * 2 + 1) (by omega)
  have t0 := first2 (x := .int .i64 a) (y := .int .i64 b) (show k * 2 ≠ k * 2 + 1 by omega) h0
  have t1 := second2 (x := .int .i64 a) (y := .int .i64 b) (show k * 2 ≠ k * 2 + 1 by omega) h1
  refine ⟨(H.B.setCell H.lo _).setCell H.lo _, H.lo, by simpa using H.z, fun i a' b' hi hx' => ?_, fun o ho => ?_, fun o => by simpa using H.free o⟩
  · by_cases hik : i = k
    · subst hik
      rw [hx] at hx'
      injection hx' with hx'
      simp only [Prod.mk.injEq] at hx'
      obtain ⟨rfl, rfl⟩ := hx'
      exact ⟨t0, t1⟩
    · obtain ⟨a1, a2⟩ := H.got i a' b' (by omega) hx'
      exact ⟨(other2 (by omega) (by omega)).trans a1, (other2 (by omega) (by omega)).trans a2⟩
  · by_cases h : o = k * 2
    · subst h; exact ⟨_, t0⟩
    · by_cases h2 : o = k * 2 + 1
      · subst h2; exact ⟨_, t1⟩
      · obtain ⟨v, hv⟩ := H.there o ho
        exact ⟨v, (other2 h h2).trans hv⟩
theorem belowGrownA {A B : World} (h : A.grownBy B none) : Below A.heap.size A B := ⟨h.os, h.tape, h.output, h.size, fun k hk => h.block k hk (by simp)⟩

end Go.Proofs.Ytnoaahkpcnkbnaa

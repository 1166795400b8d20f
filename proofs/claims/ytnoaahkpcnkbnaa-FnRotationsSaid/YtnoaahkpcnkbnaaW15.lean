/-
  Contracts: orbits, as the model reckons them.
-/
import Derived.Test.YtnoaahkpcnkbnaaW8
import Derived.Test.YtnoaahkpcnkbnaaW7
import Derived.Test.YtnoaahkpcnkbnaaOrb
import Derived.Deep.DeepCutAuto
import Derived.Deep.AppendLies
import Derived.RangeFuncBox
import Derived.WalkSmall
import Derived.OneCell
namespace Go.Proofs.Ytnoaahkpcnkbnaa
open Go.RowKit

/-- The cells of the first k angles of an orbit. -/
def flat (p : Int × Int) : Nat → List Value
  | 0 => []
  | k + 1 => flat p k ++ [.int .i64 (orb p k).1, .int .i64 (orb p k).2]
theorem flat_len (p : Int × Int) : ∀ k, (flat p k).length = k * 2
  | 0 => rfl
  | k + 1 => by simp [flat, flat_len p k]; omega
theorem flat_at (p : Int × Int) {i : Nat} : ∀ {k : Nat}, i < k → (flat p k)[i * 2]? = some (.int .i64 (orb p i).1) ∧ (flat p k)[i * 2 + 1]? = some (.int .i64 (orb p i).2)
  | 0, h => absurd h (by omega)
  | k + 1, h => by
    by_cases e : i = k
    · subst e
      have hl := flat_len p i
      simp only [flat]
      rw [List.getElem?_append_right (by omega), List.getElem?_append_right (by omega), hl]
      simp
    · have ih := flat_at p (show i < k by omega)
      have hl := flat_len p k
      simp only [flat]
      rw [List.getElem?_append_left (by omega), List.getElem?_append_left (by omega)]
      exact ih
theorem flat_one (p : Int × Int) : ∀ k, ∀ u ∈ flat p k, u.oneCell' = true
  | 0, u, h => by simp [flat] at h
  | k + 1, u, h => by
    simp only [flat, List.mem_append] at h
    rcases h with h | h
    · exact flat_one p k u h
    · simp at h; rcases h with rfl | rfl <;> rfl

theorem storeB {W : World} {g : Nat} {x y X Y : Value} (h0 : W.cell? ⟨g, 0, none⟩ = some x) (h1 : W.cell? ⟨g, 1, none⟩ = some y) :
    ((W.setCell ⟨g, 0, none⟩ X).setCell ⟨g, 1, none⟩ Y).cell? ⟨g, 0, none⟩ = some X ∧ ((W.setCell ⟨g, 0, none⟩ X).setCell ⟨g, 1, none⟩ Y).cell? ⟨g, 1, none⟩ = some Y := by
  have a : (W.setCell ⟨g, 0, none⟩ X).cell? ⟨g, 1, none⟩ = some y := by rw [World.cell?_setCell_other _ _ _ _ (by simp)]; exact h1
  refine ⟨?_, World.cell?_setCell_same _ _ _ a⟩
  rw [World.cell?_setCell_other _ _ _ _ (by simp)]
  exact World.cell?_setCell_same _ _ _ h0

/-- The angle number k is the one behind the preperiod, met again. -/
def hit (p : Int × Int) (k : Nat) : Bool := decide (pre p < k) && eqA (orb p k).1 (orb p k).2 (orb p (pre p)).1 (orb p (pre p)).2
/-- The first such number from k on, looked for so often. -/
def findOrb (p : Int × Int) : Nat → Nat → Option Nat
  | 0, _ => none
  | f + 1, k => if hit p k then some k else findOrb p f (k + 1)

def lenOf : Value → Nat
  | .slice _ n _ => n
  | _ => 0

/-- What holds when k angles have been gathered. -/
def OrbSt (w : World) (p : Int × Int) (k : Nat) (v : Value) (g : Nat) (wr : World) : Prop :=
  k ≤ 64 ∧ wr.ownsRow w.heap.size 32 2 v k (flat p k) ∧ v.ownBlock ≠ some g ∧ wr.cell? ⟨g, 0, none⟩ = some (.int .i64 (orb p k).1) ∧ wr.cell? ⟨g, 1, none⟩ = some (.int .i64 (orb p k).2) ∧
    g < wr.heap.size ∧ Below w.heap.size w wr ∧ findOrb p (65 - k) k = findOrb p 65 0

/-- What the model's orbit answers. -/
def ResOrb (w : World) (p : Int × Int) (e : Ending) (w' : World) : Prop :=
  match findOrb p 65 0 with
  | some k => ∃ A cap, e = .returned (.tuple #[.slice A k cap, .int .i64 (pre p : Int), .bool true]) ∧ w'.ownsRow w.heap.size 32 2 (.slice A k cap) k (flat p k) ∧ Below w.heap.size w w'
  | none => e = .returned (.tuple #[.slice none 0 0, .int .i64 0, .bool false]) ∧ Below w.heap.size w w'

theorem twos_le : ∀ (f : Nat) (d : Int), twos f d ≤ f
  | 0, _ => Nat.le_refl _
  | f + 1, d => by
    simp only [twos]
    split
    · have := twos_le f (d / 2); omega
    · omega
theorem infoA : (Try.prog.info? 32).map (fun i => (i.zero, i.size, i.bytes)) = some (some (.agg #[.int .i64 0, .int .i64 0]), 2, 16) := by kernel_rfl

end Go.Proofs.Ytnoaahkpcnkbnaa

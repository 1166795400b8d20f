/-
  Contracts: lists of angles; sums and doubles.
-/
import Derived.Test.YtdemgialagjomaaW2
namespace Go.Proofs.Ytdemgialagjomaa
open Go.RowKit

theorem retB {a b : Bool} (h : a = b) : Ending.returned (.bool a) = .returned (.bool b) := by rw [h]
theorem retI {k : IntKind} {a b : Int} (h : a = b) : Ending.returned (.int k a) = .returned (.int k b) := by rw [h]

/-- A slice with the address A holds the angles l, in a block below B. -/
def AngRow (w : World) (B : Nat) (A : Option Addr) (l : List (Int × Int)) : Prop :=
  l ≠ [] → ∃ b off, A = some ⟨b, off, none⟩ ∧ b < B ∧ ∀ i n d, l[i]? = some (n, d) → w.cell? ⟨b, off + i * 2, none⟩ = some (.int .i64 n) ∧ w.cell? ⟨b, off + i * 2 + 1, none⟩ = some (.int .i64 d)

theorem AngRow.keep {w w' : World} {B : Nat} {A : Option Addr} {l : List (Int × Int)} (h : AngRow w B A l) (hk : ∀ p : Addr, p.block < B → w'.cell? p = w.cell? p) : AngRow w' B A l := by
  intro hl
  obtain ⟨b, off, e, hb, hc⟩ := h hl
  exact ⟨b, off, e, hb, fun i n d hi => ⟨(hk _ hb).trans (hc i n d hi).1, (hk _ hb).trans (hc i n d hi).2⟩⟩
theorem AngRow.below {w w' : World} {B : Nat} {A : Option Addr} {l : List (Int × Int)} (h : AngRow w B A l) (hb : Below B w w') : AngRow w' B A l := h.keep fun _ hp => hb.cell hp
theorem AngRow.more {w : World} {B B' : Nat} {A : Option Addr} {l : List (Int × Int)} (h : AngRow w B A l) (hB : B ≤ B') : AngRow w B' A l := by
  intro hl
  obtain ⟨b, off, e, hb, hc⟩ := h hl
  exact ⟨b, off, e, by omega, hc⟩

/-- Whether all of a list are angles. -/
def allAng (l : List (Int × Int)) : Bool := l.all fun x => isAng x.1 x.2
theorem allAng_no {l : List (Int × Int)} {k : Nat} {n d : Int} (h : l[k]? = some (n, d)) (hi : isAng n d = false) : allAng l = false := by
  unfold allAng
  rw [List.all_eq_false]
  exact ⟨(n, d), List.mem_of_getElem? h, by simp [hi]⟩
theorem allAng_yes {l : List (Int × Int)} (h : ∀ i, i < l.length → ∃ n d, l[i]? = some (n, d) ∧ isAng n d = true) : allAng l = true := by
  unfold allAng
  rw [List.all_eq_true]
  intro x hx
  obtain ⟨i, hi, rfl⟩ := List.getElem_of_mem hx
  obtain ⟨n, d, e, hd⟩ := h i hi
  rw [List.getElem?_eq_getElem hi] at e
  injection e with e
  rw [e]
  exact hd

end Go.Proofs.Ytdemgialagjomaa

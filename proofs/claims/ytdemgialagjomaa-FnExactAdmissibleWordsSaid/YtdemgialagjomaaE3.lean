/-
  Contracts: whether a sequence is a point of another one, on both sides; written by genE3.py.
-/
import Derived.Test.YtdemgialagjomaaE2
import Derived.Test.YtdemgialagjomaaD6
namespace Go.Proofs.Ytdemgialagjomaa
open Go.RowKit

theorem retBQ {r s : Bool} (h : r = s) : Ending.returned (.bool r) = .returned (.bool s) := by rw [h]
theorem neSq (a b c d : Wd) (W : World) : (binOp .neq 32 (sqV a b) (sqV c d)).run Try.prog W = .ok (.bool (!((a, b) == (c, d)))) W := by
  by_cases h1 : a = c
  · by_cases h2 : b = d
    · subst h1 h2
      simp [go_sem, sqV]
    · subst h1
      simp [go_sem, sqV, bs_toList, h2]
  · simp [go_sem, sqV, bs_toList, h1]

/-- What follows each star is the sequence (a, b). -/
def ptB (a b x y : Wd) : Bool := (List.range (x.length + y.length)).all fun k => !(atL x y k == 42) || (shQ (k + 1) x y == (a, b))
theorem ptB_iff {a b x y : Wd} : ptB a b x y = true ↔ ∀ k, k < x.length + y.length → atL x y k = 42 → shQ (k + 1) x y = (a, b) := by
  unfold ptB
  rw [List.all_eq_true]
  constructor
  · intro h k hk h42
    have := h k (List.mem_range.2 hk)
    simpa [h42] using this
  · intro h k hk
    have hk := List.mem_range.1 hk
    by_cases h42 : atL x y k = 42
    · simp [h42, h k hk h42]
    · simp [h42]

/-- Two boxed sequences, kept. -/
structure PQ (w W : World) (a b x y : Wd) : Prop where
  B : Below w.heap.size w W
  z : w.heap.size + 1 < W.heap.size
  v0 : W.cell? ⟨w.heap.size, 0, none⟩ = some (.string (bs a))
  v1 : W.cell? ⟨w.heap.size, 1, none⟩ = some (.string (bs b))
  s0 : W.cell? ⟨w.heap.size + 1, 0, none⟩ = some (.string (bs x))
  s1 : W.cell? ⟨w.heap.size + 1, 1, none⟩ = some (.string (bs y))
theorem PQ.on {w W w1 : World} {a b x y : Wd} (H : PQ w W a b x y) (hb : Below W.heap.size W w1) : PQ w w1 a b x y := by
  have hz := H.z
  have hs := hb.size
  exact ⟨belowNext H.B hb, by omega, cellThru hb (by omega) H.v0, cellThru hb (by omega) H.v1, cellThru hb hz H.s0, cellThru hb hz H.s1⟩
theorem pq0 (w : World) (a b x y : Wd) (T T' : TypeId) : PQ w ((w.alloc (.cells #[.string (bs a), .string (bs b)] T)).alloc (.cells #[.string (bs x), .string (bs y)] T')) a b x y :=
  ⟨by (repeat' (first | (with_reducible exact Below.refl _ _) | (with_reducible assumption) | (with_reducible refine belowNext ?_ (by with_reducible assumption)) | (with_reducible refine belowAlloc ?_ _) | (with_reducible refine Below.drew ?_) | (with_reducible refine below_drewN ?_ _) | (with_reducible refine Below.setCell ?_ ?_ _) | go_size | (with_reducible refine sizeOf' ?_) | (with_reducible refine sizeAdd ?_) | (dsimp only; first | (with_reducible refine sizeOf' ?_) | (with_reducible refine sizeAdd ?_)))), by simp, by simp [go_sem], by simp [go_sem], by simp [go_sem], by simp [go_sem]⟩
/-- The bytes of a word in a row. -/
theorem bytes_row (w : World) (e : TypeId) (l : Wd) {j : Nat} (hj : j < l.length) : (Lib.bytesWorld w e (bs l)).cell? ⟨w.heap.size, j, none⟩ = some (.int .u8 ((l.getD j 0).toNat : Int)) := by
  have := Lib.bytesWorld_cell w e (bs l) j (by rw [bs_size]; exact hj)
  rw [bs_data] at this
  rw [this]
theorem num42 {c : UInt8} : (c = 42 → (c.toNat : Int) = 42) ∧ (c ≠ 42 → ((c.toNat : Int) == 42) = false ∧ ¬ (c.toNat : Int) = 42) := by
  refine ⟨fun h => by rw [h]; rfl, fun h => ?_⟩
  have : ¬ (c.toNat : Int) = 42 := fun e => h (by
    have e2 : c.toNat = 42 := by omega
    exact UInt8.toNat_inj.1 (by rw [e2]; rfl))
  exact ⟨beq_eq_false_iff_ne.2 this, this⟩

/-- The model's walk: the boxes of both sequences and of what is left. -/
structure PS (w W : World) (a b x y X Y : Wd) : Prop where
  K : PQ w W a b x y
  z : w.heap.size + 1 + 1 < W.heap.size
  n0 : W.cell? ⟨w.heap.size + 1 + 1, 0, none⟩ = some (.string (bs X))
  n1 : W.cell? ⟨w.heap.size + 1 + 1, 1, none⟩ = some (.string (bs Y))
  f0 : W.frozen? ⟨w.heap.size + 1 + 1, 0, none⟩ = false
  f1 : W.frozen? ⟨w.heap.size + 1 + 1, 1, none⟩ = false
theorem PS.on {w W w1 : World} {a b x y X Y : Wd} (H : PS w W a b x y X Y) (hb : Below W.heap.size W w1) : PS w w1 a b x y X Y := by
  have hz := H.z
  have hs := hb.size
  exact ⟨H.K.on hb, by omega, cellThru hb hz H.n0, cellThru hb hz H.n1, frozThru hb hz H.f0, frozThru hb hz H.f1⟩
theorem PS.put {w W : World} {a b x y X Y : Wd} (H : PS w W a b x y X Y) (X' Y' : Wd) : PS w ((W.setCell ⟨w.heap.size + 1 + 1, 0, none⟩ (.string (bs X'))).setCell ⟨w.heap.size + 1 + 1, 1, none⟩ (.string (bs Y'))) a b x y X' Y' := by
  have hz := H.z
  obtain ⟨B, z, v0, v1, s0, s1⟩ := H.K
  have n0 := H.n0
  have n1 := H.n1
  have f0 := H.f0
  have f1 := H.f1
  refine ⟨⟨(B.setCell (by simp; omega) _).setCell (by simp; omega) _, by simpa using z, ?_, ?_, ?_, ?_⟩, by simpa using hz, ?_, ?_, ?_, ?_⟩ <;> simp_all [go_sem]

end Go.Proofs.Ytdemgialagjomaa

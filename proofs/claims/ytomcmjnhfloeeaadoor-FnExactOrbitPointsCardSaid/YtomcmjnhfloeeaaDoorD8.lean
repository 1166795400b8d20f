/-
  Contracts: ShiftSequence, on both sides; the walk of its law.
-/
import Derived.Test.YtomcmjnhfloeeaaDoorD5
import Derived.Test.YtomcmjnhfloeeaaDoorD7
import Derived.StillTailTactics
namespace Go.Proofs.YtomcmjnhfloeeaaDoor
open Go.RowKit

/-- The box of a sequence and, behind it, the cell of a result that is still empty. -/
structure BR (w : World) (x y : Wd) (W : World) : Prop where
  lt : w.heap.size + 1 < W.heap.size
  below : Below w.heap.size w W
  b0 : W.cell? ⟨w.heap.size, 0, none⟩ = some (.string (bs x))
  b1 : W.cell? ⟨w.heap.size, 1, none⟩ = some (.string (bs y))
  c0 : W.cell? ⟨w.heap.size + 1, 0, none⟩ = some (.string ⟨#[]⟩)
  c1 : W.cell? ⟨w.heap.size + 1, 1, none⟩ = some (.string ⟨#[]⟩)
  f0 : W.frozen? ⟨w.heap.size + 1, 0, none⟩ = false
  f1 : W.frozen? ⟨w.heap.size + 1, 1, none⟩ = false
theorem BR.next {w W w1 : World} {x y : Wd} (h : BR w x y W) (hb : Below W.heap.size W w1) : BR w x y w1 := by
  have hl := h.lt
  exact ⟨Nat.lt_of_lt_of_le h.lt hb.size, belowNext h.below hb, cellThru hb (by omega) h.b0, cellThru hb (by omega) h.b1, cellThru hb h.lt h.c0, cellThru hb h.lt h.c1, frozThru hb h.lt h.f0, frozThru hb h.lt h.f1⟩
theorem br0 (w : World) (x y : Wd) (T T' : TypeId) : BR w x y ((w.alloc (.cells #[.string (bs x), .string (bs y)] T)).alloc (.cells #[.string ⟨#[]⟩, .string ⟨#[]⟩] T')) :=
  ⟨by simp, belowAlloc (belowAlloc (Below.refl _ _) _) _, by simp [go_sem], by simp [go_sem], by simp [go_sem], by simp [go_sem], by simp [go_sem], by simp [go_sem]⟩

def shX (x y : Wd) : Wd := if isSeq x y = true then x.drop 1 else []
def shY (x y : Wd) : Wd := if isSeq x y = true then (if x.length = 0 then rot1 y else y) else []
def shC (x y : Wd) : Int := if isSeq x y = true then 0 else 1
theorem sh_no {x y : Wd} (h : isSeq x y = false) : shX x y = [] ∧ shY x y = [] ∧ shC x y = 1 := by
  unfold shX shY shC; rw [h]; simp
theorem sh_pre {x y : Wd} (h : isSeq x y = true) (hx : 0 < x.length) : shX x y = x.drop 1 ∧ shY x y = y ∧ shC x y = 0 := by
  unfold shX shY shC
  rw [if_pos h, if_pos h, if_pos h, if_neg (by omega)]
  exact ⟨rfl, rfl, rfl⟩
theorem sh_per {x y : Wd} (h : isSeq x y = true) (hx : x.length = 0) : shX x y = [] ∧ shY x y = rot1 y ∧ shC x y = 0 := by
  unfold shX shY shC
  rw [if_pos h, if_pos h, if_pos h, if_pos hx, List.eq_nil_of_length_eq_zero hx]
  exact ⟨rfl, rfl, rfl⟩

set_option maxHeartbeats 2000000 in
theorem specSh (x y : Wd) (w : World) (hy0 : 0 < y.length) (hxy : x.length + y.length ≤ 64) :
    Calls Tryd.prog 76 #[sqV x y] w fun e w' => e = .returned (sqV (x.drop 1) (if x.length = 0 then rot1 y else y)) ∧ Below w.heap.size w w' := by
  obtain ⟨y1, y2, y3, y4⟩ := emp_facts x
  have R0 := br0 w x y 25 25
  by_cases hx : 0 < x.length
  · have sl1 := fun W => fromS x 1 1 (by omega) rfl W
    rw [decide_eq_true hx] at y2 y3 y4
    rw [if_neg (by omega)]
    clear hx hxy hy0
    generalize x.drop 1 = x' at *
    go_enter Tryd.func76, Tryd.ntmps76
    obtain ⟨r1, r2, r3, r4, r5, r6, r7, r8⟩ := id R0
    go_wp2_with fail
    go_region
    all_goals go_wp2
    refine bodyPost_ret (v := sqV x' y) (by simp [results, Tryd.results76, go_sem, sqV]) rfl ⟨rfl, ?_⟩
    (repeat' (first | (with_reducible exact Below.refl _ _) | (with_reducible assumption) | (with_reducible refine belowNext ?_ (by with_reducible assumption)) | (with_reducible refine belowAlloc ?_ _) | (with_reducible refine Below.drew ?_) | (with_reducible refine below_drewN ?_ _) | (with_reducible refine Below.setCell ?_ ?_ _) | go_size | (with_reducible refine sizeOf' ?_) | (with_reducible refine sizeAdd ?_) | (dsimp only; first | (with_reducible refine sizeOf' ?_) | (with_reducible refine sizeAdd ?_))))
  · have hx0 : x = [] := List.eq_nil_of_length_eq_zero (by omega)
    have sl1 := fun W => fromS y 1 1 (by omega) rfl W
    have sl2 := fun W => toS y 1 1 (by omega) rfl W
    have sl3 : ∀ W, (Op.stringOp .add (bs (y.drop 1)) (bs (y.take 1))).run Tryd.prog W = .ok (.string (bs (rot1 y))) W := fun W => catO (y.drop 1) (y.take 1) (by rw [List.length_drop, List.length_take]; omega) W
    rw [decide_eq_false hx] at y2 y3 y4
    rw [if_pos (by omega)]
    have hd : x.drop 1 = [] := by rw [hx0]; rfl
    rw [hd]
    clear hx hxy hy0 hx0 hd
    generalize rot1 y = y' at *
    generalize y.drop 1 = a at *
    generalize y.take 1 = b at *
    go_enter Tryd.func76, Tryd.ntmps76
    obtain ⟨r1, r2, r3, r4, r5, r6, r7, r8⟩ := id R0
    go_wp2_with fail
    go_region
    all_goals go_wp2
    refine bodyPost_ret (v := sqV [] y') (by simp [results, Tryd.results76, go_sem, sqV, bs]) rfl ⟨rfl, ?_⟩
    (repeat' (first | (with_reducible exact Below.refl _ _) | (with_reducible assumption) | (with_reducible refine belowNext ?_ (by with_reducible assumption)) | (with_reducible refine belowAlloc ?_ _) | (with_reducible refine Below.drew ?_) | (with_reducible refine below_drewN ?_ _) | (with_reducible refine Below.setCell ?_ ?_ _) | go_size | (with_reducible refine sizeOf' ?_) | (with_reducible refine sizeAdd ?_) | (dsimp only; first | (with_reducible refine sizeOf' ?_) | (with_reducible refine sizeAdd ?_))))

end Go.Proofs.YtomcmjnhfloeeaaDoor

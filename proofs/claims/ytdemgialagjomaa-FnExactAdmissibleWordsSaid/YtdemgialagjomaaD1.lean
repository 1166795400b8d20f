/-
  Contracts: words that have only letters; what a sequence is.
-/
import Derived.Test.YtdemgialagjomaaS6
import Derived.Lib.SlTrimSet
import Derived.Shelf.Strings.SlTrimAscii
namespace Go.Proofs.Ytdemgialagjomaa
open Go.RowKit

theorem dw_nil (p : UInt8 → Bool) : ∀ l : Wd, l.dropWhile p = [] ↔ l.all p = true
  | [] => by simp
  | a :: l => by
    rw [List.dropWhile_cons, List.all_cons]
    cases h : p a
    · simp
    · simpa using dw_nil p l
theorem dw_all (p : UInt8 → Bool) : ∀ l : Wd, (l.dropWhile p).all p = true → l.dropWhile p = []
  | [], _ => rfl
  | a :: l, h => by
    rw [List.dropWhile_cons] at h ⊢
    cases ha : p a
    · rw [ha] at h
      simp [ha] at h
    · rw [ha] at h
      simpa using dw_all p l (by simpa using h)
theorem isLet_mem (c : UInt8) : ([48, 49, 42] : List UInt8).contains c = isLet c := by
  rw [Bool.eq_iff_iff]
  simp [isLet, or_assoc]
theorem trim_nil (l : Wd) : Lib.trimS l [48, 49, 42] = [] ↔ lets l = true := by
  unfold Lib.trimS Lib.trimLeftS Lib.trimRightS lets
  have hp : (fun c : UInt8 => ([48, 49, 42] : List UInt8).contains c) = isLet := funext isLet_mem
  rw [hp, dw_nil, List.all_reverse]
  constructor
  · intro h
    have h2 := dw_all isLet l.reverse h
    have h3 := (dw_nil isLet _).1 h2
    rwa [List.all_reverse] at h3
  · intro h
    have : l.reverse.dropWhile isLet = [] := (dw_nil isLet _).2 (by rw [List.all_reverse]; exact h)
    rw [this]; rfl

theorem lets_take {x : Wd} {k : Nat} (hk : k < x.length) : lets (x.take (k + 1)) = (lets (x.take k) && isLet (x.getD k 0)) := by
  unfold lets
  rw [List.take_add_one, List.all_append, gd_at x hk, List.getElem?_eq_getElem hk]
  simp
theorem lets_no {x : Wd} {k : Nat} (hk : k < x.length) (h : isLet (x.getD k 0) = false) : lets x = false := by
  unfold lets
  rw [Bool.eq_false_iff]
  intro ha
  rw [List.all_eq_true] at ha
  have := ha (x.getD k 0) (by rw [gd_at x hk]; exact List.getElem_mem hk)
  rw [h] at this; cases this
theorem let_int (c : UInt8) : (((c.toNat : Int) == 48) = (c == 48)) ∧ (((c.toNat : Int) == 49) = (c == 49)) ∧ (((c.toNat : Int) == 42) = (c == 42)) :=
  ⟨byte_eq c 48, byte_eq c 49, byte_eq c 42⟩

theorem eqlSq (a b c d : Wd) (W : World) : (binOp .eql 32 (sqV a b) (sqV c d)).run Try.prog W = .ok (.bool ((a, b) == (c, d))) W := by
  by_cases h1 : a = c
  · by_cases h2 : b = d
    · subst h1 h2
      simp [go_sem, sqV]
    · subst h1
      simp [go_sem, sqV, bs_toList, h2]
  · simp [go_sem, sqV, bs_toList, h1]

/-- What is kept through a region: the box of a sequence. -/
theorem keepQ {w W w1 : World} {x y : Wd} (hb : Below W.heap.size W w1) (h : w.heap.size < W.heap.size ∧ Below w.heap.size w W ∧ W.cell? ⟨w.heap.size, 0, none⟩ = some (.string (bs x)) ∧ W.cell? ⟨w.heap.size, 1, none⟩ = some (.string (bs y))) :
    w.heap.size < w1.heap.size ∧ Below w.heap.size w w1 ∧ w1.cell? ⟨w.heap.size, 0, none⟩ = some (.string (bs x)) ∧ w1.cell? ⟨w.heap.size, 1, none⟩ = some (.string (bs y)) := by
  obtain ⟨h1, h2, h3, h4⟩ := h
  exact ⟨Nat.lt_of_lt_of_le h1 hb.size, belowNext h2 hb, cellThru hb h1 h3, cellThru hb h1 h4⟩
theorem keepQ0 {w : World} {x y : Wd} {T : TypeId} : w.heap.size < (w.alloc (.cells #[.string (bs x), .string (bs y)] T)).heap.size ∧ Below w.heap.size w (w.alloc (.cells #[.string (bs x), .string (bs y)] T)) ∧ (w.alloc (.cells #[.string (bs x), .string (bs y)] T)).cell? ⟨w.heap.size, 0, none⟩ = some (.string (bs x)) ∧ (w.alloc (.cells #[.string (bs x), .string (bs y)] T)).cell? ⟨w.heap.size, 1, none⟩ = some (.string (bs y)) := by
  refine ⟨by simp, belowAlloc (Below.refl _ _) _, by simp [go_sem], by simp [go_sem]⟩
theorem isSeq_parts (x y : Wd) : isSeq x y = (lets x && (lets y && (decide (0 < y.length) && (decide (x.length + y.length ≤ 64) && (canon x y == (x, y)))))) := by
  unfold isSeq
  simp only [Bool.and_assoc]
end Go.Proofs.Ytdemgialagjomaa

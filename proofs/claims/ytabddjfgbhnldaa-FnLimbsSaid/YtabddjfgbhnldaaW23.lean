/-
  What the loop that gathers an orbit knows between two rounds, and where it is left.
-/
import Derived.Test.YtabddjfgbhnldaaW22
import Derived.Test.YtabddjfgbhnldaaWO
import Derived.Test.YtabddjfgbhnldaaOrb2
import Derived.Maps.OwnIn
import Derived.Maps.AppendAt
import Derived.DeepKeys4
namespace Go.Proofs.Ytabddjfgbhnldaa
open Go.RowKit

theorem laidOut : laidOutB Try.prog = true := by kernel_rfl
theorem angRowLt : 25 < Try.prog.types.size := of_decide_eq_true (by kernel_rfl)
theorem angAt : Try.prog.keyTypeAt 2 25 = true := by kernel_rfl
theorem angLaw0 : WideMaps.KeyLaw Try.prog 25 := deep_law_laid laidOut (m := 2) (by omega) angRowLt angAt (by rw [Try.underlying25])
theorem angLaw : Maps.Keyed Try.prog 25 := Maps.Keyed.of_law angLaw0
theorem angKeyType : Try.prog.keyType 25 = true := by kernel_rfl
theorem angCells : Try.prog.cellsOf 25 = 2 := by kernel_rfl
theorem intCells : Try.prog.cellsOf 2 = 1 := by kernel_rfl
theorem typesSome : ∃ m, Try.prog.types.size = m + 1 := ⟨Try.prog.types.size - 1, by have : 0 < Try.prog.types.size := of_decide_eq_true (by kernel_rfl); omega⟩
theorem angKey (a b : Int) (ha : (Lit.int .i64 a).wf = true) (hb : (Lit.int .i64 b).wf = true) : keyOf Try.prog 25 (ang a b) = some (kl (a, b)) := by
  obtain ⟨m, hm⟩ := typesSome
  have hf : (ang a b).formed Try.prog 25 = true := by simp [Value.formed, Try.underlying25, angCells]
  have hk : Try.prog.keyLits (Try.prog.types.size + 1) 25 [.int .i64 a, .int .i64 b] = some [.int .i64 a, .int .i64 b] := by
    rw [hm]
    simp [Program.keyLits, Try.underlying25, Try.underlying2, angCells, intCells, ha, hb]
  unfold keyOf
  rw [Try.underlying25]
  simp only [angKeyType, hf, Bool.and_self, if_true]
  rw [show (ang a b).cells.toList = [.int .i64 a, .int .i64 b] from rfl, hk]
  rfl
theorem red_wf {o : Int × Int} (h : Red o) : (Lit.int .i64 o.1).wf = true ∧ (Lit.int .i64 o.2).wf = true := by
  obtain ⟨h1, h2, h3, h4, _⟩ := h
  exact ⟨i64_wf (by omega) (by omega), i64_wf (by omega) (by omega)⟩
theorem kl_inj {a b : Int × Int} (ha : Red a) (hb : Red b) (e : kl a = kl b) : a = b := by
  have h1 := angKey a.1 a.2 (red_wf ha).1 (red_wf ha).2
  have h2 := angKey b.1 b.2 (red_wf hb).1 (red_wf hb).2
  have e' : kl (a.1, a.2) = kl (b.1, b.2) := e
  rw [e'] at h1
  have h3 : ang a.1 a.2 = ang b.1 b.2 := angLaw.inj h1 h2
  simp only [Value.agg.injEq, Array.mk.injEq, List.cons.injEq, Value.int.injEq, true_and, and_true] at h3
  exact Prod.ext h3.1 h3.2

/-- Where it is left: an angle was met again; there were too many. -/
def OrbX (w : World) (p : Int × Int) (s : Nat) : Code → Nat → World → Prop
  | .exit i, _, W => i = 0 ∧ ∃ k, k ≤ 64 ∧ findOrb p 65 0 = some k ∧ (∃ v, Boxed W s 72 v ∧ W.ownsRow w.heap.size 25 2 v k (flat p k)) ∧ Boxed W (s + 1) 2 (.int .i64 (pre p : Int)) ∧
      Boxed W (w.heap.size + 1) 72 (.slice none 0 0) ∧ Boxed W (w.heap.size + 1 + 1) 2 (.int .i64 0) ∧ Boxed W (w.heap.size + 1 + 1 + 1) 2 (.int .i64 0) ∧ Below w.heap.size w W
  | .ret, _, W => findOrb p 65 0 = none ∧ Boxed W (w.heap.size + 1) 72 (.slice none 0 0) ∧ Boxed W (w.heap.size + 1 + 1) 2 (.int .i64 0) ∧ Boxed W (w.heap.size + 1 + 1 + 1) 2 (.int .i64 3) ∧ Below w.heap.size w W
  | _, _, _ => False
/-- The block in which the gathered angles lie. -/
def rowOf (s : Nat) (W : World) : Option Nat := (W.cell? ⟨s, 0, none⟩).bind Value.ownBlock

theorem rowOf_boxed {W : World} {s : Nat} {t : TypeId} {v : Value} (h : Boxed W s t v) : rowOf s W = v.ownBlock := by unfold rowOf; rw [h.cell]; rfl
theorem boxed_ownN {X Y : World} {r : Option Nat} {B : Nat} {t : TypeId} {v : Value} (h : Boxed X B t v) (hg : X.grownBy Y r) (hr : ∀ b, r = some b → ∃ o : Obj, X.heap[b]? = some o ∧ o.isCells = false) : Boxed Y B t v :=
  h.kept hg fun e => by
    obtain ⟨o, ho, hc⟩ := hr B e.symm
    rw [show X.heap[B]? = _ from h] at ho; cases ho; cases hc
theorem row_own {X Y : World} {r : Option Nat} {n0 k : Nat} {e : TypeId} {sz : Nat} {v : Value} {xs : List Value} (h : X.ownsRow n0 e sz v k xs) (hg : X.grownBy Y r) (hr : ∀ b, r = some b → ∃ o : Obj, X.heap[b]? = some o ∧ o.isCells = false) : Y.ownsRow n0 e sz v k xs := by
  refine h.kept hg ?_
  rcases h.2 with ⟨rfl, _⟩ | ⟨g, cap, cur, rfl, _, hgb, _⟩
  · exact .inl rfl
  · refine .inr fun e' => ?_
    obtain ⟨o, ho, hc⟩ := hr g (by simpa [Value.ownBlock] using e'.symm)
    rw [hgb] at ho; cases ho; cases hc
theorem list_own {X Y : World} {r : Option Nat} {n0 k s : Nat} {t e : TypeId} {sz : Nat} {xs : List Value} (h : ∃ v, Boxed X s t v ∧ X.ownsRow n0 e sz v k xs) (hg : X.grownBy Y r) (hr : ∀ b, r = some b → ∃ o : Obj, X.heap[b]? = some o ∧ o.isCells = false) :
    (∃ v, Boxed Y s t v ∧ Y.ownsRow n0 e sz v k xs) ∧ rowOf s Y = rowOf s X := by
  obtain ⟨v, hv, hrow⟩ := h
  have hv' := boxed_ownN hv hg hr
  exact ⟨⟨v, hv', row_own hrow hg hr⟩, (rowOf_boxed hv').trans (rowOf_boxed hv).symm⟩

theorem OrbX.own (w : World) (p : Int × Int) (s D : Nat) (hw : w.heap.size ≤ D) (c : Code) : OwnFrom D (OrbX w p s c) := by
  rintro k X Y r h hg hr
  have hr' : ∀ b, r = some b → ∃ o : Obj, X.heap[b]? = some o ∧ o.isCells = false := fun b e => (hr b e).2
  cases c <;> try exact h
  case exit =>
    obtain ⟨hi, j, hj, h1, h2, h3, h4, h5, h6, h7⟩ := h
    exact ⟨hi, j, hj, h1, (list_own h2 hg hr').1, boxed_ownN h3 hg hr', boxed_ownN h4 hg hr', boxed_ownN h5 hg hr', boxed_ownN h6 hg hr', h7.grown hg h7.size (fun b e => Nat.le_trans hw (hr b e).1)⟩
  case ret =>
    obtain ⟨h1, h2, h3, h4, h5⟩ := h
    exact ⟨h1, boxed_ownN h2 hg hr', boxed_ownN h3 hg hr', boxed_ownN h4 hg hr', h5.grown hg h5.size (fun b e => Nat.le_trans hw (hr b e).1)⟩
/-- One round that goes on, behind its stores: what lay in other blocks lies as it lay. -/
theorem step_other {W W2 w1 : World} {s M : Nat} {v v' : Value} {o : Obj} (h1 : W.grownBy W2 (some M)) (h2 : (W2.alloc o).grownBy w1 v.ownBlock) :
    ∀ B, B < W.heap.size → B ≠ s → B ≠ M → some B ≠ v.ownBlock → (w1.setCell ⟨s, 0, none⟩ v').heap[B]? = W.heap[B]? := by
  intro B hB hs hM hv
  rw [Below.heap_setCell _ _ _ _ hs, h2.block B (by have := h1.size; simp; omega) hv, Below.heap_alloc _ _ _ (by have := h1.size; omega)]
  exact h1.block B hB (by simpa using hM)
theorem row_set {W : World} {n0 k B o : Nat} {t e : TypeId} {sz : Nat} {v u u' : Value} {xs : List Value} (h : W.ownsRow n0 e sz v k xs) (hb : Boxed W B t u) (ht : t ≠ e) : (W.setCell ⟨B, o, none⟩ u').ownsRow n0 e sz v k xs :=
  h.kept (setGrown W B o u') (.inr (hb.not_row ht h).symm)
theorem box_set {W : World} {B C o : Nat} {t : TypeId} {u u' : Value} (h : Boxed W B t u) (hne : B ≠ C) : Boxed (W.setCell ⟨C, o, none⟩ u') B t u := h.kept (setGrown W C o u') (by simpa using hne)
theorem keep_set {W : World} {n1 B o : Nat} {prot : Nat → Prop} {q : Option Nat} {u : Value} (h : B < n1) (hp : ∀ b, ¬ prot b) : KeepX n1 prot q W (W.setCell ⟨B, o, none⟩ u) :=
  KeepX.of_grown (setGrown W B o u) fun b hb _ e => by
    cases e
    rcases hb with hb | hb
    · omega
    · exact hp _ hb
end Go.Proofs.Ytabddjfgbhnldaa

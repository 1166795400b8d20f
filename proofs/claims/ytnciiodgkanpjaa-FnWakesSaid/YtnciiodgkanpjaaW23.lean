/-
  What the loop that gathers an orbit knows between two rounds, and where it is left.
-/
import Derived.Test.YtnciiodgkanpjaaW22
import Derived.Test.YtnciiodgkanpjaaWO
import Derived.Test.YtnciiodgkanpjaaOrb2
import Derived.Maps.OwnIn
import Derived.Maps.AppendAt
import Derived.DeepKeys4
namespace Go.Proofs.Ytnciiodgkanpjaa
open Go.RowKit

theorem laidOut : laidOutB Try.prog = true := by kernel_rfl
theorem angRowLt : 25 < Try.prog.types.size := of_decide_eq_true (by kernel_rfl)
theorem angAt : Try.prog.keyTypeAt 2 25 = true := by kernel_rfl
theorem angLaw0 : WideMaps.KeyLaw Try.prog 25 := deep_law_laid laidOut (m := 2) (by omega) angRowLt angAt (by rw [Try.underlying25])
theorem angLaw : Maps.Keyed Try.prog 25 := Maps.Keyed.of_law angLaw0
theorem angKeyType : Try.prog.keyType 25 = true := by kernel_rfl
theorem angCells : Try.prog.cellsOf 25 = 2 := by kernel_rfl
theorem intCells : Try.prog.cellsOf 2 = 1 := by kernel_rfl
theorem typesSome : ∃ m, Try.prog.types.size = m + 1 := ⟨Try.prog.types.size - 1, by have : 0 < Try.prog.types.size := of_decide_eq_true (by kernel_rfl); omega⟩
theorem angKey (a b : Int) (ha : (Lit.int .i64 a).wf = true) (hb : (Lit.int .i64 b).wf = true) : keyOf Try.prog 25 (ang a b) = some (kl (a, b)) := by
  obtain ⟨m, hm⟩ := typesSome
  have hf : (ang a b).formed Try.prog 25 = true := by simp [Value.formed, Try.underlying25, angCells]
  have hk : Try.prog.keyLits (Try.prog.types.size + 1) 25 [.int .i64 a, .int .i64 b] = some [.int .i64 a, .int .i64 b] := by
    rw [hm]
    simp [Program.keyLits, Try.underlying25, Try.underlying2, angCells, intCells, ha, hb]
  unfold keyOf
  rw [Try.underlying25]
  simp only [angKeyType, hf, Bool.and_self, if_true]
  rw [show (ang a b).cells.toList = [.int .i64 a, .int .i64 b] from rfl, hk]
  rfl
theorem red_wf {o : Int × Int} (h : Red o) : (Lit.int .i64 o.1).wf = true ∧ (Lit.int .i64 o.2).wf = true := by
  obtain ⟨h1, h2, h3, h4, _⟩ := h
  exact ⟨i64_wf (by omega) (by omega), i64_wf (by omega) (by omega)⟩
theorem kl_inj {a b : Int × Int} (ha : Red a) (hb : Red b) (e : kl a = kl b) : a = b := by
  have h1 := angKey a.1 a.2 (red_wf ha).1 (red_wf ha).2
  have h2 := angKey b.1 b.2 (red_wf hb).1 (red_wf hb).2
  have e' : kl (a.1, a.2) = kl (b.1, b.2) := e
  rw [e'] at h1
  have h3 : ang a.1 a.2 = ang b.1 b.2 := angLaw.inj h1 h2
  simp only [Value.agg.injEq, Array.mk.injEq, List.cons.injEq, Value.int.injEq, true_and, and_true] at h3
  exact Prod.ext h3.1 h3.2

/-- Between two rounds: k angles have been gathered, all different. b: the block of the argument's box; s: the first block of the loop's own. -/
structure OrbI (w : World) (p : Int × Int) (s : Nat) (k : Nat) (W : World) : Prop where
  le : k ≤ 64
  apart : apart p k
  list : ∃ v, Boxed W s 27 v ∧ W.ownsRow w.heap.size 25 2 v k (flat p k)
  pre : Boxed W (s + 1) 2 (.int .i64 0)
  map : W.ownsMap Try.prog 25 (plainElem Try.prog 2) (s + 1 + 1) k (mapD p k)
  box : Boxed W (s + 1 + 1 + 1) 91 (.map (some (s + 1 + 1)))
  r0 : Boxed W (w.heap.size + 1) 27 (.slice none 0 0)
  r1 : Boxed W (w.heap.size + 1 + 1) 2 (.int .i64 0)
  r2 : Boxed W (w.heap.size + 1 + 1 + 1) 2 (.int .i64 0)
  below : Below w.heap.size w W
/-- Where it is left: an angle was met again; there were too many. -/
def OrbX (w : World) (p : Int × Int) (s : Nat) : Code → Nat → World → Prop
  | .exit i, _, W => i = 0 ∧ ∃ k, k ≤ 64 ∧ findOrb p 65 0 = some k ∧ (∃ v, Boxed W s 27 v ∧ W.ownsRow w.heap.size 25 2 v k (flat p k)) ∧ Boxed W (s + 1) 2 (.int .i64 (pre p : Int)) ∧
      Boxed W (w.heap.size + 1) 27 (.slice none 0 0) ∧ Boxed W (w.heap.size + 1 + 1) 2 (.int .i64 0) ∧ Boxed W (w.heap.size + 1 + 1 + 1) 2 (.int .i64 0) ∧ Below w.heap.size w W
  | .ret, _, W => findOrb p 65 0 = none ∧ Boxed W (w.heap.size + 1) 27 (.slice none 0 0) ∧ Boxed W (w.heap.size + 1 + 1) 2 (.int .i64 0) ∧ Boxed W (w.heap.size + 1 + 1 + 1) 2 (.int .i64 3) ∧ Below w.heap.size w W
  | _, _, _ => False
/-- The block in which the gathered angles lie. -/
def rowOf (s : Nat) (W : World) : Option Nat := (W.cell? ⟨s, 0, none⟩).bind Value.ownBlock

theorem rowOf_boxed {W : World} {s : Nat} {t : TypeId} {v : Value} (h : Boxed W s t v) : rowOf s W = v.ownBlock := by unfold rowOf; rw [h.cell]; rfl
theorem boxed_ownN {X Y : World} {r : Option Nat} {B : Nat} {t : TypeId} {v : Value} (h : Boxed X B t v) (hg : X.grownBy Y r) (hr : ∀ b, r = some b → ∃ o : Obj, X.heap[b]? = some o ∧ o.isCells = false) : Boxed Y B t v :=
  h.kept hg fun e => by
    obtain ⟨o, ho, hc⟩ := hr B e.symm
    rw [show X.heap[B]? = _ from h] at ho; cases ho; cases hc
theorem row_own {X Y : World} {r : Option Nat} {n0 k : Nat} {e : TypeId} {sz : Nat} {v : Value} {xs : List Value} (h : X.ownsRow n0 e sz v k xs) (hg : X.grownBy Y r) (hr : ∀ b, r = some b → ∃ o : Obj, X.heap[b]? = some o ∧ o.isCells = false) : Y.ownsRow n0 e sz v k xs := by
  refine h.kept hg ?_
  rcases h.2 with ⟨rfl, _⟩ | ⟨g, cap, cur, rfl, _, hgb, _⟩
  · exact .inl rfl
  · refine .inr fun e' => ?_
    obtain ⟨o, ho, hc⟩ := hr g (by simpa [Value.ownBlock] using e'.symm)
    rw [hgb] at ho; cases ho; cases hc
theorem list_own {X Y : World} {r : Option Nat} {n0 k s : Nat} {t e : TypeId} {sz : Nat} {xs : List Value} (h : ∃ v, Boxed X s t v ∧ X.ownsRow n0 e sz v k xs) (hg : X.grownBy Y r) (hr : ∀ b, r = some b → ∃ o : Obj, X.heap[b]? = some o ∧ o.isCells = false) :
    (∃ v, Boxed Y s t v ∧ Y.ownsRow n0 e sz v k xs) ∧ rowOf s Y = rowOf s X := by
  obtain ⟨v, hv, hrow⟩ := h
  have hv' := boxed_ownN hv hg hr
  exact ⟨⟨v, hv', row_own hrow hg hr⟩, (rowOf_boxed hv').trans (rowOf_boxed hv).symm⟩

theorem OrbI.own (w : World) (p : Int × Int) (s D : Nat) (hD : s + 3 < D) (hw : w.heap.size + 3 < s) : ∀ k X Y r, OrbI w p s k X → X.grownBy Y r → (∀ b, r = some b → D ≤ b ∧ some b ≠ rowOf s X) → OrbI w p s k Y ∧ rowOf s Y = rowOf s X := by
  rintro k X Y r h hg hr
  have old : ∀ {B : Nat} {t : TypeId} {v : Value}, Boxed X B t v → B < D → Boxed Y B t v := fun hb hl => hb.kept hg fun e => by have := (hr _ e.symm).1; omega
  obtain ⟨v, hv, hrow⟩ := h.list
  have hv' := old hv (by omega)
  have hrow' : Y.ownsRow w.heap.size 25 2 v k (flat p k) := by
    refine hrow.kept hg ?_
    rcases hrow.2 with ⟨rfl, _⟩ | ⟨g, cap, cur, rfl, _⟩
    · exact .inl rfl
    · refine .inr fun e => ?_
      have := (hr g (by simpa [Value.ownBlock] using e.symm)).2
      rw [rowOf_boxed hv] at this
      exact this rfl
  refine ⟨⟨h.le, h.apart, ⟨v, hv', hrow'⟩, old h.pre (by omega), h.map.kept hg (fun e => ?_), old h.box (by omega), old h.r0 (by omega), old h.r1 (by omega), old h.r2 (by omega), ?_⟩, (rowOf_boxed hv').trans (rowOf_boxed hv).symm⟩
  · have := (hr _ e.symm).1; omega
  · exact h.below.grown hg h.below.size (fun b e => by have := (hr b e).1; omega)
theorem OrbX.own (w : World) (p : Int × Int) (s D : Nat) (hw : w.heap.size ≤ D) (c : Code) : OwnFrom D (OrbX w p s c) := by
  rintro k X Y r h hg hr
  have hr' : ∀ b, r = some b → ∃ o : Obj, X.heap[b]? = some o ∧ o.isCells = false := fun b e => (hr b e).2
  cases c <;> try exact h
  case exit =>
    obtain ⟨hi, j, hj, h1, h2, h3, h4, h5, h6, h7⟩ := h
    exact ⟨hi, j, hj, h1, (list_own h2 hg hr').1, boxed_ownN h3 hg hr', boxed_ownN h4 hg hr', boxed_ownN h5 hg hr', boxed_ownN h6 hg hr', h7.grown hg h7.size (fun b e => Nat.le_trans hw (hr b e).1)⟩
  case ret =>
    obtain ⟨h1, h2, h3, h4, h5⟩ := h
    exact ⟨h1, boxed_ownN h2 hg hr', boxed_ownN h3 hg hr', boxed_ownN h4 hg hr', h5.grown hg h5.size (fun b e => Nat.le_trans hw (hr b e).1)⟩
theorem OrbI.row {w : World} {p : Int × Int} {s k : Nat} {W : World} {r : Nat} (h : OrbI w p s k W) (hr : rowOf s W = some r) : ∃ o : Obj, W.heap[r]? = some o ∧ o.isCells = true := by
  obtain ⟨v, hv, hrow⟩ := h.list
  rw [rowOf_boxed hv] at hr
  rcases hrow.2 with ⟨rfl, _⟩ | ⟨g, cap, cur, rfl, _, hgb, _⟩
  · cases hr
  · obtain rfl : g = r := by simpa [Value.ownBlock] using hr
    exact ⟨_, hgb, rfl⟩

/-- One round that goes on, behind its stores: what lay in other blocks lies as it lay. -/
theorem step_other {W W2 w1 : World} {s M : Nat} {v v' : Value} {o : Obj} (h1 : W.grownBy W2 (some M)) (h2 : (W2.alloc o).grownBy w1 v.ownBlock) :
    ∀ B, B < W.heap.size → B ≠ s → B ≠ M → some B ≠ v.ownBlock → (w1.setCell ⟨s, 0, none⟩ v').heap[B]? = W.heap[B]? := by
  intro B hB hs hM hv
  rw [Below.heap_setCell _ _ _ _ hs, h2.block B (by have := h1.size; simp; omega) hv, Below.heap_alloc _ _ _ (by have := h1.size; omega)]
  exact h1.block B hB (by simpa using hM)
theorem orb_step {w : World} {p : Int × Int} {s k : Nat} {W W2 w1 : World} {v v' : Value} {T1 : TypeId} (h : OrbI w p s k W) (hv : Boxed W s 27 v) (hrow : W.ownsRow w.heap.size 25 2 v k (flat p k)) (hs : w.heap.size + 3 < s)
    (hk : k < 64) (hap : apart p (k + 1)) (hm : W2.ownsMap Try.prog 25 (plainElem Try.prog 2) (s + 1 + 1) (k + 1) (mapD p (k + 1))) (h1 : W.grownBy W2 (some (s + 1 + 1)))
    (ho : w1.ownsRow w.heap.size 25 2 v' (k + 1) (flat p k ++ [.int .i64 (orb p k).1, .int .i64 (orb p k).2])) (h2 : (W2.alloc (.cells #[.int .i64 (orb p k).1, .int .i64 (orb p k).2] T1)).grownBy w1 v.ownBlock)
    (hat : v'.ownBlock = v.ownBlock ∨ v'.ownBlock = some (W2.alloc (.cells #[.int .i64 (orb p k).1, .int .i64 (orb p k).2] T1)).heap.size) (D : Nat) (hD : s + 1 + 1 + 1 < D) (prot : Nat → Prop) (hp : ∀ b, ¬ prot b) :
    KeepX D prot (rowOf s W) W (w1.setCell ⟨s, 0, none⟩ v') ∧ OrbI w p s (k + 1) (w1.setCell ⟨s, 0, none⟩ v') ∧
      (rowOf s (w1.setCell ⟨s, 0, none⟩ v') = rowOf s W ∨ ∀ b, rowOf s (w1.setCell ⟨s, 0, none⟩ v') = some b → W.heap.size ≤ b) := by
  have sz : W.heap.size ≤ (w1.setCell ⟨s, 0, none⟩ v').heap.size := by have := h1.size; have := h2.size; simp [World.setCell] at *; omega
  have st := step_other (s := s) (v' := v') h1 h2
  have old : ∀ {B : Nat} {t : TypeId} {u : Value}, Boxed W B t u → t ≠ 25 → B ≠ s → B ≠ s + 1 + 1 → Boxed (w1.setCell ⟨s, 0, none⟩ v') B t u := fun hb ht h3 h4 =>
    (st _ hb.lt h3 h4 (hb.not_row ht hrow)).trans hb
  have hv2 : Boxed W2 s 27 v := hv.kept h1 (by simp; omega)
  have hrow2 : W2.ownsRow w.heap.size 25 2 v k (flat p k) := hrow.kept h1 (by
    rcases hrow.2 with ⟨rfl, _⟩ | ⟨g, cap, cur, rfl, _, hgb, _⟩
    · exact .inl rfl
    · refine .inr fun e => ?_
      obtain ⟨mo, _, hmo⟩ : ∃ es c, W.heap[s + 1 + 1]? = some (.map es c) := by
        have := h.map
        obtain ⟨es, c, he, _⟩ := this
        exact ⟨es, c, he⟩
      have e' : g = s + 1 + 1 := by simpa [Value.ownBlock] using e
      rw [e', hmo] at hgb
      cases hgb)
  obtain ⟨a1, a2, a3, a4, a5⟩ := hv2.appended (by decide) hrow2 (by have := h.below.size; have := h1.size; omega) (by omega) ho h2
  refine ⟨⟨sz, fun b hb hl hr => ?_⟩, ⟨by omega, hap, ⟨v', a2, a3⟩, old h.pre (by decide) (by omega) (by omega), ?_, old h.box (by decide) (by omega) (by omega), old h.r0 (by decide) (by omega) (by omega), old h.r1 (by decide) (by omega) (by omega), old h.r2 (by decide) (by omega) (by omega), ?_⟩, ?_⟩
  · rcases hb with hb | hb
    · exact st b hl (by omega) (by omega) (by rw [rowOf_boxed hv] at hr; exact hr)
    · exact absurd hb (hp b)
  · have m1 := hm.alloc (.cells #[.int .i64 (orb p k).1, .int .i64 (orb p k).2] T1)
    have m2 := m1.kept h2 (by
      rcases hrow2.2 with ⟨rfl, _⟩ | ⟨g, cap, cur, rfl, _, hgb, _⟩
      · simp [Value.ownBlock]
      · intro e
        obtain ⟨es, c, he, _⟩ := hm
        have e' : s + 1 + 1 = g := by simpa [Value.ownBlock] using e
        rw [← e', he] at hgb
        cases hgb)
    exact m2.setCell (by simp; omega) _
  · have hbw : Below w.heap.size W W2 := (Below.refl _ _).grown h1 h.below.size (fun b e => by cases e; omega)
    exact (h.below.trans hbw).trans a5
  · rw [rowOf_boxed a2, rowOf_boxed hv]
    rcases hat with e | e
    · exact .inl e
    · refine .inr fun b hb => ?_
      rw [e] at hb
      cases hb
      have := h1.size
      simp; omega

theorem row_set {W : World} {n0 k B o : Nat} {t e : TypeId} {sz : Nat} {v u u' : Value} {xs : List Value} (h : W.ownsRow n0 e sz v k xs) (hb : Boxed W B t u) (ht : t ≠ e) : (W.setCell ⟨B, o, none⟩ u').ownsRow n0 e sz v k xs :=
  h.kept (setGrown W B o u') (.inr (hb.not_row ht h).symm)
theorem box_set {W : World} {B C o : Nat} {t : TypeId} {u u' : Value} (h : Boxed W B t u) (hne : B ≠ C) : Boxed (W.setCell ⟨C, o, none⟩ u') B t u := h.kept (setGrown W C o u') (by simpa using hne)
theorem keep_set {W : World} {n1 B o : Nat} {prot : Nat → Prop} {q : Option Nat} {u : Value} (h : B < n1) (hp : ∀ b, ¬ prot b) : KeepX n1 prot q W (W.setCell ⟨B, o, none⟩ u) :=
  KeepX.of_grown (setGrown W B o u) fun b hb _ e => by
    cases e
    rcases hb with hb | hb
    · omega
    · exact hp _ hb
theorem orb_met {w : World} {p : Int × Int} {s k : Nat} {W : World} {v : Value} {c : Int} (h : OrbI w p s k W) (hv : Boxed W s 27 v) (hrow : W.ownsRow w.heap.size 25 2 v k (flat p k)) (hs : w.heap.size + 3 < s)
    (hf : findOrb p 65 0 = some k) (hc : c = (pre p : Int)) (D : Nat) (hD : s + 1 + 1 + 1 < D) (prot : Nat → Prop) (hp : ∀ b, ¬ prot b) :
    KeepX D prot (rowOf s W) W (W.setCell ⟨s + 1, 0, none⟩ (.int .i64 c)) ∧ OrbX w p s (.exit 0) (k + 1) (W.setCell ⟨s + 1, 0, none⟩ (.int .i64 c)) := by
  subst hc
  refine ⟨keep_set (by omega) hp, rfl, k, h.le, hf, ⟨v, box_set hv (by omega), row_set hrow h.pre (by decide)⟩, h.pre.set _, box_set h.r0 (by omega), box_set h.r1 (by omega), box_set h.r2 (by omega), ?_⟩
  exact h.below.setCell (by simp; omega) _
theorem orb_full {w : World} {p : Int × Int} {s k : Nat} {W : World} (h : OrbI w p s k W) (hs : w.heap.size + 3 < s)
    (hf : findOrb p 65 0 = none) (D : Nat) (hD : s + 1 + 1 + 1 < D) (prot : Nat → Prop) (hp : ∀ b, ¬ prot b) :
    KeepX D prot (rowOf s W) W (((W.setCell ⟨w.heap.size + 1, 0, none⟩ (.slice none 0 0)).setCell ⟨w.heap.size + 1 + 1, 0, none⟩ (.int .i64 0)).setCell ⟨w.heap.size + 1 + 1 + 1, 0, none⟩ (.int .i64 3)) ∧
      OrbX w p s .ret (k + 1) (((W.setCell ⟨w.heap.size + 1, 0, none⟩ (.slice none 0 0)).setCell ⟨w.heap.size + 1 + 1, 0, none⟩ (.int .i64 0)).setCell ⟨w.heap.size + 1 + 1 + 1, 0, none⟩ (.int .i64 3)) := by
  refine ⟨((keep_set (by omega) hp).trans (keep_set (by omega) hp)).trans (keep_set (by omega) hp), hf, box_set (box_set (h.r0.set _) (by omega)) (by omega), box_set ((box_set h.r1 (by omega)).set _) (by omega), (box_set (box_set h.r2 (by omega)) (by omega)).set _, ?_⟩
  exact ((h.below.setCell (by simp) _).setCell (by simp; omega) _).setCell (by simp; omega) _
end Go.Proofs.Ytnciiodgkanpjaa

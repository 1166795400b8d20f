/-
  A range over a function that gives out a sequence without an end (or one that is longer than the loop wants it): the loop's own invariant bounds the rounds. No program in sight: any P.
-/
import Derived.RangeFuncNested
import Derived.RangeFuncCalls
import Derived.RangeFuncLeaves
import Derived.RangeFuncBox
import Derived.WalkKit
namespace Go.Proofs.Ytnciiodgkanpjaa
open Go.RowKit

abbrev FW : Fence := Fence.wide

/-- What a round keeps: of the blocks from n1 on, and of those that are named, all but one. -/
def KeepX (n1 : Nat) (prot : Nat → Prop) (r : Option Nat) (W W' : World) : Prop :=
  W.heap.size ≤ W'.heap.size ∧ ∀ b, (n1 ≤ b ∨ prot b) → b < W.heap.size → some b ≠ r → W'.heap[b]? = W.heap[b]?
theorem KeepX.refl (n1 : Nat) (prot : Nat → Prop) (r : Option Nat) (W : World) : KeepX n1 prot r W W := ⟨Nat.le_refl _, fun _ _ _ _ => rfl⟩
theorem KeepX.trans {n1 : Nat} {prot : Nat → Prop} {r : Option Nat} {A B C : World} (h : KeepX n1 prot r A B) (k : KeepX n1 prot r B C) : KeepX n1 prot r A C :=
  ⟨Nat.le_trans h.1 k.1, fun b hb hl hr => (k.2 b hb (Nat.lt_of_lt_of_le hl h.1) hr).trans (h.2 b hb hl hr)⟩
theorem KeepX.of_grown {n1 : Nat} {prot : Nat → Prop} {r s : Option Nat} {A B : World} (h : A.grownBy B s) (hs : ∀ b, (n1 ≤ b ∨ prot b) → some b ≠ r → some b ≠ s) : KeepX n1 prot r A B :=
  ⟨h.size, fun b hb hl hr => h.block b hl (hs b hb hr)⟩
theorem KeepX.of_below {n1 : Nat} {prot : Nat → Prop} {r : Option Nat} {A B : World} (h : Below A.heap.size A B) : KeepX n1 prot r A B := ⟨h.size, fun b _ hl _ => h.block b hl⟩
theorem grown_of_below {A B : World} (h : Below A.heap.size A B) : A.grownBy B none := ⟨h.os, h.tape, h.output, h.size, fun k hk _ => h.block k hk⟩
theorem below_of_grown {A B : World} (h : A.grownBy B none) : Below A.heap.size A B := ⟨h.os, h.tape, h.output, h.size, fun k hk => h.block k hk (by simp)⟩

/-- The contract of a function that gives out 'vals 0', 'vals 1', ..: as far as 'more' tells; the loop's invariant J bounds the rounds by N. -/
def SeqTill (n : Nat) (P : Program) (g : Nat) (lb : Array Value) (vals : Nat → Array Value) (more : Nat → Prop) (N : Nat) (w : World) (prot : Nat → Prop) : Prop :=
  ∀ (l : Nat) (row : World → Option Nat) (J Jx : Nat → World → Prop) (W : World), Below w.heap.size w W →
    (∀ k X Y r, J k X → X.grownBy Y r → (∀ b, r = some b → W.heap.size ≤ b ∧ some b ≠ row X) → J k Y ∧ row Y = row X) → (∀ k X Y, Jx k X → X.grownBy Y none → Jx k Y) →
    (∀ k X, J k X → k < N) → (∀ k X r, J k X → row X = some r → r < X.heap.size) →
    (∀ k X, more k → J k X → YieldAt FW (n - 1) P l (vals k) X fun e Y =>
      (e = .returned (.bool true) ∧ J (k + 1) Y ∧ KeepX W.heap.size prot (row X) X Y ∧ (row Y = row X ∨ ∀ b, row Y = some b → X.heap.size ≤ b)) ∨ (e = .returned (.bool false) ∧ Jx (k + 1) Y)) →
    J 0 W →
    CallsIn FW n P g (#[.func (.yield l) #[] #[]] ++ lb) W fun e Y => (∃ v, e = .returned v) ∧ ((∃ k, ¬ more k ∧ J k Y) ∨ (∃ k, Jx k Y))

/-- How the body of a round may be left. -/
def postX (n1 : Nat) (prot : Nat → Prop) (row : World → Option Nat) (I : Nat → World → Prop) (Ix : Code → Nat → World → Prop) (k : Nat) (W : World) : Exit → Act → World → Prop
  | .normal, _, W' => KeepX n1 prot (row W) W W' ∧ I k W' ∧ (row W' = row W ∨ ∀ b, row W' = some b → W.heap.size ≤ b)
  | .ret, _, W' => KeepX n1 prot (row W) W W' ∧ Ix .ret k W'
  | .exit id, _, W' => KeepX n1 prot (row W) W W' ∧ Ix (.exit id) k W'
  | .goto t, _, W' => KeepX n1 prot (row W) W W' ∧ Ix (.goto t) k W'
  | .panic _, _, _ => False
  | .outgrown, _, _ => False

/-- The two blocks of a loop's book-keeping. -/
def Book (D : Nat) (r : Loop) (W : World) : Prop := W.heap[D + 1]? = some (.loop r) ∧ W.heap[D]? = some (.deferred (some []))
theorem Book.grown {D : Nat} {r : Loop} {A B : World} (h : Book D r A) (g : A.grownBy B none) : Book D r B :=
  ⟨(g.block _ (Array.getElem?_eq_some_iff.1 h.1).1 (by simp)).trans h.1, (g.block _ (Array.getElem?_eq_some_iff.1 h.2).1 (by simp)).trans h.2⟩
theorem Book.keepX {D : Nat} {r : Loop} {prot : Nat → Prop} {q : Option Nat} {A B : World} (h : Book D r A) (k : KeepX D prot q A B) (hq : ∀ b, q = some b → ∃ o : Obj, A.heap[b]? = some o ∧ o.isCells = true) : Book D r B := by
  have hne : ∀ j o, A.heap[j]? = some o → o.isCells = false → some j ≠ q := fun j o hj ho e => by
    obtain ⟨o', h1, h2⟩ := hq j e.symm
    rw [hj] at h1; cases h1; rw [ho] at h2; cases h2
  exact ⟨(k.2 _ (.inl (by omega)) (Array.getElem?_eq_some_iff.1 h.1).1 (hne _ _ h.1 rfl)).trans h.1, (k.2 _ (.inl (Nat.le_refl _)) (Array.getElem?_eq_some_iff.1 h.2).1 (hne _ _ h.2 rfl)).trans h.2⟩
theorem Book.turn {D : Nat} {r : Loop} {A : World} (h : Book D r A) (r' : Loop) : Book D r' (A.putObj (D + 1) (.loop r')) :=
  ⟨World.putObj_heap_same (Array.getElem?_eq_some_iff.1 h.1).1, (World.putObj_heap_other (by omega)).trans h.2⟩
theorem Book.own {β : Type} {I : β → World → Prop} {D : Nat} {r : Loop} {A : World} {s : β} (h : Book D r A) (hI : OwnFrom D I) (i : I s A) (r' : Loop) : I s (A.putObj (D + 1) (.loop r')) :=
  hI.putObj _ i (by omega) h.1 rfl

variable {n : Nat} {P : Program}

theorem wpIn_till {g : Operand} {ps : Array Tmp} {assign body : Code} {Q : Exit → Act → World → Prop} {a : Act} {w : World}
    (h1 : 1 ≤ n) {gf : Nat} {lb : Array Value} (hg : a.eval g = .func (.func gf) #[] lb) (eg : ∀ args w, (callFunc gf args).run P w = .ok (.enter gf args) w)
    {vals : Nat → Array Value} {more : Nat → Prop} {N : Nat} {w0 : World} {prot : Nat → Prop} (hseq : SeqTill (n - 1) P gf lb vals more N w0 prot)
    (hb0 : Below w0.heap.size w0 w) (hps : ∀ k, (vals k).size = ps.size)
    (row : World → Option Nat) (I : Nat → World → Prop) (Ix : Code → Nat → World → Prop)
    (hI : ∀ k X Y r, I k X → X.grownBy Y r → (∀ b, r = some b → w.heap.size ≤ b ∧ some b ≠ row X) → I k Y ∧ row Y = row X) (hIx : ∀ c, OwnFrom w.heap.size (Ix c))
    (hN : ∀ k X, I k X → k < N) (hrow : ∀ k X r, I k X → row X = some r → ∃ o : Obj, X.heap[r]? = some o ∧ o.isCells = true)
    (h0 : I 0 w) (Ax : Nat → Act → World → Prop) (hAx : ∀ k a', OwnFrom w.heap.size (fun (_ : Unit) W => Ax k a' W))
    (hassign : ∀ (l k : Nat) (W : World) (K : Act → World → Prop), w.heap.size ≤ W.heap.size → I k W → more k → (∀ a' W', W.grownBy W' none → Ax k a' W' → K a' W') →
      assign.wpIn (FW.inRound l) (n - 1 - 1) P (Exit.then K (fun _ _ _ => False)) { tmps := (ps.zip (vals k)).foldl (fun t (p, v) => t.setIfInBounds p v) a.tmps, defers := [] } W)
    (hbody : ∀ (l k : Nat) (a' : Act) (W : World), w.heap.size ≤ l → I k W → more k → Ax k a' W → body.wpIn (FW.inRound l) (n - 1 - 1) P (postX w.heap.size prot row I Ix (k + 1) W) a' W)
    (hdone : ∀ (D k : Nat) (W : World), w.heap.size ≤ D → ¬ more k → I k W → W.heap[D]? = some (.deferred (some [])) → Q .normal { a with defers := { target := .collected D, args := #[] } :: a.defers } W)
    (hstop : ∀ (D : Nat) (c : Code) (k : Nat) (W : World), w.heap.size ≤ D → Ix c k W → W.heap[D]? = some (.deferred (some [])) → c.wpIn FW n P Q { a with defers := { target := .collected D, args := #[] } :: a.defers } W) :
    (Code.rangeFunc g ps assign body).wpIn FW n P Q a w := by
  refine wpIn_rangeFunc fun fn hfn => ?_
  generalize hD : w.heap.size = D at *
  obtain ⟨rec, hrec⟩ : ∃ rec : LoopState → Option Code → Loop, rec = fun st pe => { state := st, pending := pe, fn, tmps := a.tmps, params := ps, assign, body, defers := D } := ⟨_, rfl⟩
  have hcut : ∀ {k : Nat} {X Y : World} {q : Option Nat}, I k X → X.grownBy Y q → (∀ b, q = some b → D ≤ b ∧ ∃ o : Obj, X.heap[b]? = some o ∧ o.isCells = false) → I k Y ∧ row Y = row X :=
    fun i gr hq => hI _ _ _ _ i gr fun b e => ⟨(hq b e).1, fun e2 => by
      obtain ⟨o, h1, h2⟩ := (hq b e).2
      obtain ⟨o', h3, h4⟩ := hrow _ _ b i e2.symm
      rw [h1] at h3; cases h3; rw [h2] at h4; cases h4⟩
  have hturn : ∀ {k : Nat} {X : World} {r : Loop}, I k X → Book D r X → ∀ r', I k (X.putObj (D + 1) (.loop r')) ∧ row (X.putObj (D + 1) (.loop r')) = row X :=
    fun i bk r' => hcut i (grownBy_putObj' _ _ _) (fun b e => by cases e; exact ⟨by omega, _, bk.1, rfl⟩)
  obtain ⟨W1, hW1⟩ : ∃ W1, (w.alloc (.deferred (some []))).alloc (.loop (rec .ready none)) = W1 := ⟨_, rfl⟩
  have B1 : Below D w W1 := by
    rw [← hW1]; exact ((Below.refl D w).alloc (by omega) _).alloc (by simp; omega) _
  have hsz : W1.heap.size = D + 2 := by rw [← hW1]; simp; omega
  have bk1 : Book D (rec .ready none) W1 := by
    constructor
    · rw [← hW1]; have := World.alloc_heap_new (w.alloc (.deferred (some []))) (.loop (rec .ready none)); rwa [World.size_alloc, hD] at this
    · rw [← hW1, ← hD]; exact (Below.heap_alloc _ _ _ (by simp)).trans (World.alloc_heap_new w _)
  have i1 : I 0 W1 := by
    subst hD
    exact (hcut h0 (grown_of_below B1) (fun b e => by cases e)).1
  refine ⟨D + 1, [{ target := .collected D, args := #[] }], W1, { target := .fn (.func gf) lb, args := #[.func (.yield (D + 1)) #[] #[]] }, W1, gf,
    #[.func (.yield (D + 1)) #[] #[]] ++ lb, W1, ?_, ?_, fun _ _ => trivial, ?_, fun _ => h1, ?_⟩
  · have := run_enterLoop_outer (P := P) (w := w) fn a.tmps ps assign body
    rw [hD] at this
    rw [← hW1, hrec]; exact this
  · simp only [resolve, hg]
    simp [go_sem]
  · simp [invoke, go_sem, eg]
  · refine (hseq (D + 1) row (fun k W => I k W ∧ Book D (rec .ready none) W) (fun k W => ∃ c, Ix c k W ∧ Book D (rec .done (some c)) W)
      W1 (hb0.trans (B1.mono (by have := hb0.size; omega))) ?_ ?_ (fun k X h => hN k X h.1) ?_ ?_ ⟨i1, bk1⟩).mono ?_
    · rintro k X Y q ⟨i, bk⟩ gr hq
      have := hI k X Y q i gr (fun b e => ⟨by have := (hq b e).1; omega, (hq b e).2⟩)
      have hk : ∀ j, j < X.heap.size → j < D + 2 → Y.heap[j]? = X.heap[j]? := fun j hj hj2 => gr.block j hj fun e => by have := (hq j e.symm).1; omega
      exact ⟨⟨this.1, (hk _ (Array.getElem?_eq_some_iff.1 bk.1).1 (by omega)).trans bk.1, (hk _ (Array.getElem?_eq_some_iff.1 bk.2).1 (by omega)).trans bk.2⟩, this.2⟩
    · rintro k X Y ⟨c, i, bk⟩ gr
      exact ⟨c, hIx c k X Y none i gr (fun b e => by cases e), bk.grown gr⟩
    · rintro k X r ⟨i, _⟩ hr
      obtain ⟨o, ho, _⟩ := hrow k X r i hr
      exact (Array.getElem?_eq_some_iff.1 ho).1
    · rintro k X hm ⟨i, bk⟩
      have hy := run_yield (P := P) (args := vals k) bk.1 (by rw [hrec]; exact hps k)
      rw [hrec] at hy
      refine ⟨fn, _, assign, body, hy, roundIn_of_wpIn hfn (hassign _ k X _ (by have := (Array.getElem?_eq_some_iff.1 bk.1).1; omega) i hm ?_)⟩
      clear hy
      intro a' Wa gra hax
      have bka := bk.grown gra
      obtain ⟨ia, rowa⟩ := hcut i gra (fun b e => by cases e)
      refine ⟨_, run_beginRound bka.1 (by rw [hrec]), ?_⟩
      have bkb := bka.turn { rec .ready none with state := .busy }
      obtain ⟨ib, rowb⟩ := hturn ia bka { rec .ready none with state := .busy }
      have axb := bka.own (s := ()) (hAx k a') hax { rec .ready none with state := .busy }
      have szb : (Wa.putObj (D + 1) (.loop { rec .ready none with state := .busy })).heap.size = Wa.heap.size := World.putObj_size
      refine wpIn_mono (hbody (D + 1) k a' _ (by omega) ib hm axb) ?_
      have hq : ∀ b, row (Wa.putObj (D + 1) (.loop { rec .ready none with state := .busy })) = some b → ∃ o : Obj, (Wa.putObj (D + 1) (.loop { rec .ready none with state := .busy })).heap[b]? = some o ∧ o.isCells = true := fun b e => hrow k _ b ib e
      have fin : ∀ (jump : Option Code) (W3 : World), KeepX D prot (row (Wa.putObj (D + 1) (.loop { rec .ready none with state := .busy }))) (Wa.putObj (D + 1) (.loop { rec .ready none with state := .busy })) W3 →
          (Instr.endRound (D + 1) jump).run P W3 = .ok (.bool jump.isNone) (W3.putObj (D + 1) (.loop (rec (if jump.isNone then .ready else .done) jump))) ∧
          Book D { rec .ready none with state := .busy } W3 ∧ Book D (rec (if jump.isNone then .ready else .done) jump) (W3.putObj (D + 1) (.loop (rec (if jump.isNone then .ready else .done) jump))) := fun jump W3 k3 => by
        have bk3 := bkb.keepX k3 hq
        have := run_endRound (P := P) jump bk3.1
        rw [hrec] at this ⊢
        exact ⟨this, by rw [hrec] at bk3; exact bk3, bk3.turn _⟩
      rintro e a3 W3 hp
      cases e with
      | normal =>
        obtain ⟨k3, i3, r3⟩ := hp
        obtain ⟨hr, bk3, bk4⟩ := fin none W3 k3
        have r4 := (hturn i3 bk3 (rec (if (none : Option Code).isNone then .ready else .done) none)).2
        refine ⟨_, _, hr, .inl ⟨rfl, ⟨(hturn i3 bk3 _).1, bk4⟩, ?_, ?_⟩⟩
        case refine_2 =>
          rcases r3 with r3 | r3
          · exact .inl (r4.trans (r3.trans (rowb.trans rowa)))
          · refine .inr fun b e => ?_
            have := r3 b (r4.symm.trans e)
            rw [szb] at this
            exact Nat.le_trans gra.size this
        refine ⟨Nat.le_trans gra.size (Nat.le_trans (Nat.le_of_eq szb.symm) (Nat.le_trans k3.1 (by simp))), fun b hb hl hne => ?_⟩
        replace hb : D ≤ b ∨ prot b := hb.imp (fun h => by omega) id
        by_cases e : b = D + 1
        · subst e; exact bk4.1.trans bk.1.symm
        · rw [World.putObj_heap_other e, k3.2 b hb (by rw [szb]; exact Nat.lt_of_lt_of_le hl gra.size) (by rw [rowb, rowa]; exact hne), World.putObj_heap_other e]
          exact gra.block b hl (by simp)
      | ret =>
        obtain ⟨k3, i3⟩ := hp
        obtain ⟨hr, bk3, bk4⟩ := fin (some .ret) W3 k3
        exact ⟨_, _, hr, .inr ⟨rfl, .ret, bk3.own (hIx _) i3 _, bk4⟩⟩
      | exit id =>
        obtain ⟨k3, i3⟩ := hp
        obtain ⟨hr, bk3, bk4⟩ := fin (some (.exit id)) W3 k3
        exact ⟨_, _, hr, .inr ⟨rfl, .exit id, bk3.own (hIx _) i3 _, bk4⟩⟩
      | goto t =>
        obtain ⟨k3, i3⟩ := hp
        obtain ⟨hr, bk3, bk4⟩ := fin (some (.goto t)) W3 k3
        exact ⟨_, _, hr, .inr ⟨rfl, .goto t, bk3.own (hIx _) i3 _, bk4⟩⟩
      | panic ch => exact hp.elim
      | outgrown => exact hp.elim
    · rintro e W2 ⟨⟨v, rfl⟩, (⟨k, hk, i, bk⟩ | ⟨k, c, i, bk⟩)⟩
      · exact ⟨none, _, by have := run_endLoop (P := P) bk.1 (by rw [hrec]; simp); rw [hrec] at this; exact this, hdone D k _ (Nat.le_refl _) hk (hturn i bk _).1 (bk.turn _).2⟩
      · exact ⟨some c, _, by have := run_endLoop (P := P) bk.1 (by rw [hrec]; simp); rw [hrec] at this; exact this, hstop D c k _ (Nat.le_refl _) (bk.own (hIx _) i _) (bk.turn _).2⟩
end Go.Proofs.Ytnciiodgkanpjaa

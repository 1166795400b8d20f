/-
  Contracts: the angles that are doubled without an end, given out one by one.
-/
import Derived.Test.YtnciiodgkanpjaaW15
import Derived.Test.YtnciiodgkanpjaaW4
import Derived.Test.YtnciiodgkanpjaaTill
import Derived.OwnWalkIn
import Derived.TacticsInMore
import Derived.LoopNIn
import Derived.LoopIn
import Derived.Sort.LoopGhostIn
import Derived.Shelf.RegionOpen
namespace Go.Proofs.Ytnciiodgkanpjaa
open Go.RowKit Go.Shelf
attribute [local go_sem] Oper.semAt_some

theorem setGrown (W : World) (b o : Nat) (v : Value) : W.grownBy (W.setCell ⟨b, o, none⟩ v) (some b) :=
  ⟨rfl, rfl, rfl, by simp [World.setCell], fun k _ hk => Below.heap_setCell _ _ _ k (fun e => hk (by rw [e]))⟩
theorem grown_trans {A B C : World} {r : Option Nat} (h : A.grownBy B r) (k : B.grownBy C r) : A.grownBy C r :=
  ⟨k.os.trans h.os, k.tape.trans h.tape, k.output.trans h.output, Nat.le_trans h.size k.size, fun i hi hr => (k.block i (Nat.lt_of_lt_of_le hi h.size) hr).trans (h.block i hi hr)⟩
theorem grown_any {A B : World} (h : A.grownBy B none) (r : Option Nat) : A.grownBy B r := ⟨h.os, h.tape, h.output, h.size, fun k hk _ => h.block k hk (by simp)⟩

/-- What the iterator knows between two rounds. -/
def IterSt (p : Int × Int) (n1 : Nat) (row : World → Option Nat) (J : Nat → World → Prop) (k g : Nat) (wr : World) : Prop :=
  J k wr ∧ n1 ≤ g ∧ g < wr.heap.size ∧ some g ≠ row wr ∧ wr.cell? ⟨g, 0, none⟩ = some (.int .i64 (orb p k).1) ∧ wr.cell? ⟨g, 1, none⟩ = some (.int .i64 (orb p k).2) ∧
    wr.frozen? ⟨g, 0, none⟩ = false ∧ wr.frozen? ⟨g, 1, none⟩ = false
theorem ang_bd {p : Int × Int} (h : Red p) (k : Nat) : 1 ≤ (orb p k).2 ∧ (orb p k).2 ≤ 8191 ∧ 0 ≤ (orb p k).1 ∧ (orb p k).1 ≤ 8191 := by
  have := orb_red h k
  unfold Red at this
  omega

theorem fwCall {n : Nat} {P : Program} {f : FuncId} {args : Array Value} {w : World} {R : Ending → World → Prop} (h : Calls P f args w R) : FW.fn f ∧ (FW.depth.isSome = true → 1 ≤ n) ∧ CallsIn FW (n - 1) P f args w R :=
  ⟨trivial, (fun h => (by cases h)), callsIn_wide.2 h⟩
theorem fwCallR {n l : Nat} {P : Program} {f : FuncId} {args : Array Value} {w : World} {R : Ending → World → Prop} (h : Calls P f args w R) : (FW.inRound l).fn f ∧ ((FW.inRound l).depth.isSome = true → 1 ≤ n) ∧ CallsIn (FW.inRound l) (n - 1) P f args w R :=
  ⟨trivial, (fun h => (by cases h)), CallsIn.inRound l (callsIn_wide.2 h)⟩
theorem iter_next {p : Int × Int} {n2 : Nat} {row : World → Option Nat} {J : Nat → World → Prop} {k g : Nat} {W' w2 : World} {x y : Int} {T : TypeId}
    (hJ : ∀ k X Y r, J k X → X.grownBy Y r → (∀ b, r = some b → n2 ≤ b ∧ some b ≠ row X) → J k Y ∧ row Y = row X) (hR : ∀ k X r, J k X → row X = some r → r < X.heap.size)
    (hj : J (k + 1) W') (hg1 : n2 ≤ g) (_hg4 : g < W'.heap.size) (hg5 : some g ≠ row W') (hb2 : Below W'.heap.size W' w2) (ho : orb p (k + 1) = (x, y)) (hn : n2 ≤ w2.heap.size) :
    IterSt p n2 row J (k + 1) w2.heap.size (((w2.setCell ⟨g, 0, none⟩ (.int .i64 x)).setCell ⟨g, 1, none⟩ (.int .i64 y)).alloc (.cells #[.int .i64 x, .int .i64 y] T)) := by
  have g1 : W'.grownBy (((w2.setCell ⟨g, 0, none⟩ (.int .i64 x)).setCell ⟨g, 1, none⟩ (.int .i64 y)).alloc (.cells #[.int .i64 x, .int .i64 y] T)) (some g) :=
    grown_trans (grown_trans (grown_trans (grown_any (grown_of_below hb2) _) (setGrown _ _ _ _)) (setGrown _ _ _ _)) (World.grownBy_alloc _ _ _)
  obtain ⟨j, r⟩ := hJ _ _ _ _ hj g1 (fun b e => by cases e; exact ⟨hg1, hg5⟩)
  refine ⟨j, hn, by simp [World.setCell], ?_, ?_, ?_, ?_, ?_⟩
  · rw [r]
    intro e
    have := hR _ _ _ hj e.symm
    have := hb2.size
    omega
  all_goals simp [go_sem, ho]

set_option maxHeartbeats 2000000 in
theorem dblSeq (n : Nat) (p : Int × Int) (hp : Red p) (Bn N : Nat) (w : World) (hlt : Bn < w.heap.size) (c0 : w.cell? ⟨Bn, 0, none⟩ = some (.int .i64 p.1)) (c1 : w.cell? ⟨Bn, 1, none⟩ = some (.int .i64 p.2)) :
    SeqTill n Try.prog 99 #[.pointer (some ⟨Bn, 0, none⟩)] (fun k => #[ang (orb p k).1 (orb p k).2]) (fun _ => True) N w (fun _ => False) := by
  intro l row J Jx W hW hJ hJx hN hrow hY h0
  have c0' := cellThru hW hlt c0
  have c1' := cellThru hW hlt c1
  clear c0 c1
  have hst : IterSt p W.heap.size row J 0 W.heap.size (W.alloc (.cells #[.int .i64 p.1, .int .i64 p.2] 25)) := by
    obtain ⟨j, r⟩ := hJ 0 W _ none h0 (World.grownBy_alloc W (.cells #[.int .i64 p.1, .int .i64 p.2] 25) none) (fun b e => by cases e)
    refine ⟨j, Nat.le_refl _, by simp, ?_, by simp [go_sem, orb], by simp [go_sem, orb], by simp [go_sem], by simp [go_sem]⟩
    rw [r]
    intro e
    have := hrow 0 W _ h0 e.symm
    omega
  obtain ⟨n2, hn2⟩ : ∃ n2, W.heap.size = n2 := ⟨_, rfl⟩
  have hst : IterSt p n2 row J 0 W.heap.size (W.alloc (.cells #[.int .i64 p.1, .int .i64 p.2] 25)) := by rw [← hn2]; exact hst
  rw [hn2] at hJ hY
  have HS := Lib.hid hst
  have HP := Lib.hid hp
  have HJ := Lib.hid hJ
  have HN := Lib.hid hN
  have HR := Lib.hid hrow
  have HY := Lib.hid hY
  clear hst hp hJ hJx hN hrow hY h0 hn2
  obtain ⟨x, y⟩ := p
  dsimp only at c0' c1' HS
  refine callsIn_of_wp Try.func99 rfl trivial ?_ rfl
  simp only [Try.ntmps99, List.size_toArray, List.length_cons, List.length_nil, Nat.reduceAdd, Nat.reduceSub, Array.replicate_succ, Array.replicate_zero, List.push_toArray, List.append_toArray, List.nil_append, List.cons_append]
  gi_wp2
  gi_loopg [3] N (fun gk q wr => ∃ k g : Nat, q = .pointer (some ⟨g, 0, none⟩) ∧ Hid (IterSt (x, y) n2 row J k g wr ∧ N ≤ gk + k))
  case atStart => exact ⟨0, _, rfl, Lib.hid ⟨HS.out, by omega⟩⟩
  case round =>
    obtain ⟨k, g, rfl, H⟩ := hrel
    obtain ⟨⟨hj, hg1, hg2, hg3, x0, x1, f0, f1⟩, hgk⟩ := H.out
    clear H
    obtain ⟨fn, tmps, assign, body, hy, hR⟩ := HY.out k wr trivial hj
    have hkN := HN.out k wr hj
    have HG := Lib.hid hg3
    have bd := ang_bd HP.out k
    have HD : Hid (orb (x, y) (k + 1) = (redN (2 * (orb (x, y) k).1) (orb (x, y) k).2, redD (2 * (orb (x, y) k).1) (orb (x, y) k).2)) := Lib.hid rfl
    generalize orb (x, y) k = o at *
    obtain ⟨a, b⟩ := o
    dsimp only at *
    obtain ⟨bd1, bd2, bd3, bd4⟩ := bd
    clear hj hg3
    gi_wp2
    refine ⟨(fun h => (by cases h)), ?_⟩
    refine hR.mono ?_
    clear hy hR
    rintro e W' (⟨rfl, hJ', hk, hrw⟩ | ⟨rfl, hJx'⟩)
    · have hb : W'.heap[g]? = wr.heap[g]? := hk.2 g (.inl hg1) hg2 HG.out
      have y0 : W'.cell? ⟨g, 0, none⟩ = some (.int .i64 a) := (World.cell?_of_block hb).trans x0
      have y1 : W'.cell? ⟨g, 1, none⟩ = some (.int .i64 b) := (World.cell?_of_block hb).trans x1
      have e0 : W'.frozen? ⟨g, 0, none⟩ = false := (World.frozen?_of_block hb).trans f0
      have e1 : W'.frozen? ⟨g, 1, none⟩ = false := (World.frozen?_of_block hb).trans f1
      have hg4 : g < W'.heap.size := Nat.lt_of_lt_of_le hg2 hk.1
      have hg5 : some g ≠ row W' := by
        rcases hrw with h | h
        · rw [h]; exact HG.out
        · intro e; have := h g e.symm; omega
      have HX := Lib.hid hJ'
      have HG5 := Lib.hid hg5
      clear hb hk hrw hJ' x0 x1 f0 f1 hg5
      gi_wp2_with fail
      refine fwCall ((implDbl a b _ bd1 bd2 bd3 bd4).mono ?_)
      rintro e w2 ⟨rfl, hb2⟩
      have z0 := cellThru hb2 hg4 y0
      have z1 := cellThru hb2 hg4 y1
      have u0 := frozThru hb2 hg4 e0
      have u1 := frozThru hb2 hg4 e1
      have hg6 : g < w2.heap.size := Nat.lt_of_lt_of_le hg4 hb2.size
      have HI := Lib.hid (fun T => iter_next (T := T) HJ.out HR.out HX.out hg1 hg4 HG5.out hb2 HD.out (by omega))
      clear y0 y1 e0 e1 hb2
      generalize redN (2 * a) b = p at *
      generalize redD (2 * a) b = q at *
      gi_wp2
      gi_roundg (gk - 1)
      case measure => omega
      case rel => exact ⟨k + 1, _, rfl, Lib.hid ⟨HI.out _, by omega⟩⟩
    · gi_wp2
      go_end0
      exact ⟨⟨_, rfl⟩, .inr ⟨k + 1, hJx'⟩⟩
end Go.Proofs.Ytnciiodgkanpjaa

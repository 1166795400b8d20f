/-
  Contracts: the angles that are doubled without an end, given out one by one.
-/
import Derived.Test.YtabddjfgbhnldaaW15
import Derived.Test.YtabddjfgbhnldaaW4
import Derived.Test.YtabddjfgbhnldaaTill
import Derived.OwnWalkIn
import Derived.TacticsInMore
import Derived.LoopNIn
import Derived.LoopIn
import Derived.Sort.LoopGhostIn
import Derived.Shelf.RegionOpen
namespace Go.Proofs.Ytabddjfgbhnldaa
open Go.RowKit Go.Shelf
attribute [local go_sem] Oper.semAt_some

theorem setGrown (W : World) (b o : Nat) (v : Value) : W.grownBy (W.setCell ⟨b, o, none⟩ v) (some b) :=
  ⟨rfl, rfl, rfl, by simp [World.setCell], fun k _ hk => Below.heap_setCell _ _ _ k (fun e => hk (by rw [e]))⟩
theorem grown_trans {A B C : World} {r : Option Nat} (h : A.grownBy B r) (k : B.grownBy C r) : A.grownBy C r :=
  ⟨k.os.trans h.os, k.tape.trans h.tape, k.output.trans h.output, Nat.le_trans h.size k.size, fun i hi hr => (k.block i (Nat.lt_of_lt_of_le hi h.size) hr).trans (h.block i hi hr)⟩
theorem grown_any {A B : World} (h : A.grownBy B none) (r : Option Nat) : A.grownBy B r := ⟨h.os, h.tape, h.output, h.size, fun k hk _ => h.block k hk (by simp)⟩

/-- What the iterator knows between two rounds. -/
def IterSt (p : Int × Int) (n1 : Nat) (row : World → Option Nat) (J : Nat → World → Prop) (k g : Nat) (wr : World) : Prop :=
  J k wr ∧ n1 ≤ g ∧ g < wr.heap.size ∧ some g ≠ row wr ∧ wr.cell? ⟨g, 0, none⟩ = some (.int .i64 (orb p k).1) ∧ wr.cell? ⟨g, 1, none⟩ = some (.int .i64 (orb p k).2) ∧
    wr.frozen? ⟨g, 0, none⟩ = false ∧ wr.frozen? ⟨g, 1, none⟩ = false
theorem ang_bd {p : Int × Int} (h : Red p) (k : Nat) : 1 ≤ (orb p k).2 ∧ (orb p k).2 ≤ 8191 ∧ 0 ≤ (orb p k).1 ∧ (orb p k).1 ≤ 8191 := by
  have := orb_red h k
  unfold Red at this
  omega

theorem fwCall {n : Nat} {P : Program} {f : FuncId} {args : Array Value} {w : World} {R : Ending → World → Prop} (h : Calls P f args w R) : FW.fn f ∧ (FW.depth.isSome = true → 1 ≤ n) ∧ CallsIn FW (n - 1) P f args w R :=
  ⟨trivial, (fun h => (by cases h)), callsIn_wide.2 h⟩
theorem fwCallR {n l : Nat} {P : Program} {f : FuncId} {args : Array Value} {w : World} {R : Ending → World → Prop} (h : Calls P f args w R) : (FW.inRound l).fn f ∧ ((FW.inRound l).depth.isSome = true → 1 ≤ n) ∧ CallsIn (FW.inRound l) (n - 1) P f args w R :=
  ⟨trivial, (fun h => (by cases h)), CallsIn.inRound l (callsIn_wide.2 h)⟩
theorem iter_next {p : Int × Int} {n2 : Nat} {row : World → Option Nat} {J : Nat → World → Prop} {k g : Nat} {W' w2 : World} {x y : Int} {T : TypeId}
    (hJ : ∀ k X Y r, J k X → X.grownBy Y r → (∀ b, r = some b → n2 ≤ b ∧ some b ≠ row X) → J k Y ∧ row Y = row X) (hR : ∀ k X r, J k X → row X = some r → r < X.heap.size)
    (hj : J (k + 1) W') (hg1 : n2 ≤ g) (_hg4 : g < W'.heap.size) (hg5 : some g ≠ row W') (hb2 : Below W'.heap.size W' w2) (ho : orb p (k + 1) = (x, y)) (hn : n2 ≤ w2.heap.size) :
    IterSt p n2 row J (k + 1) w2.heap.size (((w2.setCell ⟨g, 0, none⟩ (.int .i64 x)).setCell ⟨g, 1, none⟩ (.int .i64 y)).alloc (.cells #[.int .i64 x, .int .i64 y] T)) := by
  have g1 : W'.grownBy (((w2.setCell ⟨g, 0, none⟩ (.int .i64 x)).setCell ⟨g, 1, none⟩ (.int .i64 y)).alloc (.cells #[.int .i64 x, .int .i64 y] T)) (some g) :=
    grown_trans (grown_trans (grown_trans (grown_any (grown_of_below hb2) _) (setGrown _ _ _ _)) (setGrown _ _ _ _)) (World.grownBy_alloc _ _ _)
  obtain ⟨j, r⟩ := hJ _ _ _ _ hj g1 (fun b e => by cases e; exact ⟨hg1, hg5⟩)
  refine ⟨j, hn, by simp [World.setCell], ?_, ?_, ?_, ?_, ?_⟩
  · rw [r]
    intro e
    have := hR _ _ _ hj e.symm
    have := hb2.size
    omega
  all_goals simp [go_sem, ho]

end Go.Proofs.Ytabddjfgbhnldaa

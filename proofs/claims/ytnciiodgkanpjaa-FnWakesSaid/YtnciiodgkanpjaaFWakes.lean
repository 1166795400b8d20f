/-
  The law 'FnWakes' proved as it is given: for every input the call returns true and each argument reads as before. No condition.
-/
import Derived.Test.YtnciiodgkanpjaaRows
import Derived.WalkKit
import Derived.ProofKit
import Derived.OpenShut
import Derived.Lib.SmallJoins
import Derived.ChangeOld
import Derived.Below
import Derived.Carry
import Derived.Test.YtnciiodgkanpjaaSeat
import Derived.Test.YtnciiodgkanpjaaWW
import Derived.Test.YtnciiodgkanpjaaDSB
namespace Go.Proofs.Ytnciiodgkanpjaa.fnWakes
open Go.ChangeShapes Go.WideShapes Go.ChangeAt Go.RowKit Go.Joins
set_option linter.unusedVariables false

theorem own : ownKnob Try.prog.godebug = none := by kernel_rfl

set_option maxRecDepth 100000 in
theorem lifted (os : Os) (started : os.Started) (H : Type) (enc : TypeId × Value → H) :
    ReturnsInHanded {} Try.checked os 4 .any (Rows.fnWakesSpec.pre6 enc Try.prog Try.f4 Rows.fnWakesRow.domain false) (Rows.fnWakesSpec.post enc Try.prog Try.f4 false true false false) := by
  refine returnsInHanded_of_change (C := Try.checked) own started (by kernel_rfl) Try.func4
    (ChangeSpec.witness6 (enc := enc) (C := Try.checked) false ⟨#[], #[.slice none 0 0], []⟩ 8 (by kernel_rfl) (by kernel_rfl) (by kernel_rfl) (by kernel_rfl)) ?_
  intro W base args ds gs before hval0 hW hcnd _
  have hval : ∀ (j : Nat) t v, Try.f4.params[j]? = some t → args[j]? = some v → Value.okWide Try.prog W .any base t v := hval0
  have hW' := hW
  obtain ⟨p, q, hA0, hV, rfl, hfz, hnd⟩ := hW
  have hA : DataW.TrodAll enc Try.prog W 0 (fun _ => true) true Try.f4.params.toList args.toList ds p := hA0
  rw [Try.params4] at hA hval
  obtain ⟨v0, vs0, d0, ds0, p0, q0, hargs, rfl, rfl, h0, r0⟩ := trodAll_cons hA
  obtain ⟨rfl, rfl, rfl⟩ := trodAll_nil r0
  obtain rfl : args = #[v0] := by cases args; simp_all
  obtain ⟨rfl, rfl⟩ := trodVars_none hV
  have h0k := h0
  obtain ⟨A0, len0, cap0, rfl, R0⟩ := openCode (hval 0 22 v0 rfl rfl) h0
  have hlt0 : ∀ x ∈ p0, x.block < W.heap.size := fun x hx => hW'.lt x (by simp [hx])
  clear hA0 hval0
  refine (lawWakes A0 len0 cap0 W R0).mono fun e W' ⟨he, bel⟩ => ?_
  subst he
  exact ⟨_, rfl, _, _, _, [], _, [], hW', trodAll_mk1 (shut_bool Try.underlying4 _), (trodAll_cons_mk (Below.trod laidOutAllB (by kernel_rfl) (of_decide_eq_true (by kernel_rfl)) h0k bel hlt0) trodAll_mk0), rfl, bel.frame _, fun h => by cases h⟩

theorem reach : ((Rows.fnWakesRow.inPlace == Try.pinned.checked.prog.inPlace 4) && ((Rows.fnWakesRow.unfollowed == Try.pinned.checked.prog.unfollowed 4) && ((Rows.fnWakesRow.recurses == Try.pinned.checked.prog.recurses 4) && (Rows.fnWakesRow.named == Try.pinned.checked.prog.varsNamed 4)))) = true := by kernel_rfl
theorem facts : joinedFacts Try.pinned.checked.prog 4 Try.f4 Rows.fnWakesSpec Rows.fnWakesRow = true := by
  have h := reach
  simp only [Bool.and_eq_true] at h
  obtain ⟨h1, h2, h3, h4⟩ := h
  have h5 : (Rows.fnWakesRow.lifted == Try.pinned.checked.prog.liftsFinal) = true := seatLift
  have h6 : (Try.pinned.checked.prog.make == some Rows.fnWakesRow.make) = true := seatMake
  simp only [joinedFacts, Bool.and_eq_true]
  and_intros
  all_goals first | with_reducible exact h1 | with_reducible exact h2 | with_reducible exact h3 | with_reducible exact h4 | with_reducible exact seatHeard | with_reducible exact seatMay | with_reducible exact seatLaid1 | with_reducible exact seatRowed | with_reducible exact h5 | with_reducible exact h6 | kernel_rfl
theorem over : Rows.fnWakesRow.holds Try.pinned (OpenSpec.ofChange Rows.fnWakesSpec) :=
  OpenClaim.holds_of_wide 4 Try.f4 rfl rfl rfl rfl rfl rfl rfl ⟨rfl, rfl, rfl, rfl, rfl⟩ rfl rfl rfl rfl rfl (by kernel_rfl) Try.func4 facts
    (of_decide_eq_true (by kernel_rfl)) (by unfold Func.isWrapper; rw [if_neg (of_decide_eq_false (by kernel_rfl))]; exact ⟨rfl, rfl⟩)
    (fun os started H enc _ => lifted os started H enc)

/-- The statement. -/
theorem proved : Rows.FnWakesSaid := over
end Go.Proofs.Ytnciiodgkanpjaa.fnWakes

/-
  The law 'FnExactOppositeAngle' proved as it is given: for every input the call returns true and each argument reads as before. No condition.
-/
import Derived.Test.YtabddjfgbhnldaaRows
import Derived.WalkKit
import Derived.ProofKit
import Derived.OpenShut
import Derived.Lib.SmallJoins
import Derived.ChangeOld
import Derived.Below
import Derived.Carry
import Derived.Test.YtabddjfgbhnldaaSeat
import Derived.Test.YtabddjfgbhnldaaOP
namespace Go.Proofs.Ytabddjfgbhnldaa.fnExactOppositeAngle
open Go.ChangeShapes Go.WideShapes Go.ChangeAt Go.RowKit Go.Joins
set_option linter.unusedVariables false

theorem own : ownKnob Try.prog.godebug = none := by kernel_rfl
theorem cellsA : Try.prog.cellsOf 39 = 2 := by kernel_rfl

set_option maxRecDepth 100000 in
theorem lifted (os : Os) (started : os.Started) (H : Type) (enc : TypeId × Value → H) :
    ReturnsInHanded {} Try.checked os 6 .any (Rows.fnExactOppositeAngleSpec.pre6 enc Try.prog Try.f6 Rows.fnExactOppositeAngleRow.domain false) (Rows.fnExactOppositeAngleSpec.post enc Try.prog Try.f6 false true false false) := by
  refine returnsInHanded_of_change (C := Try.checked) own started (by kernel_rfl) Try.func6
    (ChangeSpec.witness6 (enc := enc) (C := Try.checked) false ⟨#[], #[.agg #[.int .i64 0, .int .i64 0]], []⟩ 8 (by kernel_rfl) (by kernel_rfl) (by kernel_rfl) (by kernel_rfl)) ?_
  intro W base args ds gs before hval0 hW hcnd _
  have hval : ∀ (j : Nat) t v, Try.f6.params[j]? = some t → args[j]? = some v → Value.okWide Try.prog W .any base t v := hval0
  have hW' := hW
  obtain ⟨p, q, hA0, hV, rfl, hfz, hnd⟩ := hW
  have hA : DataW.TrodAll enc Try.prog W 0 (fun _ => true) true Try.f6.params.toList args.toList ds p := hA0
  rw [Try.params6] at hA hval
  obtain ⟨v0, vs0, d0, ds0, p0, q0, hargs, rfl, rfl, h0, r0⟩ := trodAll_cons hA
  obtain ⟨rfl, rfl, rfl⟩ := trodAll_nil r0
  obtain rfl : args = #[v0] := by cases args; simp_all
  obtain ⟨rfl, rfl⟩ := trodVars_none hV
  obtain ⟨c0a, c0b, y0a, y0b, m0, rfl, rfl, rfl, hy0a, hy0b⟩ := open_agg2 Try.underlying39 (by kernel_rfl) cellsA (hval 0 39 v0 rfl rfl) h0
  obtain ⟨a0, e0a, rfl, wa0⟩ := DataW.trod_int Try.underlying2 hy0a
  obtain ⟨b0, e0b, rfl, wb0⟩ := DataW.trod_int Try.underlying2 hy0b
  simp at e0a e0b
  subst e0a e0b
  have shut0 : ∀ (W' : World) (sp : Nat → Bool), DataW.Trod enc Try.prog W' 0 sp true 39 (.agg #[.int .i64 a0, .int .i64 b0]) (.agg [.lit (.int .i64 a0), .lit (.int .i64 b0)]) [] := fun W' sp =>
    shut_agg2 (y0 := (.lit (.int .i64 a0), [])) (y1 := (.lit (.int .i64 b0), [])) Try.underlying39 (by kernel_rfl) cellsA ⟨1, by simp [DataW.trod, Try.underlying2, wa0]⟩ ⟨1, by simp [DataW.trod, Try.underlying2, wb0]⟩
  clear hA0 hval0
  refine (lawOppositeAngle a0 b0 wa0 wb0 W).mono fun e W' ⟨he, bel⟩ => ?_
  subst he
  exact ⟨_, rfl, _, _, _, [], _, [], hW', trodAll_mk1 (shut_bool Try.underlying4 _), (trodAll_cons_mk (shut0 _ _) trodAll_mk0), rfl, bel.frame _, fun h => by cases h⟩

theorem reach : ((Rows.fnExactOppositeAngleRow.inPlace == Try.pinned.checked.prog.inPlace 6) && ((Rows.fnExactOppositeAngleRow.unfollowed == Try.pinned.checked.prog.unfollowed 6) && ((Rows.fnExactOppositeAngleRow.recurses == Try.pinned.checked.prog.recurses 6) && (Rows.fnExactOppositeAngleRow.named == Try.pinned.checked.prog.varsNamed 6)))) = true := by kernel_rfl
theorem facts : joinedFacts Try.pinned.checked.prog 6 Try.f6 Rows.fnExactOppositeAngleSpec Rows.fnExactOppositeAngleRow = true := by
  have h := reach
  simp only [Bool.and_eq_true] at h
  obtain ⟨h1, h2, h3, h4⟩ := h
  have h5 : (Rows.fnExactOppositeAngleRow.lifted == Try.pinned.checked.prog.liftsFinal) = true := seatLift
  have h6 : (Try.pinned.checked.prog.make == some Rows.fnExactOppositeAngleRow.make) = true := seatMake
  simp only [joinedFacts, Bool.and_eq_true]
  and_intros
  all_goals first | with_reducible exact h1 | with_reducible exact h2 | with_reducible exact h3 | with_reducible exact h4 | with_reducible exact seatHeard | with_reducible exact seatMay | with_reducible exact seatLaid1 | with_reducible exact seatRowed | with_reducible exact h5 | with_reducible exact h6 | kernel_rfl
theorem over : Rows.fnExactOppositeAngleRow.holds Try.pinned (OpenSpec.ofChange Rows.fnExactOppositeAngleSpec) :=
  OpenClaim.holds_of_wide 6 Try.f6 rfl rfl rfl rfl rfl rfl rfl ⟨rfl, rfl, rfl, rfl, rfl⟩ rfl rfl rfl rfl rfl (by kernel_rfl) Try.func6 facts
    (of_decide_eq_true (by kernel_rfl)) (by unfold Func.isWrapper; rw [if_neg (of_decide_eq_false (by kernel_rfl))]; exact ⟨rfl, rfl⟩)
    (fun os started H enc _ => lifted os started H enc)

/-- The statement. -/
theorem proved : Rows.FnExactOppositeAngleSaid := over
end Go.Proofs.Ytabddjfgbhnldaa.fnExactOppositeAngle

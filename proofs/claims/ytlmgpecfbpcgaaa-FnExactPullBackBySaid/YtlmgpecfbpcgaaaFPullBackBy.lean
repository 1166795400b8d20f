/-
  The law 'FnExactPullBackBy' proved as it is given: for every input the call returns true and each argument reads as before. No condition.
-/
import Derived.Test.YtlmgpecfbpcgaaaRows
import Derived.WalkKit
import Derived.ProofKit
import Derived.OpenShut
import Derived.Lib.SmallJoins
import Derived.ChangeOld
import Derived.Below
import Derived.Carry
import Derived.Test.YtlmgpecfbpcgaaaSeat
import Derived.Test.YtlmgpecfbpcgaaaV0
import Derived.Test.YtlmgpecfbpcgaaaMP
namespace Go.Proofs.Ytlmgpecfbpcgaaa.fnExactPullBackBy
open Go.ChangeShapes Go.WideShapes Go.ChangeAt Go.RowKit Go.Joins
set_option linter.unusedVariables false

theorem own : ownKnob Try.prog.godebug = none := by kernel_rfl

set_option maxRecDepth 100000 in
theorem lifted (os : Os) (started : os.Started) (H : Type) (enc : TypeId × Value → H) :
    ReturnsInHanded {} Try.checked os 8 .any (Rows.fnExactPullBackBySpec.pre6 enc Try.prog Try.f8 Rows.fnExactPullBackByRow.domain false) (Rows.fnExactPullBackBySpec.post enc Try.prog Try.f8 false true false false) := by
  refine returnsInHanded_of_change (C := Try.checked) own started (by kernel_rfl) Try.func8
    (ChangeSpec.witness6 (enc := enc) (C := Try.checked) false ⟨#[], #[.agg #[.int .i64 0, .int .i64 0, .int .i64 0, .int .i64 0], .agg #[.int .i64 0, .int .i64 0, .int .i64 0, .int .i64 0]], []⟩ 8 (by kernel_rfl) (by kernel_rfl) (by kernel_rfl) (by kernel_rfl)) ?_
  intro W base args ds gs before hval0 hW hcnd _
  have hval : ∀ (j : Nat) t v, Try.f8.params[j]? = some t → args[j]? = some v → Value.okWide Try.prog W .any base t v := hval0
  have hW' := hW
  obtain ⟨p, q, hA0, hV, rfl, hfz, hnd⟩ := hW
  have hA : DataW.TrodAll enc Try.prog W 0 (fun _ => true) true Try.f8.params.toList args.toList ds p := hA0
  rw [Try.params8] at hA hval
  obtain ⟨v0, vs0, d0, ds0, p0, q0, hargs, rfl, rfl, h0, r0⟩ := trodAll_cons hA
  obtain ⟨v1, vs1, d1, ds1, p1, q1, rfl, rfl, rfl, h1, r1⟩ := trodAll_cons r0
  obtain ⟨rfl, rfl, rfl⟩ := trodAll_nil r1
  obtain rfl : args = #[v0, v1] := by cases args; simp_all
  obtain ⟨rfl, rfl⟩ := trodVars_none hV
  obtain ⟨a0, b0, c0, e0, rfl, rfl, rfl, wa0, wb0, wc0, we0⟩ := openLf (hval 0 31 v0 rfl rfl) h0
  obtain ⟨a1, b1, c1, e1, rfl, rfl, rfl, wa1, wb1, wc1, we1⟩ := openLf (hval 1 31 v1 rfl rfl) h1
  clear hA0 hval0
  refine (lawPullBackBy a0 b0 c0 e0 wa0 wb0 wc0 we0 a1 b1 c1 e1 wa1 wb1 wc1 we1 W).mono fun e W' ⟨he, bel⟩ => ?_
  subst he
  exact ⟨_, rfl, _, _, _, [], _, [], hW', trodAll_mk1 (shut_bool Try.underlying4 _), (trodAll_cons_mk (shutLf wa0 wb0 wc0 we0) (trodAll_cons_mk (shutLf wa1 wb1 wc1 we1) trodAll_mk0)), rfl, bel.frame _, fun h => by cases h⟩

theorem reach : ((Rows.fnExactPullBackByRow.inPlace == Try.pinned.checked.prog.inPlace 8) && ((Rows.fnExactPullBackByRow.unfollowed == Try.pinned.checked.prog.unfollowed 8) && ((Rows.fnExactPullBackByRow.recurses == Try.pinned.checked.prog.recurses 8) && (Rows.fnExactPullBackByRow.named == Try.pinned.checked.prog.varsNamed 8)))) = true := by kernel_rfl
theorem facts : joinedFacts Try.pinned.checked.prog 8 Try.f8 Rows.fnExactPullBackBySpec Rows.fnExactPullBackByRow = true := by
  have h := reach
  simp only [Bool.and_eq_true] at h
  obtain ⟨h1, h2, h3, h4⟩ := h
  have h5 : (Rows.fnExactPullBackByRow.lifted == Try.pinned.checked.prog.liftsFinal) = true := seatLift
  have h6 : (Try.pinned.checked.prog.make == some Rows.fnExactPullBackByRow.make) = true := seatMake
  simp only [joinedFacts, Bool.and_eq_true]
  and_intros
  all_goals first | with_reducible exact h1 | with_reducible exact h2 | with_reducible exact h3 | with_reducible exact h4 | with_reducible exact seatHeard | with_reducible exact seatMay | with_reducible exact seatLaid1 | with_reducible exact seatRowed | with_reducible exact h5 | with_reducible exact h6 | kernel_rfl
theorem over : Rows.fnExactPullBackByRow.holds Try.pinned (OpenSpec.ofChange Rows.fnExactPullBackBySpec) :=
  OpenClaim.holds_of_wide 8 Try.f8 rfl rfl rfl rfl rfl rfl rfl ⟨rfl, rfl, rfl, rfl, rfl⟩ rfl rfl rfl rfl rfl (by kernel_rfl) Try.func8 facts
    (of_decide_eq_true (by kernel_rfl)) (by unfold Func.isWrapper; rw [if_neg (of_decide_eq_false (by kernel_rfl))]; exact ⟨rfl, rfl⟩)
    (fun os started H enc _ => lifted os started H enc)

/-- The statement. -/
theorem proved : Rows.FnExactPullBackBySaid := over
end Go.Proofs.Ytlmgpecfbpcgaaa.fnExactPullBackBy

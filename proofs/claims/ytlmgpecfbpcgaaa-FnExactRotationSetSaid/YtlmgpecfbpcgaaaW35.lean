/-
  Maps whose keys are angles: what the keys are.
-/
import Derived.Test.YtlmgpecfbpcgaaaW34
import Derived.Test.YtlmgpecfbpcgaaaOrb2
import Derived.Maps.OwnIn
import Derived.Maps.AppendAt
import Derived.DeepKeys4
import Derived.Maps.OwnSet
import Derived.WalkMore
namespace Go.Proofs.Ytlmgpecfbpcgaaa
open Go.RowKit

theorem laidOutS : laidOutB Try.prog = true := by kernel_rfl
theorem angRowLtS : 24 < Try.prog.types.size := of_decide_eq_true (by kernel_rfl)
theorem angAtS : Try.prog.keyTypeAt 2 24 = true := by kernel_rfl
theorem angLaw0S : WideMaps.KeyLaw Try.prog 24 := deep_law_laid laidOutS (m := 2) (by omega) angRowLtS angAtS (by rw [Try.underlying24])
theorem angLawS : Maps.Keyed Try.prog 24 := Maps.Keyed.of_law angLaw0S
theorem angKeyTypeS : Try.prog.keyType 24 = true := by kernel_rfl
theorem angCellsS : Try.prog.cellsOf 24 = 2 := by kernel_rfl
theorem intCellsS : Try.prog.cellsOf 2 = 1 := by kernel_rfl
theorem typesSomeS : ∃ m, Try.prog.types.size = m + 1 := ⟨Try.prog.types.size - 1, by have : 0 < Try.prog.types.size := of_decide_eq_true (by kernel_rfl); omega⟩
theorem angKeyS (a b : Int) (ha : (Lit.int .i64 a).wf = true) (hb : (Lit.int .i64 b).wf = true) : keyOf Try.prog 24 (ang a b) = some (kl (a, b)) := by
  obtain ⟨m, hm⟩ := typesSomeS
  have hf : (ang a b).formed Try.prog 24 = true := by simp [Value.formed, Try.underlying24, angCellsS]
  have hk : Try.prog.keyLits (Try.prog.types.size + 1) 24 [.int .i64 a, .int .i64 b] = some [.int .i64 a, .int .i64 b] := by
    rw [hm]
    simp [Program.keyLits, Try.underlying24, Try.underlying2, angCellsS, intCellsS, ha, hb]
  unfold keyOf
  rw [Try.underlying24]
  simp only [angKeyTypeS, hf, Bool.and_self, if_true]
  rw [show (ang a b).cells.toList = [.int .i64 a, .int .i64 b] from rfl, hk]
  rfl
theorem red_wfS {o : Int × Int} (h : Red o) : (Lit.int .i64 o.1).wf = true ∧ (Lit.int .i64 o.2).wf = true := by
  obtain ⟨h1, h2, h3, h4, _⟩ := h
  exact ⟨i64_wf (by omega) (by omega), i64_wf (by omega) (by omega)⟩
theorem kl_injS {a b : Int × Int} (ha : Red a) (hb : Red b) (e : kl a = kl b) : a = b := by
  have h1 := angKeyS a.1 a.2 (red_wfS ha).1 (red_wfS ha).2
  have h2 := angKeyS b.1 b.2 (red_wfS hb).1 (red_wfS hb).2
  have e' : kl (a.1, a.2) = kl (b.1, b.2) := e
  rw [e'] at h1
  have h3 : ang a.1 a.2 = ang b.1 b.2 := angLawS.inj h1 h2
  simp only [Value.agg.injEq, Array.mk.injEq, List.cons.injEq, Value.int.injEq, true_and, and_true] at h3
  exact Prod.ext h3.1 h3.2


end Go.Proofs.Ytlmgpecfbpcgaaa

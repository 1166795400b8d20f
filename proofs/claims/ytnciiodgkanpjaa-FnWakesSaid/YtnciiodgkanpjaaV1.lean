/-
  Contracts: leaves; what is a leaf.
-/
import Derived.Test.YtnciiodgkanpjaaW7
namespace Go.Proofs.Ytnciiodgkanpjaa
open Go.RowKit

/-- A leaf as a value. -/
abbrev leafV (a b c d : Int) : Value := .agg #[.int .i64 a, .int .i64 b, .int .i64 c, .int .i64 d]

/-- Whether both ends are angles in order. -/
def isLf (a b c d : Int) : Bool := isAng a b && isAng c d && ltA a b c d

theorem ltA_cmp (n d m c : Int) : ltA n d m c = decide (cmpI (n * c) (m * d) < 0) := by
  unfold ltA; by_cases h : n * c < m * d
  · have := cmpI_neg h; simp [h, this]
  · have := cmpI_nonneg h; simp [h]; omega

end Go.Proofs.Ytnciiodgkanpjaa

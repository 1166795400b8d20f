/-
  A leaf as an argument of a law: opened and shut.
-/
import Derived.Test.YtnoaahkpcnkbnaaProg
import Derived.WalkKit
import Derived.ProofKit
import Derived.OpenShut
import Derived.Lib.SmallJoins
import Derived.ChangeOld
namespace Go.Proofs.Ytnoaahkpcnkbnaa
open Go.ChangeShapes Go.WideShapes Go.ChangeAt Go.RowKit Go.Joins

section
variable {H : Type} {enc : TypeId × Value → H} {w : World} {base : Nat} {spare : Nat → Bool} {held : Bool}

/-- What a leaf reads as. -/
abbrev lfData (a b c e : Int) : DataW H := .agg [.agg [.lit (.int .i64 a), .lit (.int .i64 b)], .agg [.lit (.int .i64 c), .lit (.int .i64 e)]]

end
end Go.Proofs.Ytnoaahkpcnkbnaa

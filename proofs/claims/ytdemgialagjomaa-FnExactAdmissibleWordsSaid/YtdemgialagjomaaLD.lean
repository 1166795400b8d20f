/-
  The walk of the exact law of IsSequence.
-/
import Derived.Test.YtdemgialagjomaaD2
import Derived.Test.YtdemgialagjomaaD3
namespace Go.Proofs.Ytdemgialagjomaa
open Go.RowKit

end Go.Proofs.Ytdemgialagjomaa

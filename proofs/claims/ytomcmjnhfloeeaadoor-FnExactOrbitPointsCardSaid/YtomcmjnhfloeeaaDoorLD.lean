/-
  The walk of the exact law of IsSequence.
-/
import Derived.Test.YtomcmjnhfloeeaaDoorD2
import Derived.Test.YtomcmjnhfloeeaaDoorD3
namespace Go.Proofs.YtomcmjnhfloeeaaDoor
open Go.RowKit

end Go.Proofs.YtomcmjnhfloeeaaDoor

/-
  Contracts: IsStarPeriodic on both sides; the walk of its law.
-/
import Derived.Test.YtomcmjnhfloeeaaDoorD10
namespace Go.Proofs.YtomcmjnhfloeeaaDoor
open Go.RowKit

def isB (x y : Wd) : Bool := isSeq x y && starQ x y
def isC (x y : Wd) : Int := if isSeq x y then 0 else 1

end Go.Proofs.YtomcmjnhfloeeaaDoor

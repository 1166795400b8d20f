/-
  Contracts: distances as the model tells them.
-/
import Derived.Test.YtoflafpidicipaaW13
namespace Go.Proofs.Ytoflafpidicipaa
open Go.RowKit

end Go.Proofs.Ytoflafpidicipaa

/-
  Contracts: distances as the model tells them.
-/
import Derived.Test.YtflhijmfhlogmaaW13
namespace Go.Proofs.Ytflhijmfhlogmaa
open Go.RowKit

end Go.Proofs.Ytflhijmfhlogmaa

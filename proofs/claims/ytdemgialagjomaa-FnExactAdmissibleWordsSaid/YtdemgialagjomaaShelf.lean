/-
  No function of the library's is met by a contract here.
-/
import Derived.Test.YtdemgialagjomaaProg
namespace Go.Proofs.Ytdemgialagjomaa
end Go.Proofs.Ytdemgialagjomaa

/-
  Contracts: sequences told in the one way (the program's).
-/
import Derived.Test.YtdemgialagjomaaS2
namespace Go.Proofs.Ytdemgialagjomaa
open Go.RowKit

def strLen : Value → Nat
  | .string s => s.size
  | _ => 0
/-- A sequence as a value. -/
abbrev sqV (x y : Wd) : Value := .agg #[.string (bs x), .string (bs y)]
theorem byte_eq (x y : UInt8) : ((x.toNat : Int) == (y.toNat : Int)) = (x == y) := by
  rw [Bool.eq_iff_iff, beq_iff_eq, beq_iff_eq]
  constructor
  · intro h; exact UInt8.toNat_inj.1 (by omega)
  · intro h; rw [h]

end Go.Proofs.Ytdemgialagjomaa

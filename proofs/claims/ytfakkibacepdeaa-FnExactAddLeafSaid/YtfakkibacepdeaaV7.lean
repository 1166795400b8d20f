/-
  Contracts: images of leaves.
-/
import Derived.Test.YtfakkibacepdeaaV6
namespace Go.Proofs.Ytfakkibacepdeaa
open Go.RowKit

/-- The ends of the image, in order. -/
def imA (a b c d : Int) : Int := lfA (redN (2 * a) b) (redD (2 * a) b) (redN (2 * c) d) (redD (2 * c) d)
def imB (a b c d : Int) : Int := lfB (redN (2 * a) b) (redD (2 * a) b) (redN (2 * c) d) (redD (2 * c) d)
def imC (a b c d : Int) : Int := lfC (redN (2 * a) b) (redD (2 * a) b) (redN (2 * c) d) (redD (2 * c) d)
def imD (a b c d : Int) : Int := lfD (redN (2 * a) b) (redD (2 * a) b) (redN (2 * c) d) (redD (2 * c) d)

/-- What ImageOfLeaf returns. -/
def ioOk (a b c d : Int) : Bool := isLf a b c d && !diaB a b c d
def ioA (a b c d : Int) : Int := if ioOk a b c d then imA a b c d else 0
def ioB (a b c d : Int) : Int := if ioOk a b c d then imB a b c d else 0
def ioC (a b c d : Int) : Int := if ioOk a b c d then imC a b c d else 0
def ioD (a b c d : Int) : Int := if ioOk a b c d then imD a b c d else 0
def ioK (a b c d : Int) : Int := if isLf a b c d then (if diaB a b c d then 5 else 0) else 1
theorem io_no {a b c d : Int} (h : isLf a b c d = false) : ioA a b c d = 0 ∧ ioB a b c d = 0 ∧ ioC a b c d = 0 ∧ ioD a b c d = 0 ∧ ioK a b c d = 1 := by
  unfold ioA ioB ioC ioD ioK ioOk; simp [h]
theorem io_eq {a b c d : Int} (h : isLf a b c d = true) (e : diaB a b c d = true) : ioA a b c d = 0 ∧ ioB a b c d = 0 ∧ ioC a b c d = 0 ∧ ioD a b c d = 0 ∧ ioK a b c d = 5 := by
  unfold ioA ioB ioC ioD ioK ioOk; simp [h, e]
theorem io_yes {a b c d : Int} (h : isLf a b c d = true) (e : diaB a b c d = false) : ioA a b c d = imA a b c d ∧ ioB a b c d = imB a b c d ∧ ioC a b c d = imC a b c d ∧ ioD a b c d = imD a b c d ∧ ioK a b c d = 0 := by
  unfold ioA ioB ioC ioD ioK ioOk; simp [h, e]

end Go.Proofs.Ytfakkibacepdeaa

/-
  Contracts: leaves from angles; diameters and images.
  Contracts: images of leaves.
-/
import Derived.Test.YtnoaahkpcnkbnaaV3
namespace Go.Proofs.Ytnoaahkpcnkbnaa
open Go.RowKit

abbrev resL (a b c d k : Int) : Value := .tuple #[leafV a b c d, .int .i64 k]
theorem retLC {a b c d k a' b' c' d' k' : Int} (h1 : a = a') (h2 : b = b') (h3 : c = c') (h4 : d = d') (h5 : k = k') : Ending.returned (resL a b c d k) = .returned (resL a' b' c' d' k') := by rw [h1, h2, h3, h4, h5]

/-- Whether there is a leaf between two, and what LeafOf returns. -/
def loOk (a b c d : Int) : Bool := sumOk a b c d && !eqA a b c d
def loA (a b c d : Int) : Int := if loOk a b c d then lfA a b c d else 0
def loB (a b c d : Int) : Int := if loOk a b c d then lfB a b c d else 0
def loC (a b c d : Int) : Int := if loOk a b c d then lfC a b c d else 0
def loD (a b c d : Int) : Int := if loOk a b c d then lfD a b c d else 0
def loK (a b c d : Int) : Int := if sumOk a b c d then (if eqA a b c d then 5 else 0) else 1
theorem lo_no {a b c d : Int} (h : sumOk a b c d = false) : loA a b c d = 0 ∧ loB a b c d = 0 ∧ loC a b c d = 0 ∧ loD a b c d = 0 ∧ loK a b c d = 1 := by
  unfold loA loB loC loD loK loOk; simp [h]
theorem lo_eq {a b c d : Int} (h : sumOk a b c d = true) (e : eqA a b c d = true) : loA a b c d = 0 ∧ loB a b c d = 0 ∧ loC a b c d = 0 ∧ loD a b c d = 0 ∧ loK a b c d = 5 := by
  unfold loA loB loC loD loK loOk; simp [h, e]
theorem lo_yes {a b c d : Int} (h : sumOk a b c d = true) (e : eqA a b c d = false) : loA a b c d = lfA a b c d ∧ loB a b c d = lfB a b c d ∧ loC a b c d = lfC a b c d ∧ loD a b c d = lfD a b c d ∧ loK a b c d = 0 := by
  unfold loA loB loC loD loK loOk; simp [h, e]
theorem sum_cases (a b c d : Int) : (isAng a b = false ∧ sumOk a b c d = false) ∨ (isAng a b = true ∧ isAng c d = false ∧ sumOk a b c d = false) ∨ (isAng a b = true ∧ isAng c d = true ∧ sumOk a b c d = true) := by
  unfold sumOk; cases isAng a b <;> cases isAng c d <;> simp

/-- A leaf is a diameter: both ends have one double. -/
def diaB (a b c d : Int) : Bool := eqA (redN (2 * a) b) (redD (2 * a) b) (redN (2 * c) d) (redD (2 * c) d)

theorem box4 {w W w1 : World} {a b c d : Int} (hb : Below W.heap.size W w1)
    (H : w.heap.size < W.heap.size ∧ Below w.heap.size w W ∧ W.cell? ⟨w.heap.size, 0, none⟩ = some (.int .i64 a) ∧ W.cell? ⟨w.heap.size, 1, none⟩ = some (.int .i64 b) ∧ W.cell? ⟨w.heap.size, 2, none⟩ = some (.int .i64 c) ∧ W.cell? ⟨w.heap.size, 3, none⟩ = some (.int .i64 d)) :
    w.heap.size < w1.heap.size ∧ Below w.heap.size w w1 ∧ w1.cell? ⟨w.heap.size, 0, none⟩ = some (.int .i64 a) ∧ w1.cell? ⟨w.heap.size, 1, none⟩ = some (.int .i64 b) ∧ w1.cell? ⟨w.heap.size, 2, none⟩ = some (.int .i64 c) ∧ w1.cell? ⟨w.heap.size, 3, none⟩ = some (.int .i64 d) := by
  obtain ⟨hz, hB, h0, h1, h2, h3⟩ := H
  exact ⟨Nat.lt_of_lt_of_le hz hb.size, belowNext hB hb, cellThru hb (by omega) h0, cellThru hb (by omega) h1, cellThru hb (by omega) h2, cellThru hb (by omega) h3⟩

/-- The ends of the image, in order. -/
def imA (a b c d : Int) : Int := lfA (redN (2 * a) b) (redD (2 * a) b) (redN (2 * c) d) (redD (2 * c) d)
def imB (a b c d : Int) : Int := lfB (redN (2 * a) b) (redD (2 * a) b) (redN (2 * c) d) (redD (2 * c) d)
def imC (a b c d : Int) : Int := lfC (redN (2 * a) b) (redD (2 * a) b) (redN (2 * c) d) (redD (2 * c) d)
def imD (a b c d : Int) : Int := lfD (redN (2 * a) b) (redD (2 * a) b) (redN (2 * c) d) (redD (2 * c) d)

/-- What ImageOfLeaf returns. -/
def ioOk (a b c d : Int) : Bool := isLf a b c d && !diaB a b c d
def ioA (a b c d : Int) : Int := if ioOk a b c d then imA a b c d else 0
def ioB (a b c d : Int) : Int := if ioOk a b c d then imB a b c d else 0
def ioC (a b c d : Int) : Int := if ioOk a b c d then imC a b c d else 0
def ioD (a b c d : Int) : Int := if ioOk a b c d then imD a b c d else 0
def ioK (a b c d : Int) : Int := if isLf a b c d then (if diaB a b c d then 5 else 0) else 1
theorem io_no {a b c d : Int} (h : isLf a b c d = false) : ioA a b c d = 0 ∧ ioB a b c d = 0 ∧ ioC a b c d = 0 ∧ ioD a b c d = 0 ∧ ioK a b c d = 1 := by
  unfold ioA ioB ioC ioD ioK ioOk; simp [h]
theorem io_eq {a b c d : Int} (h : isLf a b c d = true) (e : diaB a b c d = true) : ioA a b c d = 0 ∧ ioB a b c d = 0 ∧ ioC a b c d = 0 ∧ ioD a b c d = 0 ∧ ioK a b c d = 5 := by
  unfold ioA ioB ioC ioD ioK ioOk; simp [h, e]
theorem io_yes {a b c d : Int} (h : isLf a b c d = true) (e : diaB a b c d = false) : ioA a b c d = imA a b c d ∧ ioB a b c d = imB a b c d ∧ ioC a b c d = imC a b c d ∧ ioD a b c d = imD a b c d ∧ ioK a b c d = 0 := by
  unfold ioA ioB ioC ioD ioK ioOk; simp [h, e]

end Go.Proofs.Ytnoaahkpcnkbnaa

/-
  Contracts: angles from numbers, doubles, sums.
-/
import Derived.Test.YtabddjfgbhnldaaW3
namespace Go.Proofs.Ytabddjfgbhnldaa
open Go.RowKit

/-- An angle and a code. -/
abbrev res3 (x y c : Int) : Value := .tuple #[ang x y, .int .i64 c]
theorem ret3 {x y c x' y' c' : Int} (h1 : x = x') (h2 : y = y') (h3 : c = c') : Ending.returned (res3 x y c) = .returned (res3 x' y' c') := by rw [h1, h2, h3]
theorem retA {x y x' y' : Int} (h1 : x = x') (h2 : y = y') : Ending.returned (ang x y) = .returned (ang x' y') := by rw [h1, h2]

/-- The range of AngleOf. -/
def ofOk (n d : Int) : Bool := decide (-1000000000 ≤ n ∧ n ≤ 1000000000 ∧ 1 ≤ d ∧ d ≤ 1000000000)
def ofN (n d : Int) : Int := if ofOk n d then toldN (redN n d) (redD n d) else 0
def ofD (n d : Int) : Int := if ofOk n d then toldD (redD n d) else 0
def ofC (n d : Int) : Int := if ofOk n d then toldC (redD n d) else 2
theorem of_yes {n d : Int} (h : ofOk n d = true) : ofN n d = toldN (redN n d) (redD n d) ∧ ofD n d = toldD (redD n d) ∧ ofC n d = toldC (redD n d) := by
  unfold ofN ofD ofC; simp [h]
theorem of_no {n d : Int} (h : ofOk n d = false) : ofN n d = 0 ∧ ofD n d = 0 ∧ ofC n d = 2 := by
  unfold ofN ofD ofC; simp [h]
theorem of_cases (n d : Int) : (ofOk n d = false ∧ (n < -1000000000 ∨ (-1000000000 ≤ n ∧ 1000000000 < n) ∨ (-1000000000 ≤ n ∧ n ≤ 1000000000 ∧ d < 1) ∨ (-1000000000 ≤ n ∧ n ≤ 1000000000 ∧ 1 ≤ d ∧ 1000000000 < d))) ∨
    (ofOk n d = true ∧ -1000000000 ≤ n ∧ n ≤ 1000000000 ∧ 1 ≤ d ∧ d ≤ 1000000000) := by
  by_cases h : -1000000000 ≤ n ∧ n ≤ 1000000000 ∧ 1 ≤ d ∧ d ≤ 1000000000
  · exact .inr ⟨by unfold ofOk; simpa using h, h⟩
  · refine .inl ⟨by unfold ofOk; simpa using h, by omega⟩

set_option maxHeartbeats 400000 in
theorem specDbl (n d : Int) (w : World) (h1 : 1 ≤ d) (h2 : d ≤ 8191) (h3 : 0 ≤ n) (h4 : n ≤ 8191) :
    Calls Try.prog 86 #[ang n d] w fun e w' => e = .returned (ang (redN (2 * n) d) (redD (2 * n) d)) ∧ Below w.heap.size w w' := by
  have HR := Lib.hid (fun w => specRed (2 * n) d w (by omega) (by omega) (by omega) (by omega))
  generalize redN (2 * n) d = x at *
  generalize redD (2 * n) d = y at *
  go_enter Try.func86, Try.ntmps86
  go_wp2_with fail
  refine (HR.out _).mono ?_
  rintro e w1 ⟨rfl, hb1⟩
  obtain ⟨hc1, hf1⟩ := bcell hb1
  have k0 : w1.cell? ⟨w.heap.size + 1, 0, none⟩ = some (.int .i64 0) := cellThru hb1 (by simp) (by simp [go_sem])
  have k1 : w1.cell? ⟨w.heap.size + 1, 1, none⟩ = some (.int .i64 0) := cellThru hb1 (by simp) (by simp [go_sem])
  go_wp2
  refine bodyPost_ret (v := ang x y) (by simp [results, Try.results86, go_sem, k0, k1]) rfl ⟨rfl, ?_⟩
  (repeat' (first | (with_reducible exact Below.refl _ _) | (with_reducible assumption) | (with_reducible refine belowNext ?_ (by with_reducible assumption)) | (with_reducible refine belowAlloc ?_ _) | (with_reducible refine Below.drew ?_) | (with_reducible refine below_drewN ?_ _) | (with_reducible refine Below.setCell ?_ ?_ _) | go_size | (with_reducible refine sizeOf' ?_) | (with_reducible refine sizeAdd ?_) | (dsimp only; first | (with_reducible refine sizeOf' ?_) | (with_reducible refine sizeAdd ?_))))

def dblN (n d : Int) : Int := if isAng n d then redN (2 * n) d else 0
def dblD (n d : Int) : Int := if isAng n d then redD (2 * n) d else 0
def dblC (n d : Int) : Int := if isAng n d then 0 else 1
theorem dbl_yes {n d : Int} (h : isAng n d = true) : dblN n d = redN (2 * n) d ∧ dblD n d = redD (2 * n) d ∧ dblC n d = 0 := by
  unfold dblN dblD dblC; simp [h]
theorem dbl_no {n d : Int} (h : isAng n d = false) : dblN n d = 0 ∧ dblD n d = 0 ∧ dblC n d = 1 := by
  unfold dblN dblD dblC; simp [h]

end Go.Proofs.Ytabddjfgbhnldaa

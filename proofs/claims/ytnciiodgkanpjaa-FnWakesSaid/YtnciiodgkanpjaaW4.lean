/-
  Contracts: angles from numbers, doubles, sums.
-/
import Derived.Test.YtnciiodgkanpjaaW3
namespace Go.Proofs.Ytnciiodgkanpjaa
open Go.RowKit

/-- An angle and a code. -/
abbrev res3 (x y c : Int) : Value := .tuple #[ang x y, .int .i64 c]
theorem ret3 {x y c x' y' c' : Int} (h1 : x = x') (h2 : y = y') (h3 : c = c') : Ending.returned (res3 x y c) = .returned (res3 x' y' c') := by rw [h1, h2, h3]
theorem retA {x y x' y' : Int} (h1 : x = x') (h2 : y = y') : Ending.returned (ang x y) = .returned (ang x' y') := by rw [h1, h2]

/-- The range of AngleOf. -/
def ofOk (n d : Int) : Bool := decide (-1000000000 ≤ n ∧ n ≤ 1000000000 ∧ 1 ≤ d ∧ d ≤ 1000000000)
def ofN (n d : Int) : Int := if ofOk n d then toldN (redN n d) (redD n d) else 0
def ofD (n d : Int) : Int := if ofOk n d then toldD (redD n d) else 0
def ofC (n d : Int) : Int := if ofOk n d then toldC (redD n d) else 2
theorem of_yes {n d : Int} (h : ofOk n d = true) : ofN n d = toldN (redN n d) (redD n d) ∧ ofD n d = toldD (redD n d) ∧ ofC n d = toldC (redD n d) := by
  unfold ofN ofD ofC; simp [h]
theorem of_no {n d : Int} (h : ofOk n d = false) : ofN n d = 0 ∧ ofD n d = 0 ∧ ofC n d = 2 := by
  unfold ofN ofD ofC; simp [h]
theorem of_cases (n d : Int) : (ofOk n d = false ∧ (n < -1000000000 ∨ (-1000000000 ≤ n ∧ 1000000000 < n) ∨ (-1000000000 ≤ n ∧ n ≤ 1000000000 ∧ d < 1) ∨ (-1000000000 ≤ n ∧ n ≤ 1000000000 ∧ 1 ≤ d ∧ 1000000000 < d))) ∨
    (ofOk n d = true ∧ -1000000000 ≤ n ∧ n ≤ 1000000000 ∧ 1 ≤ d ∧ d ≤ 1000000000) := by
  by_cases h : -1000000000 ≤ n ∧ n ≤ 1000000000 ∧ 1 ≤ d ∧ d ≤ 1000000000
  · exact .inr ⟨by unfold ofOk; simpa using h, h⟩
  · refine .inl ⟨by unfold ofOk; simpa using h, by omega⟩

set_option maxHeartbeats 400000 in
theorem implOf (n d : Int) (w : World) :
    Calls Try.prog 26 #[.int .i64 n, .int .i64 d] w fun e w' => e = .returned (res3 (ofN n d) (ofD n d) (ofC n d)) ∧ Below w.heap.size w w' := by
  rcases of_cases n d with ⟨ho, h | ⟨h1, h⟩ | ⟨h1, h2, h⟩ | ⟨h1, h2, h3, h⟩⟩ | ⟨ho, h1, h2, h3, h4⟩
  case inr =>
    obtain ⟨e1, e2, e3⟩ := of_yes ho
    have E := Lib.hid (And.intro e1 (And.intro e2 e3))
    clear e1 e2 e3 ho
    generalize ofN n d = X at *
    generalize ofD n d = Y at *
    generalize ofC n d = C at *
    have HR := Lib.hid (fun w => implRed n d w (by omega) (by omega) (by omega) (by omega))
    generalize redN n d = x at *
    generalize redD n d = y at *
    go_enter Try.func26, Try.ntmps26
    go_wp2_with fail
    refine (HR.out _).mono ?_
    rintro e w1 ⟨rfl, hb1⟩
    obtain ⟨hc1, hf1⟩ := bcell hb1
    have hz1 : w.heap.size < w1.heap.size := by have := hb1.size; simp at this; omega
    go_wp2_with fail
    refine (implLim _ _ _).mono ?_
    rintro e w2 ⟨rfl, hb2⟩
    obtain ⟨hc2, hf2⟩ := bcell hb2
    have k0 : w2.cell? ⟨w.heap.size, 0, none⟩ = some (.int .i64 0) := cellThru hb2 hz1 (cellThru hb1 (by simp) (by simp [go_sem]))
    have k1 : w2.cell? ⟨w.heap.size, 1, none⟩ = some (.int .i64 0) := cellThru hb2 hz1 (cellThru hb1 (by simp) (by simp [go_sem]))
    go_wp2
    refine bodyPost_ret (v := res3 (toldN x y) (toldD y) (toldC y)) (by simp [results, Try.results26, go_sem, k0, k1]) rfl ⟨ret3 E.out.1.symm E.out.2.1.symm E.out.2.2.symm, ?_⟩
    (repeat' (first | (with_reducible exact Below.refl _ _) | (with_reducible assumption) | (with_reducible refine belowNext ?_ (by with_reducible assumption)) | (with_reducible refine belowAlloc ?_ _) | (with_reducible refine Below.drew ?_) | (with_reducible refine below_drewN ?_ _) | (with_reducible refine Below.setCell ?_ ?_ _) | go_size | (with_reducible refine sizeOf' ?_) | (with_reducible refine sizeAdd ?_) | (dsimp only; first | (with_reducible refine sizeOf' ?_) | (with_reducible refine sizeAdd ?_))))
  all_goals
    obtain ⟨e1, e2, e3⟩ := of_no ho
    have E := Lib.hid (And.intro e1 (And.intro e2 e3))
    clear e1 e2 e3 ho
    generalize ofN n d = X at *
    generalize ofD n d = Y at *
    generalize ofC n d = C at *
    go_enter Try.func26, Try.ntmps26
    go_wp2
    go_returns
    refine ⟨ret3 E.out.1.symm E.out.2.1.symm E.out.2.2.symm, ?_⟩
    (repeat' (first | (with_reducible exact Below.refl _ _) | (with_reducible assumption) | (with_reducible refine belowNext ?_ (by with_reducible assumption)) | (with_reducible refine belowAlloc ?_ _) | (with_reducible refine Below.drew ?_) | (with_reducible refine below_drewN ?_ _) | (with_reducible refine Below.setCell ?_ ?_ _) | go_size | (with_reducible refine sizeOf' ?_) | (with_reducible refine sizeAdd ?_) | (dsimp only; first | (with_reducible refine sizeOf' ?_) | (with_reducible refine sizeAdd ?_))))

set_option maxHeartbeats 400000 in
theorem specOf (n d : Int) (w : World) :
    Calls Try.prog 27 #[.int .i64 n, .int .i64 d] w fun e w' => e = .returned (res3 (ofN n d) (ofD n d) (ofC n d)) ∧ Below w.heap.size w w' := by
  rcases of_cases n d with ⟨ho, h⟩ | ⟨ho, h1, h2, h3, h4⟩
  case inr =>
    obtain ⟨e1, e2, e3⟩ := of_yes ho
    have E := Lib.hid (And.intro e1 (And.intro e2 e3))
    clear e1 e2 e3 ho
    generalize ofN n d = X at *
    generalize ofD n d = Y at *
    generalize ofC n d = C at *
    have HR := Lib.hid (fun w => specRed n d w (by omega) (by omega) (by omega) (by omega))
    generalize redN n d = x at *
    generalize redD n d = y at *
    go_enter Try.func27, Try.ntmps27
    go_wp2_with fail
    refine (inYes _ _ _ _ (by omega) (by omega)).mono ?_
    rintro e w0 ⟨rfl, rfl⟩
    go_wp2_with fail
    refine (inYes _ _ _ _ (by omega) (by omega)).mono ?_
    rintro e w0 ⟨rfl, rfl⟩
    go_wp2_with fail
    refine (HR.out _).mono ?_
    rintro e w1 ⟨rfl, hb1⟩
    have hz1 : w.heap.size < w1.heap.size := by have := hb1.size; simp at this; omega
    go_wp2_with fail
    refine (specTold _ _ _).mono ?_
    rintro e w2 ⟨rfl, hb2⟩
    obtain ⟨hc2, hf2⟩ := bcell hb2
    obtain ⟨hc1, hf1⟩ := bcell hb1
    have k0 : w2.cell? ⟨w.heap.size, 0, none⟩ = some (.int .i64 0) := cellThru hb2 hz1 (cellThru hb1 (by simp) (by simp [go_sem]))
    have k1 : w2.cell? ⟨w.heap.size, 1, none⟩ = some (.int .i64 0) := cellThru hb2 hz1 (cellThru hb1 (by simp) (by simp [go_sem]))
    go_wp2
    refine bodyPost_ret (v := res3 (toldN x y) (toldD y) (toldC y)) (by simp [results, Try.results27, go_sem, k0, k1]) rfl ⟨ret3 E.out.1.symm E.out.2.1.symm E.out.2.2.symm, ?_⟩
    (repeat' (first | (with_reducible exact Below.refl _ _) | (with_reducible assumption) | (with_reducible refine belowNext ?_ (by with_reducible assumption)) | (with_reducible refine belowAlloc ?_ _) | (with_reducible refine Below.drew ?_) | (with_reducible refine below_drewN ?_ _) | (with_reducible refine Below.setCell ?_ ?_ _) | go_size | (with_reducible refine sizeOf' ?_) | (with_reducible refine sizeAdd ?_) | (dsimp only; first | (with_reducible refine sizeOf' ?_) | (with_reducible refine sizeAdd ?_))))
  case inl =>
    obtain ⟨e1, e2, e3⟩ := of_no ho
    have E := Lib.hid (And.intro e1 (And.intro e2 e3))
    clear e1 e2 e3 ho
    generalize ofN n d = X at *
    generalize ofD n d = Y at *
    generalize ofC n d = C at *
    by_cases h0 : -1000000000 ≤ n ∧ n ≤ 1000000000
    · obtain ⟨h1, h2⟩ := h0
      have h3 : d < 1 ∨ 1000000000 < d := by omega
      clear h
      go_enter Try.func27, Try.ntmps27
      go_wp2_with fail
      refine (inYes _ _ _ _ (by omega) (by omega)).mono ?_
      rintro e w0 ⟨rfl, rfl⟩
      go_wp2_with fail
      refine (inNo _ _ _ _ (by omega)).mono ?_
      rintro e w0 ⟨rfl, rfl⟩
      go_wp2
      go_returns
      refine ⟨ret3 E.out.1.symm E.out.2.1.symm E.out.2.2.symm, ?_⟩
      (repeat' (first | (with_reducible exact Below.refl _ _) | (with_reducible assumption) | (with_reducible refine belowNext ?_ (by with_reducible assumption)) | (with_reducible refine belowAlloc ?_ _) | (with_reducible refine Below.drew ?_) | (with_reducible refine below_drewN ?_ _) | (with_reducible refine Below.setCell ?_ ?_ _) | go_size | (with_reducible refine sizeOf' ?_) | (with_reducible refine sizeAdd ?_) | (dsimp only; first | (with_reducible refine sizeOf' ?_) | (with_reducible refine sizeAdd ?_))))
    · have h3 : n < -1000000000 ∨ 1000000000 < n := by omega
      clear h h0
      go_enter Try.func27, Try.ntmps27
      go_wp2_with fail
      refine (inNo _ _ _ _ (by omega)).mono ?_
      rintro e w0 ⟨rfl, rfl⟩
      go_wp2
      go_returns
      refine ⟨ret3 E.out.1.symm E.out.2.1.symm E.out.2.2.symm, ?_⟩
      (repeat' (first | (with_reducible exact Below.refl _ _) | (with_reducible assumption) | (with_reducible refine belowNext ?_ (by with_reducible assumption)) | (with_reducible refine belowAlloc ?_ _) | (with_reducible refine Below.drew ?_) | (with_reducible refine below_drewN ?_ _) | (with_reducible refine Below.setCell ?_ ?_ _) | go_size | (with_reducible refine sizeOf' ?_) | (with_reducible refine sizeAdd ?_) | (dsimp only; first | (with_reducible refine sizeOf' ?_) | (with_reducible refine sizeAdd ?_))))

set_option maxHeartbeats 400000 in
theorem implDbl (n d : Int) (w : World) (h1 : 1 ≤ d) (h2 : d ≤ 8191) (h3 : 0 ≤ n) (h4 : n ≤ 8191) :
    Calls Try.prog 52 #[ang n d] w fun e w' => e = .returned (ang (redN (2 * n) d) (redD (2 * n) d)) ∧ Below w.heap.size w w' := by
  have HR := Lib.hid (fun w => implRed (2 * n) d w (by omega) (by omega) (by omega) (by omega))
  generalize redN (2 * n) d = x at *
  generalize redD (2 * n) d = y at *
  go_enter Try.func52, Try.ntmps52
  go_wp2_with fail
  refine (HR.out _).mono ?_
  rintro e w1 ⟨rfl, hb1⟩
  obtain ⟨hc1, hf1⟩ := bcell hb1
  have k0 : w1.cell? ⟨w.heap.size + 1, 0, none⟩ = some (.int .i64 0) := cellThru hb1 (by simp) (by simp [go_sem])
  have k1 : w1.cell? ⟨w.heap.size + 1, 1, none⟩ = some (.int .i64 0) := cellThru hb1 (by simp) (by simp [go_sem])
  go_wp2
  refine bodyPost_ret (v := ang x y) (by simp [results, Try.results52, go_sem, k0, k1]) rfl ⟨rfl, ?_⟩
  (repeat' (first | (with_reducible exact Below.refl _ _) | (with_reducible assumption) | (with_reducible refine belowNext ?_ (by with_reducible assumption)) | (with_reducible refine belowAlloc ?_ _) | (with_reducible refine Below.drew ?_) | (with_reducible refine below_drewN ?_ _) | (with_reducible refine Below.setCell ?_ ?_ _) | go_size | (with_reducible refine sizeOf' ?_) | (with_reducible refine sizeAdd ?_) | (dsimp only; first | (with_reducible refine sizeOf' ?_) | (with_reducible refine sizeAdd ?_))))

set_option maxHeartbeats 400000 in
theorem specDbl (n d : Int) (w : World) (h1 : 1 ≤ d) (h2 : d ≤ 8191) (h3 : 0 ≤ n) (h4 : n ≤ 8191) :
    Calls Try.prog 85 #[ang n d] w fun e w' => e = .returned (ang (redN (2 * n) d) (redD (2 * n) d)) ∧ Below w.heap.size w w' := by
  have HR := Lib.hid (fun w => specRed (2 * n) d w (by omega) (by omega) (by omega) (by omega))
  generalize redN (2 * n) d = x at *
  generalize redD (2 * n) d = y at *
  go_enter Try.func85, Try.ntmps85
  go_wp2_with fail
  refine (HR.out _).mono ?_
  rintro e w1 ⟨rfl, hb1⟩
  obtain ⟨hc1, hf1⟩ := bcell hb1
  have k0 : w1.cell? ⟨w.heap.size + 1, 0, none⟩ = some (.int .i64 0) := cellThru hb1 (by simp) (by simp [go_sem])
  have k1 : w1.cell? ⟨w.heap.size + 1, 1, none⟩ = some (.int .i64 0) := cellThru hb1 (by simp) (by simp [go_sem])
  go_wp2
  refine bodyPost_ret (v := ang x y) (by simp [results, Try.results85, go_sem, k0, k1]) rfl ⟨rfl, ?_⟩
  (repeat' (first | (with_reducible exact Below.refl _ _) | (with_reducible assumption) | (with_reducible refine belowNext ?_ (by with_reducible assumption)) | (with_reducible refine belowAlloc ?_ _) | (with_reducible refine Below.drew ?_) | (with_reducible refine below_drewN ?_ _) | (with_reducible refine Below.setCell ?_ ?_ _) | go_size | (with_reducible refine sizeOf' ?_) | (with_reducible refine sizeAdd ?_) | (dsimp only; first | (with_reducible refine sizeOf' ?_) | (with_reducible refine sizeAdd ?_))))

def dblN (n d : Int) : Int := if isAng n d then redN (2 * n) d else 0
def dblD (n d : Int) : Int := if isAng n d then redD (2 * n) d else 0
def dblC (n d : Int) : Int := if isAng n d then 0 else 1
theorem dbl_yes {n d : Int} (h : isAng n d = true) : dblN n d = redN (2 * n) d ∧ dblD n d = redD (2 * n) d ∧ dblC n d = 0 := by
  unfold dblN dblD dblC; simp [h]
theorem dbl_no {n d : Int} (h : isAng n d = false) : dblN n d = 0 ∧ dblD n d = 0 ∧ dblC n d = 1 := by
  unfold dblN dblD dblC; simp [h]

set_option maxHeartbeats 400000 in
theorem implDouble (n d : Int) (w : World) :
    Calls Try.prog 12 #[ang n d] w fun e w' => e = .returned (res3 (dblN n d) (dblD n d) (dblC n d)) ∧ Below w.heap.size w w' := by
  have HS := Lib.hid (fun w => implIs n d w)
  cases hi : isAng n d
  · obtain ⟨e1, e2, e3⟩ := dbl_no hi
    have E := Lib.hid (And.intro e1 (And.intro e2 e3))
    clear e1 e2 e3
    rw [hi] at HS
    clear hi
    generalize dblN n d = X at *
    generalize dblD n d = Y at *
    generalize dblC n d = C at *
    go_enter Try.func12, Try.ntmps12
    go_wp2_with fail
    refine (HS.out _).mono ?_
    rintro e w1 ⟨rfl, hb1⟩
    have hz1 : w.heap.size + 1 < w1.heap.size := by have := hb1.size; simp at this; omega
    obtain ⟨hc1, hf1⟩ := bcell hb1
    have k0 : w1.cell? ⟨w.heap.size + 1, 0, none⟩ = some (.int .i64 0) := cellThru hb1 (by simp) (by simp [go_sem])
    have k1 : w1.cell? ⟨w.heap.size + 1, 1, none⟩ = some (.int .i64 0) := cellThru hb1 (by simp) (by simp [go_sem])
    go_wp2
    refine bodyPost_ret (v := res3 0 0 1) (by simp [results, Try.results12, go_sem, k0, k1]) rfl ⟨ret3 E.out.1.symm E.out.2.1.symm E.out.2.2.symm, ?_⟩
    (repeat' (first | (with_reducible exact Below.refl _ _) | (with_reducible assumption) | (with_reducible refine belowNext ?_ (by with_reducible assumption)) | (with_reducible refine belowAlloc ?_ _) | (with_reducible refine Below.drew ?_) | (with_reducible refine below_drewN ?_ _) | (with_reducible refine Below.setCell ?_ ?_ _) | go_size | (with_reducible refine sizeOf' ?_) | (with_reducible refine sizeAdd ?_) | (dsimp only; first | (with_reducible refine sizeOf' ?_) | (with_reducible refine sizeAdd ?_))))
  · obtain ⟨e1, e2, e3⟩ := dbl_yes hi
    have E := Lib.hid (And.intro e1 (And.intro e2 e3))
    clear e1 e2 e3
    rw [hi] at HS
    obtain ⟨b1, b2, b3, b4, -⟩ := isAng_yes hi
    clear hi
    generalize dblN n d = X at *
    generalize dblD n d = Y at *
    generalize dblC n d = C at *
    have HR := Lib.hid (fun w => implDbl n d w (by omega) (by omega) (by omega) (by omega))
    generalize redN (2 * n) d = x at *
    generalize redD (2 * n) d = y at *
    go_enter Try.func12, Try.ntmps12
    go_wp2_with fail
    refine (HS.out _).mono ?_
    rintro e w1 ⟨rfl, hb1⟩
    have hz1 : w.heap.size + 1 < w1.heap.size := by have := hb1.size; simp at this; omega
    obtain ⟨hc1, hf1⟩ := bcell hb1
    go_wp2_with fail
    refine (HR.out _).mono ?_
    rintro e w2 ⟨rfl, hb2⟩
    obtain ⟨hc2, hf2⟩ := bcell hb2
    have k0 : w2.cell? ⟨w.heap.size + 1, 0, none⟩ = some (.int .i64 0) := cellThru hb2 hz1 (cellThru hb1 (by simp) (by simp [go_sem]))
    have k1 : w2.cell? ⟨w.heap.size + 1, 1, none⟩ = some (.int .i64 0) := cellThru hb2 hz1 (cellThru hb1 (by simp) (by simp [go_sem]))
    go_wp2
    refine bodyPost_ret (v := res3 x y 0) (by simp [results, Try.results12, go_sem, k0, k1]) rfl ⟨ret3 E.out.1.symm E.out.2.1.symm E.out.2.2.symm, ?_⟩
    (repeat' (first | (with_reducible exact Below.refl _ _) | (with_reducible assumption) | (with_reducible refine belowNext ?_ (by with_reducible assumption)) | (with_reducible refine belowAlloc ?_ _) | (with_reducible refine Below.drew ?_) | (with_reducible refine below_drewN ?_ _) | (with_reducible refine Below.setCell ?_ ?_ _) | go_size | (with_reducible refine sizeOf' ?_) | (with_reducible refine sizeAdd ?_) | (dsimp only; first | (with_reducible refine sizeOf' ?_) | (with_reducible refine sizeAdd ?_))))
end Go.Proofs.Ytnciiodgkanpjaa

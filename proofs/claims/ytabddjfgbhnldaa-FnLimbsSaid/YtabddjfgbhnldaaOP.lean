/-
  Contracts: the opposite angle on both sides; the law's walk.
-/
import Derived.Test.YtabddjfgbhnldaaW4
namespace Go.Proofs.Ytabddjfgbhnldaa
open Go.RowKit

set_option maxHeartbeats 400000 in
theorem implOpp (n d : Int) (w : World) (h1 : 1 ≤ d) (h2 : d ≤ 8191) (h3 : 0 ≤ n) (h4 : n ≤ 8191) :
    Calls Try.prog 32 #[ang n d] w fun e w' => e = .returned (ang (redN (-n) d) (redD (-n) d)) ∧ Below w.heap.size w w' := by
  have HR := Lib.hid (fun w => implRed (-n) d w (by omega) (by omega) (by omega) (by omega))
  generalize redN (-n) d = x at *
  generalize redD (-n) d = y at *
  go_enter Try.func32, Try.ntmps32
  go_wp2_with fail
  refine (HR.out _).mono ?_
  rintro e w1 ⟨rfl, hb1⟩
  obtain ⟨hc1, hf1⟩ := bcell hb1
  have k0 : w1.cell? ⟨w.heap.size + 1, 0, none⟩ = some (.int .i64 0) := cellThru hb1 (by simp) (by simp [go_sem])
  have k1 : w1.cell? ⟨w.heap.size + 1, 1, none⟩ = some (.int .i64 0) := cellThru hb1 (by simp) (by simp [go_sem])
  go_wp2
  refine bodyPost_ret (v := ang x y) (by simp [results, Try.results32, go_sem, k0, k1]) rfl ⟨rfl, ?_⟩
  (repeat' (first | (with_reducible exact Below.refl _ _) | (with_reducible assumption) | (with_reducible refine belowNext ?_ (by with_reducible assumption)) | (with_reducible refine belowAlloc ?_ _) | (with_reducible refine Below.drew ?_) | (with_reducible refine below_drewN ?_ _) | (with_reducible refine Below.setCell ?_ ?_ _) | go_size | (with_reducible refine sizeOf' ?_) | (with_reducible refine sizeAdd ?_) | (dsimp only; first | (with_reducible refine sizeOf' ?_) | (with_reducible refine sizeAdd ?_))))

set_option maxHeartbeats 400000 in
theorem specOpp (n d : Int) (w : World) (h1 : 1 ≤ d) (h2 : d ≤ 8191) (h3 : 0 ≤ n) (h4 : n ≤ 8191) :
    Calls Try.prog 33 #[ang n d] w fun e w' => e = .returned (ang (redN (-n) d) (redD (-n) d)) ∧ Below w.heap.size w w' := by
  have HR := Lib.hid (fun w => specRed (-n) d w (by omega) (by omega) (by omega) (by omega))
  generalize redN (-n) d = x at *
  generalize redD (-n) d = y at *
  go_enter Try.func33, Try.ntmps33
  go_wp2_with fail
  refine (HR.out _).mono ?_
  rintro e w1 ⟨rfl, hb1⟩
  obtain ⟨hc1, hf1⟩ := bcell hb1
  have k0 : w1.cell? ⟨w.heap.size + 1, 0, none⟩ = some (.int .i64 0) := cellThru hb1 (by simp) (by simp [go_sem])
  have k1 : w1.cell? ⟨w.heap.size + 1, 1, none⟩ = some (.int .i64 0) := cellThru hb1 (by simp) (by simp [go_sem])
  go_wp2
  refine bodyPost_ret (v := ang x y) (by simp [results, Try.results33, go_sem, k0, k1]) rfl ⟨rfl, ?_⟩
  (repeat' (first | (with_reducible exact Below.refl _ _) | (with_reducible assumption) | (with_reducible refine belowNext ?_ (by with_reducible assumption)) | (with_reducible refine belowAlloc ?_ _) | (with_reducible refine Below.drew ?_) | (with_reducible refine below_drewN ?_ _) | (with_reducible refine Below.setCell ?_ ?_ _) | go_size | (with_reducible refine sizeOf' ?_) | (with_reducible refine sizeAdd ?_) | (dsimp only; first | (with_reducible refine sizeOf' ?_) | (with_reducible refine sizeAdd ?_))))

def oppN (n d : Int) : Int := if isAng n d then redN (-n) d else 0
def oppD (n d : Int) : Int := if isAng n d then redD (-n) d else 0
def oppC (n d : Int) : Int := if isAng n d then 0 else 1
theorem opp_yes {n d : Int} (h : isAng n d = true) : oppN n d = redN (-n) d ∧ oppD n d = redD (-n) d ∧ oppC n d = 0 := by
  unfold oppN oppD oppC; simp [h]
theorem opp_no {n d : Int} (h : isAng n d = false) : oppN n d = 0 ∧ oppD n d = 0 ∧ oppC n d = 1 := by
  unfold oppN oppD oppC; simp [h]

set_option maxHeartbeats 400000 in
theorem implOpposite (n d : Int) (w : World) :
    Calls Try.prog 15 #[ang n d] w fun e w' => e = .returned (res3 (oppN n d) (oppD n d) (oppC n d)) ∧ Below w.heap.size w w' := by
  have HS := Lib.hid (fun w => implIs n d w)
  cases hi : isAng n d
  · obtain ⟨e1, e2, e3⟩ := opp_no hi
    have E := Lib.hid (And.intro e1 (And.intro e2 e3))
    clear e1 e2 e3
    rw [hi] at HS
    clear hi
    generalize oppN n d = X at *
    generalize oppD n d = Y at *
    generalize oppC n d = C at *
    go_enter Try.func15, Try.ntmps15
    go_wp2_with fail
    refine (HS.out _).mono ?_
    rintro e w1 ⟨rfl, hb1⟩
    have hz1 : w.heap.size + 1 < w1.heap.size := by have := hb1.size; simp at this; omega
    obtain ⟨hc1, hf1⟩ := bcell hb1
    have k0 : w1.cell? ⟨w.heap.size + 1, 0, none⟩ = some (.int .i64 0) := cellThru hb1 (by simp) (by simp [go_sem])
    have k1 : w1.cell? ⟨w.heap.size + 1, 1, none⟩ = some (.int .i64 0) := cellThru hb1 (by simp) (by simp [go_sem])
    go_wp2
    refine bodyPost_ret (v := res3 0 0 1) (by simp [results, Try.results15, go_sem, k0, k1]) rfl ⟨ret3 E.out.1.symm E.out.2.1.symm E.out.2.2.symm, ?_⟩
    (repeat' (first | (with_reducible exact Below.refl _ _) | (with_reducible assumption) | (with_reducible refine belowNext ?_ (by with_reducible assumption)) | (with_reducible refine belowAlloc ?_ _) | (with_reducible refine Below.drew ?_) | (with_reducible refine below_drewN ?_ _) | (with_reducible refine Below.setCell ?_ ?_ _) | go_size | (with_reducible refine sizeOf' ?_) | (with_reducible refine sizeAdd ?_) | (dsimp only; first | (with_reducible refine sizeOf' ?_) | (with_reducible refine sizeAdd ?_))))
  · obtain ⟨e1, e2, e3⟩ := opp_yes hi
    have E := Lib.hid (And.intro e1 (And.intro e2 e3))
    clear e1 e2 e3
    rw [hi] at HS
    obtain ⟨b1, b2, b3, b4, -⟩ := isAng_yes hi
    clear hi
    generalize oppN n d = X at *
    generalize oppD n d = Y at *
    generalize oppC n d = C at *
    have HR := Lib.hid (fun w => implOpp n d w (by omega) (by omega) (by omega) (by omega))
    generalize redN (-n) d = x at *
    generalize redD (-n) d = y at *
    go_enter Try.func15, Try.ntmps15
    go_wp2_with fail
    refine (HS.out _).mono ?_
    rintro e w1 ⟨rfl, hb1⟩
    have hz1 : w.heap.size + 1 < w1.heap.size := by have := hb1.size; simp at this; omega
    obtain ⟨hc1, hf1⟩ := bcell hb1
    go_wp2_with fail
    refine (HR.out _).mono ?_
    rintro e w2 ⟨rfl, hb2⟩
    obtain ⟨hc2, hf2⟩ := bcell hb2
    have k0 : w2.cell? ⟨w.heap.size + 1, 0, none⟩ = some (.int .i64 0) := cellThru hb2 hz1 (cellThru hb1 (by simp) (by simp [go_sem]))
    have k1 : w2.cell? ⟨w.heap.size + 1, 1, none⟩ = some (.int .i64 0) := cellThru hb2 hz1 (cellThru hb1 (by simp) (by simp [go_sem]))
    go_wp2
    refine bodyPost_ret (v := res3 x y 0) (by simp [results, Try.results15, go_sem, k0, k1]) rfl ⟨ret3 E.out.1.symm E.out.2.1.symm E.out.2.2.symm, ?_⟩
    (repeat' (first | (with_reducible exact Below.refl _ _) | (with_reducible assumption) | (with_reducible refine belowNext ?_ (by with_reducible assumption)) | (with_reducible refine belowAlloc ?_ _) | (with_reducible refine Below.drew ?_) | (with_reducible refine below_drewN ?_ _) | (with_reducible refine Below.setCell ?_ ?_ _) | go_size | (with_reducible refine sizeOf' ?_) | (with_reducible refine sizeAdd ?_) | (dsimp only; first | (with_reducible refine sizeOf' ?_) | (with_reducible refine sizeAdd ?_))))
set_option maxHeartbeats 400000 in
theorem specOpposite (n d : Int) (w : World) :
    Calls Try.prog 16 #[ang n d] w fun e w' => e = .returned (res3 (oppN n d) (oppD n d) (oppC n d)) ∧ Below w.heap.size w w' := by
  have HS := Lib.hid (fun w => specIs1 n d w)
  cases hi : isAng n d
  · obtain ⟨e1, e2, e3⟩ := opp_no hi
    have E := Lib.hid (And.intro e1 (And.intro e2 e3))
    clear e1 e2 e3
    rw [hi] at HS
    clear hi
    generalize oppN n d = X at *
    generalize oppD n d = Y at *
    generalize oppC n d = C at *
    go_enter Try.func16, Try.ntmps16
    go_wp2_with fail
    refine (HS.out _).mono ?_
    rintro e w1 ⟨rfl, hb1⟩
    have hz1 : w.heap.size + 1 < w1.heap.size := by have := hb1.size; simp at this; omega
    obtain ⟨hc1, hf1⟩ := bcell hb1
    have k0 : w1.cell? ⟨w.heap.size + 1, 0, none⟩ = some (.int .i64 0) := cellThru hb1 (by simp) (by simp [go_sem])
    have k1 : w1.cell? ⟨w.heap.size + 1, 1, none⟩ = some (.int .i64 0) := cellThru hb1 (by simp) (by simp [go_sem])
    go_wp2
    refine bodyPost_ret (v := res3 0 0 1) (by simp [results, Try.results16, go_sem, k0, k1]) rfl ⟨ret3 E.out.1.symm E.out.2.1.symm E.out.2.2.symm, ?_⟩
    (repeat' (first | (with_reducible exact Below.refl _ _) | (with_reducible assumption) | (with_reducible refine belowNext ?_ (by with_reducible assumption)) | (with_reducible refine belowAlloc ?_ _) | (with_reducible refine Below.drew ?_) | (with_reducible refine below_drewN ?_ _) | (with_reducible refine Below.setCell ?_ ?_ _) | go_size | (with_reducible refine sizeOf' ?_) | (with_reducible refine sizeAdd ?_) | (dsimp only; first | (with_reducible refine sizeOf' ?_) | (with_reducible refine sizeAdd ?_))))
  · obtain ⟨e1, e2, e3⟩ := opp_yes hi
    have E := Lib.hid (And.intro e1 (And.intro e2 e3))
    clear e1 e2 e3
    rw [hi] at HS
    obtain ⟨b1, b2, b3, b4, -⟩ := isAng_yes hi
    clear hi
    generalize oppN n d = X at *
    generalize oppD n d = Y at *
    generalize oppC n d = C at *
    have HR := Lib.hid (fun w => specOpp n d w (by omega) (by omega) (by omega) (by omega))
    generalize redN (-n) d = x at *
    generalize redD (-n) d = y at *
    go_enter Try.func16, Try.ntmps16
    go_wp2_with fail
    refine (HS.out _).mono ?_
    rintro e w1 ⟨rfl, hb1⟩
    have hz1 : w.heap.size + 1 < w1.heap.size := by have := hb1.size; simp at this; omega
    obtain ⟨hc1, hf1⟩ := bcell hb1
    go_wp2_with fail
    refine (HR.out _).mono ?_
    rintro e w2 ⟨rfl, hb2⟩
    obtain ⟨hc2, hf2⟩ := bcell hb2
    have k0 : w2.cell? ⟨w.heap.size + 1, 0, none⟩ = some (.int .i64 0) := cellThru hb2 hz1 (cellThru hb1 (by simp) (by simp [go_sem]))
    have k1 : w2.cell? ⟨w.heap.size + 1, 1, none⟩ = some (.int .i64 0) := cellThru hb2 hz1 (cellThru hb1 (by simp) (by simp [go_sem]))
    go_wp2
    refine bodyPost_ret (v := res3 x y 0) (by simp [results, Try.results16, go_sem, k0, k1]) rfl ⟨ret3 E.out.1.symm E.out.2.1.symm E.out.2.2.symm, ?_⟩
    (repeat' (first | (with_reducible exact Below.refl _ _) | (with_reducible assumption) | (with_reducible refine belowNext ?_ (by with_reducible assumption)) | (with_reducible refine belowAlloc ?_ _) | (with_reducible refine Below.drew ?_) | (with_reducible refine below_drewN ?_ _) | (with_reducible refine Below.setCell ?_ ?_ _) | go_size | (with_reducible refine sizeOf' ?_) | (with_reducible refine sizeAdd ?_) | (dsimp only; first | (with_reducible refine sizeOf' ?_) | (with_reducible refine sizeAdd ?_))))
set_option maxHeartbeats 400000 in
theorem lawOppositeAngle (n d : Int) (_ : (Lit.int .i64 n).wf = true) (_ : (Lit.int .i64 d).wf = true) (w : World) :
    Calls Try.prog 6 #[ang n d] w fun e w' => e = .returned (.bool true) ∧ Below w.heap.size w w' := by
  have HA := Lib.hid (fun w => specOpposite n d w)
  have HB := Lib.hid (fun w => implOpposite n d w)
  generalize oppN n d = X at *
  generalize oppD n d = Y at *
  generalize oppC n d = C at *
  go_enter Try.func6, Try.ntmps6
  go_wp2_with fail
  refine (toAng _ _ _).mono ?_
  rintro e w1 ⟨rfl, hb1⟩
  obtain ⟨hc1, hf1⟩ := bcell hb1
  have hz1 : w.heap.size < w1.heap.size := by have := hb1.size; simp at this; omega
  go_wp2_with fail
  refine (HA.out _).mono ?_
  rintro e w2 ⟨rfl, hb2⟩
  obtain ⟨hc2, hf2⟩ := bcell hb2
  have hz2 : w.heap.size < w2.heap.size := by have := hb2.size; omega
  go_wp2_with fail
  refine (toAng _ _ _).mono ?_
  rintro e w3 ⟨rfl, hb3⟩
  have hz3 : w2.heap.size < w3.heap.size := by have := hb3.size; simp at this; omega
  obtain ⟨hc3, hf3⟩ := bcell hb3
  go_wp2_with fail
  refine (HB.out _).mono ?_
  rintro e w4 ⟨rfl, hb4⟩
  have hz4 : w2.heap.size < w4.heap.size := by have := hb4.size; omega
  obtain ⟨hc4, hf4⟩ := bcell hb4
  go_wp2_with fail
  refine (eqAngSame _ _ _).mono ?_
  rintro e w5 ⟨rfl, hb5⟩
  go_wp2
  go_ret
  refine ⟨rfl, ?_⟩
  (repeat' (first | (with_reducible exact Below.refl _ _) | (with_reducible assumption) | (with_reducible refine belowNext ?_ (by with_reducible assumption)) | (with_reducible refine belowAlloc ?_ _) | (with_reducible refine Below.drew ?_) | (with_reducible refine below_drewN ?_ _) | (with_reducible refine Below.setCell ?_ ?_ _) | go_size | (with_reducible refine sizeOf' ?_) | (with_reducible refine sizeAdd ?_) | (dsimp only; first | (with_reducible refine sizeOf' ?_) | (with_reducible refine sizeAdd ?_))))
end Go.Proofs.Ytabddjfgbhnldaa

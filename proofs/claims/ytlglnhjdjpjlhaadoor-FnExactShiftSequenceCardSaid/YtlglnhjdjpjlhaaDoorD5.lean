/-
  Contracts: SequenceOf, on both sides; the walk of its law.
-/
import Derived.Test.YtlglnhjdjpjlhaaDoorD2
import Derived.Test.YtlglnhjdjpjlhaaDoorD3
namespace Go.Proofs.YtlglnhjdjpjlhaaDoor
open Go.RowKit

/-- The cell of a result that is a sequence, still empty. -/
structure ResB (w W : World) : Prop where
  lt : w.heap.size < W.heap.size
  below : Below w.heap.size w W
  c0 : W.cell? ⟨w.heap.size, 0, none⟩ = some (.string ⟨#[]⟩)
  c1 : W.cell? ⟨w.heap.size, 1, none⟩ = some (.string ⟨#[]⟩)
  f0 : W.frozen? ⟨w.heap.size, 0, none⟩ = false
  f1 : W.frozen? ⟨w.heap.size, 1, none⟩ = false
theorem ResB.next {w W w1 : World} (h : ResB w W) (hb : Below W.heap.size W w1) : ResB w w1 :=
  ⟨Nat.lt_of_lt_of_le h.lt hb.size, belowNext h.below hb, cellThru hb h.lt h.c0, cellThru hb h.lt h.c1, frozThru hb h.lt h.f0, frozThru hb h.lt h.f1⟩
theorem resB0 (w : World) (T : TypeId) : ResB w (w.alloc (.cells #[.string ⟨#[]⟩, .string ⟨#[]⟩] T)) :=
  ⟨by simp, belowAlloc (Below.refl _ _) _, by simp [go_sem], by simp [go_sem], by simp [go_sem], by simp [go_sem]⟩

def soS (x y : Wd) : Wd × Wd := if lets x = true ∧ lets y = true ∧ 0 < y.length ∧ x.length + y.length ≤ 64 then canon x y else ([], [])
def soC (x y : Wd) : Int := if lets x = true ∧ lets y = true ∧ 0 < y.length then (if x.length + y.length ≤ 64 then 0 else 3) else 1
theorem so_no {x y : Wd} (h : ¬ (lets x = true ∧ lets y = true ∧ 0 < y.length)) : (soS x y).1 = [] ∧ (soS x y).2 = [] ∧ soC x y = 1 := by
  have : ¬ (lets x = true ∧ lets y = true ∧ 0 < y.length ∧ x.length + y.length ≤ 64) := fun k => h ⟨k.1, k.2.1, k.2.2.1⟩
  unfold soS soC
  rw [if_neg this, if_neg h]
  exact ⟨rfl, rfl, rfl⟩
theorem so_far {x y : Wd} (h : lets x = true ∧ lets y = true ∧ 0 < y.length) (h64 : ¬ x.length + y.length ≤ 64) : (soS x y).1 = [] ∧ (soS x y).2 = [] ∧ soC x y = 3 := by
  have : ¬ (lets x = true ∧ lets y = true ∧ 0 < y.length ∧ x.length + y.length ≤ 64) := fun k => h64 k.2.2.2
  unfold soS soC
  rw [if_neg this, if_pos h, if_neg h64]
  exact ⟨rfl, rfl, rfl⟩
theorem so_yes {x y : Wd} (h : lets x = true ∧ lets y = true ∧ 0 < y.length) (h64 : x.length + y.length ≤ 64) : (soS x y).1 = (canon x y).1 ∧ (soS x y).2 = (canon x y).2 ∧ soC x y = 0 := by
  unfold soS soC
  rw [if_pos ⟨h.1, h.2.1, h.2.2, h64⟩, if_pos h, if_pos h64]
  exact ⟨rfl, rfl, rfl⟩

set_option maxHeartbeats 2000000 in
theorem implSeqOf (x y : Wd) (w : World) (hx1 : x.length ≤ 1048576) (hy1 : y.length ≤ 1048576) :
    Calls Tryd.prog 14 #[.string (bs x), .string (bs y)] w fun e w' => e = .returned (.tuple #[sqV (soS x y).1 (soS x y).2, .int .i64 (soC x y)]) ∧ Below w.heap.size w w' := by
  have hlx := fun W => lenS 9 3 x Tryd.underlying9 W
  have hly := fun W => lenS 9 3 y Tryd.underlying9 W
  obtain ⟨y1, y2, y3, y4⟩ := emp_facts y
  have HX := Lib.hid (fun w => implOnly x w hx1)
  have HY := Lib.hid (fun w => implOnly y w hy1)
  have wab : IntKind.i64.wrap ((x.length : Int) + (y.length : Int)) = (x.length : Int) + (y.length : Int) := IntWalk.i64_in _ (by omega)
  have R0 := resB0 w 26
  cases hy : decide (0 < y.length)
  · obtain ⟨e1, e2, e3⟩ := so_no (x := x) (y := y) (fun h => by rw [decide_eq_true h.2.2] at hy; cases hy)
    rw [e1, e2, e3]
    rw [hy] at y2 y3 y4
    obtain ⟨r1, r2, r3, r4, r5, r6⟩ := R0
    clear e1 e2 e3 hy HX HY
    generalize (x.length : Int) = a at *
    generalize (y.length : Int) = b at *
    go_enter Tryd.func14, Tryd.ntmps14
    go_wp2
    refine bodyPost_ret (v := .tuple #[sqV [] [], .int .i64 1]) (by simp [results, Tryd.results14, go_sem, sqV, bs]) rfl ⟨rfl, ?_⟩
    (repeat' (first | (with_reducible exact Below.refl _ _) | (with_reducible assumption) | (with_reducible refine belowNext ?_ (by with_reducible assumption)) | (with_reducible refine belowAlloc ?_ _) | (with_reducible refine Below.drew ?_) | (with_reducible refine below_drewN ?_ _) | (with_reducible refine Below.setCell ?_ ?_ _) | go_size | (with_reducible refine sizeOf' ?_) | (with_reducible refine sizeAdd ?_) | (dsimp only; first | (with_reducible refine sizeOf' ?_) | (with_reducible refine sizeAdd ?_))))
  have hy0 : 0 < y.length := of_decide_eq_true hy
  rw [hy] at y2 y3 y4
  cases hx : lets x
  · obtain ⟨e1, e2, e3⟩ := so_no (x := x) (y := y) (fun h => by rw [h.1] at hx; cases hx)
    rw [e1, e2, e3]
    rw [hx] at HX
    clear e1 e2 e3 hy hx HY hy0
    generalize (x.length : Int) = a at *
    generalize (y.length : Int) = b at *
    go_enter Tryd.func14, Tryd.ntmps14
    go_wp2_with fail
    refine (HX.out _).mono ?_
    rintro e w2 ⟨rfl, hb2⟩
    have R2 := R0.next hb2
    clear hb2 R0
    obtain ⟨r1, r2, r3, r4, r5, r6⟩ := R2
    go_wp2
    refine bodyPost_ret (v := .tuple #[sqV [] [], .int .i64 1]) (by simp [results, Tryd.results14, go_sem, sqV, bs, r3, r4]) rfl ⟨rfl, ?_⟩
    (repeat' (first | (with_reducible exact Below.refl _ _) | (with_reducible assumption) | (with_reducible refine belowNext ?_ (by with_reducible assumption)) | (with_reducible refine belowAlloc ?_ _) | (with_reducible refine Below.drew ?_) | (with_reducible refine below_drewN ?_ _) | (with_reducible refine Below.setCell ?_ ?_ _) | go_size | (with_reducible refine sizeOf' ?_) | (with_reducible refine sizeAdd ?_) | (dsimp only; first | (with_reducible refine sizeOf' ?_) | (with_reducible refine sizeAdd ?_))))
  rw [hx] at HX
  cases hl : lets y
  · obtain ⟨e1, e2, e3⟩ := so_no (x := x) (y := y) (fun h => by rw [h.2.1] at hl; cases hl)
    rw [e1, e2, e3]
    rw [hl] at HY
    clear e1 e2 e3 hy hx hl hy0
    generalize (x.length : Int) = a at *
    generalize (y.length : Int) = b at *
    go_enter Tryd.func14, Tryd.ntmps14
    go_wp2_with fail
    refine (HX.out _).mono ?_
    rintro e w2 ⟨rfl, hb2⟩
    have R2 := R0.next hb2
    clear hb2 R0
    go_wp2_with fail
    refine (HY.out _).mono ?_
    rintro e w3 ⟨rfl, hb3⟩
    have R3 := R2.next hb3
    clear hb3 R2
    obtain ⟨r1, r2, r3, r4, r5, r6⟩ := R3
    go_wp2
    refine bodyPost_ret (v := .tuple #[sqV [] [], .int .i64 1]) (by simp [results, Tryd.results14, go_sem, sqV, bs, r3, r4]) rfl ⟨rfl, ?_⟩
    (repeat' (first | (with_reducible exact Below.refl _ _) | (with_reducible assumption) | (with_reducible refine belowNext ?_ (by with_reducible assumption)) | (with_reducible refine belowAlloc ?_ _) | (with_reducible refine Below.drew ?_) | (with_reducible refine below_drewN ?_ _) | (with_reducible refine Below.setCell ?_ ?_ _) | go_size | (with_reducible refine sizeOf' ?_) | (with_reducible refine sizeAdd ?_) | (dsimp only; first | (with_reducible refine sizeOf' ?_) | (with_reducible refine sizeAdd ?_))))
  rw [hl] at HY
  by_cases h64 : x.length + y.length ≤ 64
  · obtain ⟨e1, e2, e3⟩ := so_yes (x := x) (y := y) ⟨hx, hl, hy0⟩ h64
    have HC := Lib.hid (fun w => implCanon x y w hy0 h64)
    have hgt : decide ((64 : Int) < (x.length : Int) + (y.length : Int)) = false := decide_eq_false (by omega)
    rw [e1, e2, e3]
    generalize (canon x y).1 = C1 at *
    generalize (canon x y).2 = C2 at *
    clear e1 e2 e3 hy hx hl hy0 h64 hx1 hy1
    generalize (x.length : Int) = a at *
    generalize (y.length : Int) = b at *
    go_enter Tryd.func14, Tryd.ntmps14
    go_wp2_with fail
    refine (HX.out _).mono ?_
    rintro e w2 ⟨rfl, hb2⟩
    have R2 := R0.next hb2
    clear hb2 R0
    go_wp2_with fail
    refine (HY.out _).mono ?_
    rintro e w3 ⟨rfl, hb3⟩
    have R3 := R2.next hb3
    clear hb3 R2
    go_wp2_with fail
    refine (HC.out _).mono ?_
    rintro e w4 ⟨rfl, hb4⟩
    have R4 := R3.next hb4
    clear hb4 R3
    obtain ⟨r1, r2, r3, r4, r5, r6⟩ := R4
    go_wp2
    refine bodyPost_ret (v := .tuple #[sqV C1 C2, .int .i64 0]) (by simp [results, Tryd.results14, go_sem, sqV, r3, r4]) rfl ⟨rfl, ?_⟩
    (repeat' (first | (with_reducible exact Below.refl _ _) | (with_reducible assumption) | (with_reducible refine belowNext ?_ (by with_reducible assumption)) | (with_reducible refine belowAlloc ?_ _) | (with_reducible refine Below.drew ?_) | (with_reducible refine below_drewN ?_ _) | (with_reducible refine Below.setCell ?_ ?_ _) | go_size | (with_reducible refine sizeOf' ?_) | (with_reducible refine sizeAdd ?_) | (dsimp only; first | (with_reducible refine sizeOf' ?_) | (with_reducible refine sizeAdd ?_))))
  · obtain ⟨e1, e2, e3⟩ := so_far (x := x) (y := y) ⟨hx, hl, hy0⟩ h64
    have hgt : decide ((64 : Int) < (x.length : Int) + (y.length : Int)) = true := decide_eq_true (by omega)
    rw [e1, e2, e3]
    clear e1 e2 e3 hy hx hl hy0 h64 hx1 hy1
    generalize (x.length : Int) = a at *
    generalize (y.length : Int) = b at *
    go_enter Tryd.func14, Tryd.ntmps14
    go_wp2_with fail
    refine (HX.out _).mono ?_
    rintro e w2 ⟨rfl, hb2⟩
    have R2 := R0.next hb2
    clear hb2 R0
    go_wp2_with fail
    refine (HY.out _).mono ?_
    rintro e w3 ⟨rfl, hb3⟩
    have R3 := R2.next hb3
    clear hb3 R2
    obtain ⟨r1, r2, r3, r4, r5, r6⟩ := R3
    go_wp2
    refine bodyPost_ret (v := .tuple #[sqV [] [], .int .i64 3]) (by simp [results, Tryd.results14, go_sem, sqV, bs, r3, r4]) rfl ⟨rfl, ?_⟩
    (repeat' (first | (with_reducible exact Below.refl _ _) | (with_reducible assumption) | (with_reducible refine belowNext ?_ (by with_reducible assumption)) | (with_reducible refine belowAlloc ?_ _) | (with_reducible refine Below.drew ?_) | (with_reducible refine below_drewN ?_ _) | (with_reducible refine Below.setCell ?_ ?_ _) | go_size | (with_reducible refine sizeOf' ?_) | (with_reducible refine sizeAdd ?_) | (dsimp only; first | (with_reducible refine sizeOf' ?_) | (with_reducible refine sizeAdd ?_))))

set_option maxHeartbeats 2000000 in
theorem specSeqOf (x y : Wd) (w : World) (hx1 : x.length ≤ 1048576) (hy1 : y.length ≤ 1048576) :
    Calls Tryd.prog 13 #[.string (bs x), .string (bs y)] w fun e w' => e = .returned (.tuple #[sqV (soS x y).1 (soS x y).2, .int .i64 (soC x y)]) ∧ Below w.heap.size w w' := by
  have hlx := fun W => lenS 9 3 x Tryd.underlying9 W
  have hly := fun W => lenS 9 3 y Tryd.underlying9 W
  obtain ⟨y1, y2, y3, y4⟩ := emp_facts y
  have HX := Lib.hid (fun w => specLetters x w hx1)
  have HY := Lib.hid (fun w => specLetters y w hy1)
  have wab : IntKind.i64.wrap ((x.length : Int) + (y.length : Int)) = (x.length : Int) + (y.length : Int) := IntWalk.i64_in _ (by omega)
  have R0 := resB0 w 26
  cases hx : lets x
  · obtain ⟨e1, e2, e3⟩ := so_no (x := x) (y := y) (fun h => by rw [h.1] at hx; cases hx)
    rw [e1, e2, e3]
    rw [hx] at HX
    clear e1 e2 e3 hx HY
    generalize (x.length : Int) = a at *
    generalize (y.length : Int) = b at *
    go_enter Tryd.func13, Tryd.ntmps13
    go_wp2_with fail
    refine (HX.out _).mono ?_
    rintro e w2 ⟨rfl, hb2⟩
    have R2 := R0.next hb2
    clear hb2 R0
    obtain ⟨r1, r2, r3, r4, r5, r6⟩ := R2
    go_wp2
    refine bodyPost_ret (v := .tuple #[sqV [] [], .int .i64 1]) (by simp [results, Tryd.results13, go_sem, sqV, bs, r3, r4]) rfl ⟨rfl, ?_⟩
    (repeat' (first | (with_reducible exact Below.refl _ _) | (with_reducible assumption) | (with_reducible refine belowNext ?_ (by with_reducible assumption)) | (with_reducible refine belowAlloc ?_ _) | (with_reducible refine Below.drew ?_) | (with_reducible refine below_drewN ?_ _) | (with_reducible refine Below.setCell ?_ ?_ _) | go_size | (with_reducible refine sizeOf' ?_) | (with_reducible refine sizeAdd ?_) | (dsimp only; first | (with_reducible refine sizeOf' ?_) | (with_reducible refine sizeAdd ?_))))
  rw [hx] at HX
  cases hl : lets y
  · obtain ⟨e1, e2, e3⟩ := so_no (x := x) (y := y) (fun h => by rw [h.2.1] at hl; cases hl)
    rw [e1, e2, e3]
    rw [hl] at HY
    clear e1 e2 e3 hx hl
    generalize (x.length : Int) = a at *
    generalize (y.length : Int) = b at *
    go_enter Tryd.func13, Tryd.ntmps13
    go_wp2_with fail
    refine (HX.out _).mono ?_
    rintro e w2 ⟨rfl, hb2⟩
    have R2 := R0.next hb2
    clear hb2 R0
    go_wp2_with fail
    refine (HY.out _).mono ?_
    rintro e w3 ⟨rfl, hb3⟩
    have R3 := R2.next hb3
    clear hb3 R2
    obtain ⟨r1, r2, r3, r4, r5, r6⟩ := R3
    go_wp2
    refine bodyPost_ret (v := .tuple #[sqV [] [], .int .i64 1]) (by simp [results, Tryd.results13, go_sem, sqV, bs, r3, r4]) rfl ⟨rfl, ?_⟩
    (repeat' (first | (with_reducible exact Below.refl _ _) | (with_reducible assumption) | (with_reducible refine belowNext ?_ (by with_reducible assumption)) | (with_reducible refine belowAlloc ?_ _) | (with_reducible refine Below.drew ?_) | (with_reducible refine below_drewN ?_ _) | (with_reducible refine Below.setCell ?_ ?_ _) | go_size | (with_reducible refine sizeOf' ?_) | (with_reducible refine sizeAdd ?_) | (dsimp only; first | (with_reducible refine sizeOf' ?_) | (with_reducible refine sizeAdd ?_))))
  rw [hl] at HY
  cases hy : decide (0 < y.length)
  · obtain ⟨e1, e2, e3⟩ := so_no (x := x) (y := y) (fun h => by rw [decide_eq_true h.2.2] at hy; cases hy)
    rw [e1, e2, e3]
    rw [hy] at y2 y3 y4
    clear e1 e2 e3 hy hx hl
    generalize (x.length : Int) = a at *
    generalize (y.length : Int) = b at *
    go_enter Tryd.func13, Tryd.ntmps13
    go_wp2_with fail
    refine (HX.out _).mono ?_
    rintro e w2 ⟨rfl, hb2⟩
    have R2 := R0.next hb2
    clear hb2 R0
    go_wp2_with fail
    refine (HY.out _).mono ?_
    rintro e w3 ⟨rfl, hb3⟩
    have R3 := R2.next hb3
    clear hb3 R2
    obtain ⟨r1, r2, r3, r4, r5, r6⟩ := R3
    go_wp2
    refine bodyPost_ret (v := .tuple #[sqV [] [], .int .i64 1]) (by simp [results, Tryd.results13, go_sem, sqV, bs, r3, r4]) rfl ⟨rfl, ?_⟩
    (repeat' (first | (with_reducible exact Below.refl _ _) | (with_reducible assumption) | (with_reducible refine belowNext ?_ (by with_reducible assumption)) | (with_reducible refine belowAlloc ?_ _) | (with_reducible refine Below.drew ?_) | (with_reducible refine below_drewN ?_ _) | (with_reducible refine Below.setCell ?_ ?_ _) | go_size | (with_reducible refine sizeOf' ?_) | (with_reducible refine sizeAdd ?_) | (dsimp only; first | (with_reducible refine sizeOf' ?_) | (with_reducible refine sizeAdd ?_))))
  have hy0 : 0 < y.length := of_decide_eq_true hy
  rw [hy] at y2 y3 y4
  by_cases h64 : x.length + y.length ≤ 64
  · obtain ⟨e1, e2, e3⟩ := so_yes (x := x) (y := y) ⟨hx, hl, hy0⟩ h64
    have HC := Lib.hid (fun w => specCanon x y w hy0 h64)
    have hgt : decide ((64 : Int) < (x.length : Int) + (y.length : Int)) = false := decide_eq_false (by omega)
    rw [e1, e2, e3]
    generalize (canon x y).1 = C1 at *
    generalize (canon x y).2 = C2 at *
    clear e1 e2 e3 hy hx hl hy0 h64 hx1 hy1
    generalize (x.length : Int) = a at *
    generalize (y.length : Int) = b at *
    go_enter Tryd.func13, Tryd.ntmps13
    go_wp2_with fail
    refine (HX.out _).mono ?_
    rintro e w2 ⟨rfl, hb2⟩
    have R2 := R0.next hb2
    clear hb2 R0
    go_wp2_with fail
    refine (HY.out _).mono ?_
    rintro e w3 ⟨rfl, hb3⟩
    have R3 := R2.next hb3
    clear hb3 R2
    go_wp2_with fail
    refine (HC.out _).mono ?_
    rintro e w4 ⟨rfl, hb4⟩
    have R4 := R3.next hb4
    clear hb4 R3
    obtain ⟨r1, r2, r3, r4, r5, r6⟩ := R4
    go_wp2
    refine bodyPost_ret (v := .tuple #[sqV C1 C2, .int .i64 0]) (by simp [results, Tryd.results13, go_sem, sqV, r3, r4]) rfl ⟨rfl, ?_⟩
    (repeat' (first | (with_reducible exact Below.refl _ _) | (with_reducible assumption) | (with_reducible refine belowNext ?_ (by with_reducible assumption)) | (with_reducible refine belowAlloc ?_ _) | (with_reducible refine Below.drew ?_) | (with_reducible refine below_drewN ?_ _) | (with_reducible refine Below.setCell ?_ ?_ _) | go_size | (with_reducible refine sizeOf' ?_) | (with_reducible refine sizeAdd ?_) | (dsimp only; first | (with_reducible refine sizeOf' ?_) | (with_reducible refine sizeAdd ?_))))
  · obtain ⟨e1, e2, e3⟩ := so_far (x := x) (y := y) ⟨hx, hl, hy0⟩ h64
    have hgt : decide ((64 : Int) < (x.length : Int) + (y.length : Int)) = true := decide_eq_true (by omega)
    rw [e1, e2, e3]
    clear e1 e2 e3 hy hx hl hy0 h64 hx1 hy1
    generalize (x.length : Int) = a at *
    generalize (y.length : Int) = b at *
    go_enter Tryd.func13, Tryd.ntmps13
    go_wp2_with fail
    refine (HX.out _).mono ?_
    rintro e w2 ⟨rfl, hb2⟩
    have R2 := R0.next hb2
    clear hb2 R0
    go_wp2_with fail
    refine (HY.out _).mono ?_
    rintro e w3 ⟨rfl, hb3⟩
    have R3 := R2.next hb3
    clear hb3 R2
    obtain ⟨r1, r2, r3, r4, r5, r6⟩ := R3
    go_wp2
    refine bodyPost_ret (v := .tuple #[sqV [] [], .int .i64 3]) (by simp [results, Tryd.results13, go_sem, sqV, bs, r3, r4]) rfl ⟨rfl, ?_⟩
    (repeat' (first | (with_reducible exact Below.refl _ _) | (with_reducible assumption) | (with_reducible refine belowNext ?_ (by with_reducible assumption)) | (with_reducible refine belowAlloc ?_ _) | (with_reducible refine Below.drew ?_) | (with_reducible refine below_drewN ?_ _) | (with_reducible refine Below.setCell ?_ ?_ _) | go_size | (with_reducible refine sizeOf' ?_) | (with_reducible refine sizeAdd ?_) | (dsimp only; first | (with_reducible refine sizeOf' ?_) | (with_reducible refine sizeAdd ?_))))

theorem eqSq (x y : Wd) (w : World) :
    Calls Tryd.prog 15 #[sqV x y, sqV x y] w fun e w' => e = .returned (.bool true) ∧ Below w.heap.size w w' := by
  go_enter Tryd.func15, Tryd.ntmps15
  go_wp2
  go_ret
  refine ⟨rfl, ?_⟩
  (repeat' (first | (with_reducible exact Below.refl _ _) | (with_reducible assumption) | (with_reducible refine belowNext ?_ (by with_reducible assumption)) | (with_reducible refine belowAlloc ?_ _) | (with_reducible refine Below.drew ?_) | (with_reducible refine below_drewN ?_ _) | (with_reducible refine Below.setCell ?_ ?_ _) | go_size | (with_reducible refine sizeOf' ?_) | (with_reducible refine sizeAdd ?_) | (dsimp only; first | (with_reducible refine sizeOf' ?_) | (with_reducible refine sizeAdd ?_))))

set_option maxHeartbeats 2000000 in
theorem lawSequenceOf (x : Wd) (_ : x.length ≤ maxLen) (y : Wd) (_ : y.length ≤ maxLen) (w : World) :
    Calls Tryd.prog 4 #[.string (bs x), .string (bs y)] w fun e w' => e = .returned (.bool true) ∧ Below w.heap.size w w' := by
  have hlx := fun W => lenS 9 3 x Tryd.underlying9 W
  have hly := fun W => lenS 9 3 y Tryd.underlying9 W
  by_cases h1 : x.length ≤ 1048576
  · have d1 : decide ((1048576 : Int) < (x.length : Int)) = false := decide_eq_false (by omega)
    by_cases h2 : y.length ≤ 1048576
    · have d2 : decide ((1048576 : Int) < (y.length : Int)) = false := decide_eq_false (by omega)
      have HA := Lib.hid (fun w => specSeqOf x y w h1 h2)
      have HB := Lib.hid (fun w => implSeqOf x y w h1 h2)
      generalize (soS x y).1 = X at *
      generalize (soS x y).2 = Y at *
      generalize soC x y = C at *
      clear h1 h2
      generalize (x.length : Int) = a at *
      generalize (y.length : Int) = b at *
      go_enter Tryd.func4, Tryd.ntmps4
      go_wp2_with fail
      refine (HA.out _).mono ?_
      rintro e w2 ⟨rfl, hb2⟩
      go_wp2_with fail
      refine (HB.out _).mono ?_
      rintro e w3 ⟨rfl, hb3⟩
      obtain ⟨hc3, hf3⟩ := bcell hb3
      have hz3 : w2.heap.size < w3.heap.size := by have := hb3.size; simp at this; omega
      go_wp2_with fail
      refine (eqSq _ _ _).mono ?_
      rintro e w4 ⟨rfl, hb4⟩
      go_wp2
      go_ret
      refine ⟨rfl, ?_⟩
      (repeat' (first | (with_reducible exact Below.refl _ _) | (with_reducible assumption) | (with_reducible refine belowNext ?_ (by with_reducible assumption)) | (with_reducible refine belowAlloc ?_ _) | (with_reducible refine Below.drew ?_) | (with_reducible refine below_drewN ?_ _) | (with_reducible refine Below.setCell ?_ ?_ _) | go_size | (with_reducible refine sizeOf' ?_) | (with_reducible refine sizeAdd ?_) | (dsimp only; first | (with_reducible refine sizeOf' ?_) | (with_reducible refine sizeAdd ?_))))
    · have d2 : decide ((1048576 : Int) < (y.length : Int)) = true := decide_eq_true (by omega)
      clear h1 h2
      generalize (x.length : Int) = a at *
      generalize (y.length : Int) = b at *
      go_enter Tryd.func4, Tryd.ntmps4
      go_wp2
      go_ret
      exact ⟨rfl, Below.refl _ _⟩
  · have d1 : decide ((1048576 : Int) < (x.length : Int)) = true := decide_eq_true (by omega)
    clear h1
    generalize (x.length : Int) = a at *
    generalize (y.length : Int) = b at *
    go_enter Tryd.func4, Tryd.ntmps4
    go_wp2
    go_ret
    exact ⟨rfl, Below.refl _ _⟩
end Go.Proofs.YtlglnhjdjpjlhaaDoor

/-
  Contracts: the width of a wake, as the model tells it; the law of WidthOf.
-/
import Derived.Test.YtlmgpecfbpcgaaaR23
import Derived.Still
import Derived.StillTactics
import Derived.StillTailTactics
namespace Go.Proofs.Ytlmgpecfbpcgaaa
open Go.RowKit

/-- What is known of the pair of an angle, in letters. -/
theorem po_facts {n d : Int} (hc : poC n d = 0) : ∃ a b x y : Int, ∃ (sp : Nat) (E F : Int), poP n d = (a, b, x, y) ∧ perS (n, d) = sp ∧ 2 ≤ sp ∧ sp ≤ 8 ∧ isAng n d = true ∧ 1 ≤ b ∧ b ≤ 8191 ∧ 0 ≤ a ∧ a < b ∧ 1 ≤ y ∧ y ≤ 8191 ∧ 0 ≤ x ∧ x < y ∧ a * y < x * b ∧ b * E = 2 ^ sp - 1 ∧ y * F = 2 ^ sp - 1 := by
  obtain ⟨b1, b2, b3, b4, b5, b6, b7, b8, b9, hang, h2, h8, g5, g6⟩ := po_bounds hc
  obtain ⟨E, hE⟩ := short_dvd (d := (poP n d).2.1) (by rw [g5]; exact Nat.le_trans (by decide) h2)
  obtain ⟨F, hF⟩ := short_dvd (d := (poP n d).2.2.2) (by rw [g6]; exact Nat.le_trans (by decide) h2)
  rw [g5] at hE
  rw [g6] at hF
  exact ⟨(poP n d).1, (poP n d).2.1, (poP n d).2.2.1, (poP n d).2.2.2, shortP d, E, F, rfl, (per_range (ang_red hang)).1 h2, h2, h8, hang, b1, b2, b3, b4, b5, b6, b7, b8, b9, hE, hF⟩

theorem width_den {sp : Nat} {b y E F : Int} (h8 : sp ≤ 8) (h2 : 2 ≤ sp) (hE : b * E = 2 ^ sp - 1) (hF : y * F = 2 ^ sp - 1) : ∃ DD D : Int, wrap64 ((2 : Int) ^ sp) = DD ∧ wrap64 (DD - 1) = D ∧ DD - 1 = D ∧ 3 ≤ D ∧ D ≤ 255 ∧ b * E = D ∧ y * F = D := by
  have hs := shl_run sp h8
  have hp := pow_le8 h8
  have hq : 4 ≤ 2 ^ sp := by
    obtain ⟨m, rfl⟩ : ∃ m, sp = m + 2 := ⟨sp - 2, by omega⟩
    have := pow_ge1 m
    rw [Nat.pow_succ, Nat.pow_succ]; omega
  have e : (2 : Int) ^ sp = ((2 ^ sp : Nat) : Int) := by rw [Int.natCast_pow]; rfl
  rw [e] at hE hF
  generalize 2 ^ sp = G at *
  have hG : wrap64 ((G : Int) - 1) = (G : Int) - 1 := IntWalk.wrap64_in _ (by omega)
  exact ⟨(G : Int), (G : Int) - 1, hs, hG, rfl, by omega, by omega, hE, hF⟩
theorem width_div {y F D : Int} (hy : 1 ≤ y) (hF : y * F = D) (d1 : 3 ≤ D) (d2 : D ≤ 255) : D.tdiv y = F ∧ D / y = F ∧ 0 ≤ F ∧ F ≤ 255 := by
  have t1 : D.tdiv y = F := by rw [← hF]; exact Int.mul_tdiv_cancel_left _ (by omega)
  have t2 : D / y = F := by rw [← hF]; exact Int.mul_ediv_cancel_left _ (by omega)
  have q0 : 0 ≤ D / y := Int.ediv_nonneg (by omega) (by omega)
  have q1 : D / y ≤ D := Int.ediv_le_self _ (by omega)
  rw [t2] at q0 q1
  exact ⟨t1, t2, q0, by omega⟩
theorem width_prod {x y F : Int} (h0 : 0 ≤ x) (h1 : x < y) (h2 : y ≤ 8191) (f0 : 0 ≤ F) (f1 : F ≤ 255) : 0 ≤ x * F ∧ x * F ≤ 67092481 := mul_bound (a := x) (b := F) (by omega) (by omega) (by omega) (by omega)
theorem width_red (x F a E D : Int) {y b : Int} (_h0 : 0 ≤ x) (_h1 : x < y) (_h2 : y ≤ 8191) (_g0 : 0 ≤ a) (_g1 : a < b) (_g2 : b ≤ 8191) (_f0 : 0 ≤ F) (_f1 : F ≤ 255) (_e0 : 0 ≤ E) (_e1 : E ≤ 255) (d1 : 3 ≤ D) (d2 : D ≤ 255) (s3 : 0 ≤ x * F - a * E) (s4 : x * F - a * E < D) :
    ∀ w, Calls Try.prog 73 #[.int .i64 (x * F - a * E), .int .i64 D] w fun e w' => e = .returned (ang (redN (x * F - a * E) D) (redD (x * F - a * E) D)) ∧ Below w.heap.size w w' := fun w => by
  generalize x * F - a * E = Z at *
  exact specRed Z D w (by omega) (by omega) (by omega) (by omega)

set_option maxRecDepth 100000 in
set_option maxHeartbeats 400000 in
theorem specWidth (n d : Int) (w : World) :
    Calls Try.prog 33 #[ang n d] w fun e w' => e = .returned (.tuple #[ang (wiA n d).1 (wiA n d).2, .int .i64 (poC n d)]) ∧ Below w.heap.size w w' := by
  have HP := Lib.hid (fun w => specPairOf n d w)
  by_cases hc : poC n d = 0
  · obtain ⟨a, b, x, y, sp, E, F, hV, hS, h2, h8, hang, b1, b2, b3, b4, b5, b6, b7, b8, b9, hE, hF⟩ := po_facts hc
    have e : wiA n d = (redN (x * b - a * y) (b * y), redD (x * b - a * y) (b * y)) := by unfold wiA; rw [if_pos hc, hV]
    have HS := Lib.hid (fun w => specPer n d w (ang_red hang))
    rw [hS] at HS
    rw [hc, hV] at HP
    rw [hc, e]
    clear hc e hang hV hS
    obtain ⟨DD, D, hs, hw2, hD, d1, d2, hE, hF⟩ := width_den (b := b) (y := y) (E := E) (F := F) h8 h2 hE hF
    obtain ⟨s1, s2, s3, s4⟩ := width_same b1 b5 b3 b7 b8 b9 hE hF (Int.le_trans (by decide) d1)
    rw [← s1, ← s2]
    obtain ⟨t1, t1', F0, F1⟩ := width_div b5 hF d1 d2
    obtain ⟨t2, t2', E0, E1⟩ := width_div b1 hE d1 d2
    have yn : ¬ y = 0 := Int.ne_of_gt (Int.lt_of_lt_of_le (by decide) b5)
    have bn : ¬ b = 0 := Int.ne_of_gt (Int.lt_of_lt_of_le (by decide) b1)
    have yb : (y == 0) = false := beq_eq_false_iff_ne.2 yn
    have bb : (b == 0) = false := beq_eq_false_iff_ne.2 bn
    have HR := Lib.hid (width_red x F a E D b7 b8 b6 b3 b4 b2 F0 F1 E0 E1 d1 d2 s3 s4)
    obtain ⟨p1, p2⟩ := width_prod b7 b8 b6 F0 F1
    obtain ⟨p3, p4⟩ := width_prod b3 b4 b2 E0 E1
    generalize redN (x * F - a * E) D = X at *
    generalize redD (x * F - a * E) D = Y at *
    clear s1 s2 hE hF b9
    go_enter Try.func33, Try.ntmps33
    go_wp2_with fail
    refine (HP.out _).mono ?_
    rintro e w1 ⟨rfl, hb1⟩
    obtain ⟨hc1, hf1⟩ := bcell hb1
    have hz1_0 : w.heap.size < w1.heap.size := by have := hb1.size; first | omega | (simp at this; omega)
    have hz1_1 : w.heap.size + 1 < w1.heap.size := by have := hb1.size; first | omega | (simp at this; omega)
    have q1_0_0 : w1.cell? ⟨w.heap.size, 0, none⟩ = some (.int .i64 n) := cellThru hb1 (by simp <;> omega) (by simp [go_sem])
    have q1_0_1 : w1.cell? ⟨w.heap.size, 1, none⟩ = some (.int .i64 d) := cellThru hb1 (by simp <;> omega) (by simp [go_sem])
    have q1_1_0 : w1.cell? ⟨w.heap.size + 1, 0, none⟩ = some (.int .i64 0) := cellThru hb1 (by simp <;> omega) (by simp [go_sem])
    have q1_1_1 : w1.cell? ⟨w.heap.size + 1, 1, none⟩ = some (.int .i64 0) := cellThru hb1 (by simp <;> omega) (by simp [go_sem])
    have j1_1_0 : w1.frozen? ⟨w.heap.size + 1, 0, none⟩ = false := frozThru hb1 (by simp <;> omega) (by simp [go_sem])
    have j1_1_1 : w1.frozen? ⟨w.heap.size + 1, 1, none⟩ = false := frozThru hb1 (by simp <;> omega) (by simp [go_sem])
    have B1 : Below w.heap.size w w1 := by
      (repeat' (first | (with_reducible exact Below.refl _ _) | (with_reducible assumption) | (with_reducible refine belowNext ?_ (by with_reducible assumption)) | (with_reducible refine belowAlloc ?_ _) | (with_reducible refine Below.drew ?_) | (with_reducible refine below_drewN ?_ _) | (with_reducible refine Below.setCell ?_ ?_ _) | go_size | (with_reducible refine sizeOf' ?_) | (with_reducible refine sizeAdd ?_) | (dsimp only; first | (with_reducible refine sizeOf' ?_) | (with_reducible refine sizeAdd ?_))))
    have hpz : w1.heap.size < (w1.alloc (.cells #[.int .i64 a, .int .i64 b, .int .i64 x, .int .i64 y] 91)).heap.size := by simp
    clear hc1 hf1 hb1
    go_wp2_with fail
    refine (HS.out _).mono ?_
    rintro e w2 ⟨rfl, hb2⟩
    have s2 := hb2.size
    simp at s2
    have c0 : w2.cell? ⟨w1.heap.size, 0, none⟩ = some (.int .i64 a) := cellThru hb2 (by simp) (by simp [go_sem])
    have c1 : w2.cell? ⟨w1.heap.size, 1, none⟩ = some (.int .i64 b) := cellThru hb2 (by simp) (by simp [go_sem])
    have c2 : w2.cell? ⟨w1.heap.size, 2, none⟩ = some (.int .i64 x) := cellThru hb2 (by simp) (by simp [go_sem])
    have c3 : w2.cell? ⟨w1.heap.size, 3, none⟩ = some (.int .i64 y) := cellThru hb2 (by simp) (by simp [go_sem])
    have up : Below w1.heap.size w1 w2 := by
      (repeat' (first | (with_reducible exact Below.refl _ _) | (with_reducible assumption) | (with_reducible refine belowNext ?_ (by with_reducible assumption)) | (with_reducible refine belowAlloc ?_ _) | (with_reducible refine Below.drew ?_) | (with_reducible refine below_drewN ?_ _) | (with_reducible refine Below.setCell ?_ ?_ _) | go_size | (with_reducible refine sizeOf' ?_) | (with_reducible refine sizeAdd ?_) | (dsimp only; first | (with_reducible refine sizeOf' ?_) | (with_reducible refine sizeAdd ?_))))
    have k0 := cellThru up hz1_1 q1_1_0
    have k1 := cellThru up hz1_1 q1_1_1
    have f0 := frozThru up hz1_1 j1_1_0
    have f1 := frozThru up hz1_1 j1_1_1
    have B2 := belowNext B1 up
    have z2 : w.heap.size + 1 < w2.heap.size := by omega
    clear hb2 up q1_0_0 q1_0_1 q1_1_0 q1_1_1 j1_1_0 j1_1_1 B1
    go_wp2_with fail
    go_still_tail 20, (by kernel_rfl)
    change wpList _ _ _ _ _ w2.drew
    have k0' : w2.drew.cell? ⟨w.heap.size + 1, 0, none⟩ = some (.int .i64 0) := k0
    have k1' : w2.drew.cell? ⟨w.heap.size + 1, 1, none⟩ = some (.int .i64 0) := k1
    have f0' : w2.drew.frozen? ⟨w.heap.size + 1, 0, none⟩ = false := f0
    have f1' : w2.drew.frozen? ⟨w.heap.size + 1, 1, none⟩ = false := f1
    have z2' : w.heap.size + 1 < w2.drew.heap.size := z2
    go_wp2_with fail
    refine (HR.out _).mono ?_
    rintro e w3 ⟨rfl, hb3⟩
    have k0 := cellThru hb3 z2' k0'
    have k1 := cellThru hb3 z2' k1'
    have f0 := frozThru hb3 z2' f0'
    have f1 := frozThru hb3 z2' f1'
    have B3 : Below w.heap.size w w3 := belowNext B2.drew hb3
    clear hb3
    go_wp2
    refine bodyPost_ret (v := .tuple #[ang X Y, .int .i64 0]) (by simp [results, Try.results33, go_sem, k0, k1]) rfl ⟨rfl, ?_⟩
    have hle1 : w.heap.size ≤ w.heap.size + 1 := Nat.le_succ _
    exact (B3.setCell hle1 _).setCell hle1 _
  · have e : wiA n d = (0, 0) := if_neg hc
    have hcb : (poC n d == 0) = false := beq_eq_false_iff_ne.2 hc
    rw [e]
    generalize poC n d = c at *
    generalize poP n d = V at *
    obtain ⟨a, b, x, y⟩ := V
    try dsimp only at HP
    clear e
    go_enter Try.func33, Try.ntmps33
    go_wp2_with fail
    refine (HP.out _).mono ?_
    rintro e w1 ⟨rfl, hb1⟩
    obtain ⟨hc1, hf1⟩ := bcell hb1
    have hz1_0 : w.heap.size < w1.heap.size := by have := hb1.size; first | omega | (simp at this; omega)
    have hz1_1 : w.heap.size + 1 < w1.heap.size := by have := hb1.size; first | omega | (simp at this; omega)
    have q1_1_0 : w1.cell? ⟨w.heap.size + 1, 0, none⟩ = some (.int .i64 0) := cellThru hb1 (by simp <;> omega) (by simp [go_sem])
    have q1_1_1 : w1.cell? ⟨w.heap.size + 1, 1, none⟩ = some (.int .i64 0) := cellThru hb1 (by simp <;> omega) (by simp [go_sem])
    go_wp2
    refine bodyPost_ret (v := .tuple #[ang 0 0, .int .i64 c]) (by simp [results, Try.results33, go_sem, q1_1_0, q1_1_1, hz1_1]) rfl ⟨rfl, ?_⟩
    (repeat' (first | (with_reducible exact Below.refl _ _) | (with_reducible assumption) | (with_reducible refine belowNext ?_ (by with_reducible assumption)) | (with_reducible refine belowAlloc ?_ _) | (with_reducible refine Below.drew ?_) | (with_reducible refine below_drewN ?_ _) | (with_reducible refine Below.setCell ?_ ?_ _) | go_size | (with_reducible refine sizeOf' ?_) | (with_reducible refine sizeAdd ?_) | (dsimp only; first | (with_reducible refine sizeOf' ?_) | (with_reducible refine sizeAdd ?_))))

set_option maxHeartbeats 1000000 in
theorem lawWidthOf (n d : Int) (_ : (Lit.int .i64 n).wf = true) (_ : (Lit.int .i64 d).wf = true) (w : World) :
    Calls Try.prog 9 #[ang n d] w fun e w' => e = .returned (.bool true) ∧ Below w.heap.size w w' := by
  have HS := Lib.hid (fun w => specWidth n d w)
  have HI := Lib.hid (fun w => implWidth n d w)
  generalize wiA n d = V at *
  obtain ⟨a, b⟩ := V
  try dsimp only at HS HI
  generalize poC n d = c at *
  go_enter Try.func9, Try.ntmps9
  go_wp2_with fail
  refine (toAngX _ _ _).mono ?_
  rintro e w1 ⟨rfl, rfl⟩
  go_wp2_with fail
  refine (HS.out _).mono ?_
  rintro e w2 ⟨rfl, hb2⟩
  have s2 := hb2.size
  simp at s2
  have k0 : w2.cell? ⟨w.heap.size, 0, none⟩ = some (.int .i64 n) := cellThru hb2 (by simp <;> omega) (by simp [go_sem])
  have k1 : w2.cell? ⟨w.heap.size, 1, none⟩ = some (.int .i64 d) := cellThru hb2 (by simp <;> omega) (by simp [go_sem])
  have z2 : w.heap.size < w2.heap.size := by omega
  have B2 : Below w.heap.size w w2 := by
    (repeat' (first | (with_reducible exact Below.refl _ _) | (with_reducible assumption) | (with_reducible refine belowNext ?_ (by with_reducible assumption)) | (with_reducible refine belowAlloc ?_ _) | (with_reducible refine Below.drew ?_) | (with_reducible refine below_drewN ?_ _) | (with_reducible refine Below.setCell ?_ ?_ _) | go_size | (with_reducible refine sizeOf' ?_) | (with_reducible refine sizeAdd ?_) | (dsimp only; first | (with_reducible refine sizeOf' ?_) | (with_reducible refine sizeAdd ?_))))
  clear hb2 s2
  go_wp2_with fail
  refine (toAngX _ _ _).mono ?_
  rintro e w3 ⟨rfl, rfl⟩
  go_wp2_with fail
  refine (HI.out _).mono ?_
  rintro e w4 ⟨rfl, hb4⟩
  have s4 := hb4.size
  simp at s4
  have m0 : w4.cell? ⟨w2.heap.size, 0, none⟩ = some (.int .i64 a) := cellThru hb4 (by simp <;> omega) (by simp [go_sem])
  have m1 : w4.cell? ⟨w2.heap.size, 1, none⟩ = some (.int .i64 b) := cellThru hb4 (by simp <;> omega) (by simp [go_sem])
  have z4 : w2.heap.size < w4.heap.size := by omega
  go_wp2_with fail
  refine (eqAngSame _ _ _).mono ?_
  rintro e w5 ⟨rfl, hb5⟩
  go_wp2
  go_ret
  refine ⟨rfl, ?_⟩
  (repeat' (first | (with_reducible exact Below.refl _ _) | (with_reducible assumption) | (with_reducible refine belowNext ?_ (by with_reducible assumption)) | (with_reducible refine belowAlloc ?_ _) | (with_reducible refine Below.drew ?_) | (with_reducible refine below_drewN ?_ _) | (with_reducible refine Below.setCell ?_ ?_ _) | go_size | (with_reducible refine sizeOf' ?_) | (with_reducible refine sizeAdd ?_) | (dsimp only; first | (with_reducible refine sizeOf' ?_) | (with_reducible refine sizeAdd ?_))))

end Go.Proofs.Ytlmgpecfbpcgaaa

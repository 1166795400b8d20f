/-
  Contracts: the width of a wake; the law of WidthOf.
-/
import Derived.Test.YtlmgpecfbpcgaaaR20
import Derived.Test.YtlmgpecfbpcgaaaR17
import Derived.Test.YtlmgpecfbpcgaaaWF
import Derived.Still
import Derived.StillTactics
import Derived.StillTailTactics
namespace Go.Proofs.Ytlmgpecfbpcgaaa
open Go.RowKit

/-- What WidthOf answers. -/
def wiA (n d : Int) : Int × Int := if poC n d = 0 then (redN ((poP n d).2.2.1 * (poP n d).2.1 - (poP n d).1 * (poP n d).2.2.2) ((poP n d).2.1 * (poP n d).2.2.2), redD ((poP n d).2.2.1 * (poP n d).2.1 - (poP n d).1 * (poP n d).2.2.2) ((poP n d).2.1 * (poP n d).2.2.2)) else (0, 0)

/-- What is known of the pair of an angle. -/
theorem po_bounds {n d : Int} (hc : poC n d = 0) : 1 ≤ (poP n d).2.1 ∧ (poP n d).2.1 ≤ 8191 ∧ 0 ≤ (poP n d).1 ∧ (poP n d).1 < (poP n d).2.1 ∧ 1 ≤ (poP n d).2.2.2 ∧ (poP n d).2.2.2 ≤ 8191 ∧ 0 ≤ (poP n d).2.2.1 ∧ (poP n d).2.2.1 < (poP n d).2.2.2 ∧
    (poP n d).1 * (poP n d).2.2.2 < (poP n d).2.2.1 * (poP n d).2.1 ∧ isAng n d = true ∧ 2 ≤ shortP d ∧ shortP d ≤ 8 ∧ shortP (poP n d).2.1 = shortP d ∧ shortP (poP n d).2.2.2 = shortP d := by
  have hcase : isAng n d = true ∧ 2 ≤ shortP d := by
    rcases po_cases n d with ⟨h1, h2, h3⟩ | ⟨h1, h2, h3, h4⟩ | ⟨h1, h2, h3, h4⟩
    · omega
    · omega
    · exact ⟨h1, h2⟩
  obtain ⟨q, _, _, g3, g4, g5, g6⟩ := po_good hcase.1 hcase.2
  rw [← g3] at g4 g5 g6
  obtain ⟨r1, r2, l⟩ := isLf_yes g4
  exact ⟨r1.1, r1.2.1, r1.2.2.1, r1.2.2.2.1, r2.1, r2.2.1, r2.2.2.1, r2.2.2.2.1, of_decide_eq_true l, hcase.1, hcase.2, shortP_le d, g5, g6⟩
/-- The difference over the product, and over the Den of the period. -/
theorem width_same {a b x y e f D : Int} (hb : 1 ≤ b) (hy : 1 ≤ y) (ha : 0 ≤ a) (_hx : 0 ≤ x) (hxy : x < y) (hlt : a * y < x * b) (he : b * e = D) (hf : y * f = D) (hD : 1 ≤ D) :
    redN (x * f - a * e) D = redN (x * b - a * y) (b * y) ∧ redD (x * f - a * e) D = redD (x * b - a * y) (b * y) ∧ 0 ≤ x * f - a * e ∧ x * f - a * e < D := by
  have hf0 : 0 < f := by
    rcases Int.lt_or_le 0 f with h | h
    · exact h
    · have := Int.mul_nonneg (show 0 ≤ y by omega) (show 0 ≤ -f by omega)
      rw [Int.mul_neg] at this; omega
  have he0 : 0 < e := by
    rcases Int.lt_or_le 0 e with h | h
    · exact h
    · have := Int.mul_nonneg (show 0 ≤ b by omega) (show 0 ≤ -e by omega)
      rw [Int.mul_neg] at this; omega
  have hby : 0 < b * y := Int.mul_pos (by omega) (by omega)
  have cr : (x * f - a * e) * (b * y) = (x * b - a * y) * D := by
    have e1 : x * f * (b * y) = x * b * D := by rw [← hf]; ac_rfl
    have e2 : a * e * (b * y) = a * y * D := by rw [← he]; ac_rfl
    rw [Int.sub_mul, Int.sub_mul, e1, e2]
  have p0 : 0 ≤ x * b - a * y := by omega
  have ay : 0 ≤ a * y := Int.mul_nonneg ha (by omega)
  have p1 : x * b - a * y < b * y := by
    have : x * b < y * b := Int.mul_lt_mul_of_pos_right hxy (by omega)
    rw [Int.mul_comm y b] at this; omega
  have ae : 0 ≤ a * e := Int.mul_nonneg ha (by omega)
  have q1 : x * f - a * e < D := by
    have : x * f < y * f := Int.mul_lt_mul_of_pos_right hxy hf0
    omega
  have q0 : 0 ≤ x * f - a * e := by
    rcases Int.lt_or_le (x * f - a * e) 0 with h | h
    · have h1 := Int.mul_neg_of_neg_of_pos h hby
      have h2 := Int.mul_nonneg p0 (show 0 ≤ D by omega)
      rw [cr] at h1; omega
    · exact h
  obtain ⟨s1, s2⟩ := red_same q0 q1 p0 p1 cr
  exact ⟨s1, s2, q0, q1⟩

set_option maxRecDepth 100000 in
set_option maxHeartbeats 600000 in
theorem implWidth (n d : Int) (w : World) :
    Calls Try.prog 34 #[ang n d] w fun e w' => e = .returned (.tuple #[ang (wiA n d).1 (wiA n d).2, .int .i64 (poC n d)]) ∧ Below w.heap.size w w' := by
  have HP := Lib.hid (fun w => implPairOf n d w)
  by_cases hc : poC n d = 0
  · have e : wiA n d = _ := if_pos hc
    obtain ⟨b1, b2, b3, b4, b5, b6, b7, b8, b9, -⟩ := po_bounds hc
    rw [hc] at HP ⊢
    rw [e]
    generalize poP n d = V at *
    obtain ⟨a, b, x, y⟩ := V
    dsimp only at HP b1 b2 b3 b4 b5 b6 b7 b8 b9 ⊢
    clear hc e
    have HR := Lib.hid (fun w => implWF a b x y w ⟨b1, b2, b3, b4⟩ ⟨b5, b6, b7, b8⟩)
    generalize redN (x * b - a * y) (b * y) = X at *
    generalize redD (x * b - a * y) (b * y) = Y at *
    go_enter Try.func34, Try.ntmps34
    go_wp2_with fail
    refine (HP.out _).mono ?_
    rintro e w1 ⟨rfl, hb1⟩
    obtain ⟨hc1, hf1⟩ := bcell hb1
    have hz1_0 : w.heap.size < w1.heap.size := by have := hb1.size; first | omega | (simp at this; omega)
    have hz1_1 : w.heap.size + 1 < w1.heap.size := by have := hb1.size; first | omega | (simp at this; omega)
    have q1_1_0 : w1.cell? ⟨w.heap.size + 1, 0, none⟩ = some (.int .i64 0) := cellThru hb1 (by simp <;> omega) (by simp [go_sem])
    have q1_1_1 : w1.cell? ⟨w.heap.size + 1, 1, none⟩ = some (.int .i64 0) := cellThru hb1 (by simp <;> omega) (by simp [go_sem])
    have j1_1_0 : w1.frozen? ⟨w.heap.size + 1, 0, none⟩ = false := frozThru hb1 (by simp <;> omega) (by simp [go_sem])
    have j1_1_1 : w1.frozen? ⟨w.heap.size + 1, 1, none⟩ = false := frozThru hb1 (by simp <;> omega) (by simp [go_sem])
    have B1 : Below w.heap.size w w1 := by
      (repeat' (first | (with_reducible exact Below.refl _ _) | (with_reducible assumption) | (with_reducible refine belowNext ?_ (by with_reducible assumption)) | (with_reducible refine belowAlloc ?_ _) | (with_reducible refine Below.drew ?_) | (with_reducible refine below_drewN ?_ _) | (with_reducible refine Below.setCell ?_ ?_ _) | go_size | (with_reducible refine sizeOf' ?_) | (with_reducible refine sizeAdd ?_) | (dsimp only; first | (with_reducible refine sizeOf' ?_) | (with_reducible refine sizeAdd ?_))))
    clear hc1 hf1 hb1
    all_goals
      go_wp2_with fail
      refine (HR.out _).mono ?_
      rintro e w3 ⟨rfl, hb3⟩
      have up : Below w1.heap.size w1 w3 := by
        (repeat' (first | (with_reducible exact Below.refl _ _) | (with_reducible assumption) | (with_reducible refine belowNext ?_ (by with_reducible assumption)) | (with_reducible refine belowAlloc ?_ _) | (with_reducible refine Below.drew ?_) | (with_reducible refine below_drewN ?_ _) | (with_reducible refine Below.setCell ?_ ?_ _) | go_size | (with_reducible refine sizeOf' ?_) | (with_reducible refine sizeAdd ?_) | (dsimp only; first | (with_reducible refine sizeOf' ?_) | (with_reducible refine sizeAdd ?_))))
      have k0 := cellThru up hz1_1 q1_1_0
      have k1 := cellThru up hz1_1 q1_1_1
      have f0 := frozThru up hz1_1 j1_1_0
      have f1 := frozThru up hz1_1 j1_1_1
      have B3 := belowNext B1 up
      clear hb3 up
      go_wp2
      refine bodyPost_ret (v := .tuple #[ang X Y, .int .i64 0]) (by simp [results, Try.results34, go_sem, k0, k1]) rfl ⟨rfl, ?_⟩
      have hle1 : w.heap.size ≤ w.heap.size + 1 := Nat.le_succ _
      exact (B3.setCell hle1 _).setCell hle1 _
  · have e : wiA n d = (0, 0) := if_neg hc
    have hcb : (poC n d == 0) = false := beq_eq_false_iff_ne.2 hc
    rw [e]
    generalize poC n d = c at *
    generalize poP n d = V at *
    obtain ⟨a, b, x, y⟩ := V
    try dsimp only at HP
    clear e
    go_enter Try.func34, Try.ntmps34
    go_wp2_with fail
    refine (HP.out _).mono ?_
    rintro e w1 ⟨rfl, hb1⟩
    obtain ⟨hc1, hf1⟩ := bcell hb1
    have hz1_0 : w.heap.size < w1.heap.size := by have := hb1.size; first | omega | (simp at this; omega)
    have hz1_1 : w.heap.size + 1 < w1.heap.size := by have := hb1.size; first | omega | (simp at this; omega)
    have q1_1_0 : w1.cell? ⟨w.heap.size + 1, 0, none⟩ = some (.int .i64 0) := cellThru hb1 (by simp <;> omega) (by simp [go_sem])
    have q1_1_1 : w1.cell? ⟨w.heap.size + 1, 1, none⟩ = some (.int .i64 0) := cellThru hb1 (by simp <;> omega) (by simp [go_sem])
    go_wp2
    refine bodyPost_ret (v := .tuple #[ang 0 0, .int .i64 c]) (by simp [results, Try.results34, go_sem, q1_1_0, q1_1_1, hz1_1]) rfl ⟨rfl, ?_⟩
    (repeat' (first | (with_reducible exact Below.refl _ _) | (with_reducible assumption) | (with_reducible refine belowNext ?_ (by with_reducible assumption)) | (with_reducible refine belowAlloc ?_ _) | (with_reducible refine Below.drew ?_) | (with_reducible refine below_drewN ?_ _) | (with_reducible refine Below.setCell ?_ ?_ _) | go_size | (with_reducible refine sizeOf' ?_) | (with_reducible refine sizeAdd ?_) | (dsimp only; first | (with_reducible refine sizeOf' ?_) | (with_reducible refine sizeAdd ?_))))

end Go.Proofs.Ytlmgpecfbpcgaaa

/-
  Contracts: the partner of an angle, as the program tells it.
-/
import Derived.Test.YtillliangojdkaaR11
namespace Go.Proofs.Ytillliangojdkaa
open Go.RowKit

/-- What PartnerOf answers. -/
def paA (n d : Int) : Int × Int := if poC n d = 0 then (if eqA (poP n d).1 (poP n d).2.1 n d then ((poP n d).2.2.1, (poP n d).2.2.2) else ((poP n d).1, (poP n d).2.1)) else (0, 0)
theorem pa_cases (n d : Int) : (poC n d ≠ 0 ∧ paA n d = (0, 0)) ∨ (poC n d = 0 ∧ eqA (poP n d).1 (poP n d).2.1 n d = true ∧ paA n d = ((poP n d).2.2.1, (poP n d).2.2.2)) ∨ (poC n d = 0 ∧ eqA (poP n d).1 (poP n d).2.1 n d = false ∧ paA n d = ((poP n d).1, (poP n d).2.1)) := by
  unfold paA
  by_cases h : poC n d = 0
  · cases h2 : eqA (poP n d).1 (poP n d).2.1 n d
    · exact .inr (.inr ⟨h, rfl, by simp [h]⟩)
    · exact .inr (.inl ⟨h, rfl, by simp [h]⟩)
  · exact .inl ⟨h, by simp [h]⟩

set_option maxRecDepth 100000 in
set_option maxHeartbeats 1000000 in
theorem implPartner (n d : Int) (w : World) :
    Calls Try.prog 32 #[ang n d] w fun e w' => e = .returned (.tuple #[ang (paA n d).1 (paA n d).2, .int .i64 (poC n d)]) ∧ Below w.heap.size w w' := by
  have HP := Lib.hid (fun w => implPairOf n d w)
  rcases pa_cases n d with ⟨h1, h2⟩ | ⟨h1, h2, h3⟩ | ⟨h1, h2, h3⟩
  · have hcb : (poC n d == 0) = false := beq_eq_false_iff_ne.2 h1
    rw [h2]
    generalize poC n d = c at *
    generalize poP n d = p at *
    obtain ⟨a, b, x, y⟩ := p
    try dsimp only at HP
    clear h2
    go_enter Try.func32, Try.ntmps32
    go_wp2_with fail
    refine (HP.out _).mono ?_
    rintro e w1 ⟨rfl, hb1⟩
    obtain ⟨hc1, hf1⟩ := bcell hb1
    have hz1_0 : w.heap.size < w1.heap.size := by have := hb1.size; first | omega | (simp at this; omega)
    have hz1_1 : w.heap.size + 1 < w1.heap.size := by have := hb1.size; first | omega | (simp at this; omega)
    have q1_1_0 : w1.cell? ⟨w.heap.size + 1, 0, none⟩ = some (.int .i64 0) := cellThru hb1 (by simp <;> omega) (by simp [go_sem])
    have q1_1_1 : w1.cell? ⟨w.heap.size + 1, 1, none⟩ = some (.int .i64 0) := cellThru hb1 (by simp <;> omega) (by simp [go_sem])
    go_wp2
    refine bodyPost_ret (v := .tuple #[ang 0 0, .int .i64 c]) (by simp [results, Try.results32, go_sem, q1_1_0, q1_1_1, hz1_1]) rfl ⟨rfl, ?_⟩
    (repeat' (first | (with_reducible exact Below.refl _ _) | (with_reducible assumption) | (with_reducible refine belowNext ?_ (by with_reducible assumption)) | (with_reducible refine belowAlloc ?_ _) | (with_reducible refine Below.drew ?_) | (with_reducible refine below_drewN ?_ _) | (with_reducible refine Below.setCell ?_ ?_ _) | go_size | (with_reducible refine sizeOf' ?_) | (with_reducible refine sizeAdd ?_) | (dsimp only; first | (with_reducible refine sizeOf' ?_) | (with_reducible refine sizeAdd ?_))))
  · rw [h1] at HP ⊢
    rw [h3]
    generalize poP n d = p at *
    obtain ⟨a, b, x, y⟩ := p
    dsimp only at HP h2 ⊢
    have Q1 := fun W => eqlAng a b n d W
    rw [h2] at Q1
    clear h1 h2 h3
    go_enter Try.func32, Try.ntmps32
    go_wp2_with fail
    refine (HP.out _).mono ?_
    rintro e w1 ⟨rfl, hb1⟩
    obtain ⟨hc1, hf1⟩ := bcell hb1
    have hz1_0 : w.heap.size < w1.heap.size := by have := hb1.size; first | omega | (simp at this; omega)
    have hz1_1 : w.heap.size + 1 < w1.heap.size := by have := hb1.size; first | omega | (simp at this; omega)
    have q1_0_0 : w1.cell? ⟨w.heap.size, 0, none⟩ = some (.int .i64 n) := cellThru hb1 (by simp <;> omega) (by simp [go_sem])
    have q1_0_1 : w1.cell? ⟨w.heap.size, 1, none⟩ = some (.int .i64 d) := cellThru hb1 (by simp <;> omega) (by simp [go_sem])
    have q1_1_0 : w1.cell? ⟨w.heap.size + 1, 0, none⟩ = some (.int .i64 0) := cellThru hb1 (by simp <;> omega) (by simp [go_sem])
    have q1_1_1 : w1.cell? ⟨w.heap.size + 1, 1, none⟩ = some (.int .i64 0) := cellThru hb1 (by simp <;> omega) (by simp [go_sem])
    go_wp2
    refine bodyPost_ret (v := .tuple #[ang x y, .int .i64 0]) (by simp [results, Try.results32, go_sem, q1_1_0, q1_1_1, hz1_1]) rfl ⟨rfl, ?_⟩
    (repeat' (first | (with_reducible exact Below.refl _ _) | (with_reducible assumption) | (with_reducible refine belowNext ?_ (by with_reducible assumption)) | (with_reducible refine belowAlloc ?_ _) | (with_reducible refine Below.drew ?_) | (with_reducible refine below_drewN ?_ _) | (with_reducible refine Below.setCell ?_ ?_ _) | go_size | (with_reducible refine sizeOf' ?_) | (with_reducible refine sizeAdd ?_) | (dsimp only; first | (with_reducible refine sizeOf' ?_) | (with_reducible refine sizeAdd ?_))))
  · rw [h1] at HP ⊢
    rw [h3]
    generalize poP n d = p at *
    obtain ⟨a, b, x, y⟩ := p
    dsimp only at HP h2 ⊢
    have Q1 := fun W => eqlAng a b n d W
    rw [h2] at Q1
    clear h1 h2 h3
    go_enter Try.func32, Try.ntmps32
    go_wp2_with fail
    refine (HP.out _).mono ?_
    rintro e w1 ⟨rfl, hb1⟩
    obtain ⟨hc1, hf1⟩ := bcell hb1
    have hz1_0 : w.heap.size < w1.heap.size := by have := hb1.size; first | omega | (simp at this; omega)
    have hz1_1 : w.heap.size + 1 < w1.heap.size := by have := hb1.size; first | omega | (simp at this; omega)
    have q1_0_0 : w1.cell? ⟨w.heap.size, 0, none⟩ = some (.int .i64 n) := cellThru hb1 (by simp <;> omega) (by simp [go_sem])
    have q1_0_1 : w1.cell? ⟨w.heap.size, 1, none⟩ = some (.int .i64 d) := cellThru hb1 (by simp <;> omega) (by simp [go_sem])
    have q1_1_0 : w1.cell? ⟨w.heap.size + 1, 0, none⟩ = some (.int .i64 0) := cellThru hb1 (by simp <;> omega) (by simp [go_sem])
    have q1_1_1 : w1.cell? ⟨w.heap.size + 1, 1, none⟩ = some (.int .i64 0) := cellThru hb1 (by simp <;> omega) (by simp [go_sem])
    go_wp2
    refine bodyPost_ret (v := .tuple #[ang a b, .int .i64 0]) (by simp [results, Try.results32, go_sem, q1_1_0, q1_1_1, hz1_1]) rfl ⟨rfl, ?_⟩
    (repeat' (first | (with_reducible exact Below.refl _ _) | (with_reducible assumption) | (with_reducible refine belowNext ?_ (by with_reducible assumption)) | (with_reducible refine belowAlloc ?_ _) | (with_reducible refine Below.drew ?_) | (with_reducible refine below_drewN ?_ _) | (with_reducible refine Below.setCell ?_ ?_ _) | go_size | (with_reducible refine sizeOf' ?_) | (with_reducible refine sizeAdd ?_) | (dsimp only; first | (with_reducible refine sizeOf' ?_) | (with_reducible refine sizeAdd ?_))))

end Go.Proofs.Ytillliangojdkaa

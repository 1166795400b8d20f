/-
  Contracts: letters, as the model has them; LetterOf.
-/
import Derived.Test.YtjomgbjiognmmaaW21
import Derived.Laws.BytesArg
namespace Go.Proofs.Ytjomgbjiognmmaa
open Go.RowKit

theorem ltr_cases (n d m c : Int) : (eqA (redN (2 * n) d) (redD (2 * n) d) m c = true ∧ ltrI n d m c = 42) ∨
    (eqA (redN (2 * n) d) (redD (2 * n) d) m c = false ∧ m * d < 2 * c * n ∧ 2 * c * n < (m + c) * d ∧ ltrI n d m c = 49) ∨
    (eqA (redN (2 * n) d) (redD (2 * n) d) m c = false ∧ m * d < 2 * c * n ∧ (m + c) * d ≤ 2 * c * n ∧ ltrI n d m c = 48) ∨
    (eqA (redN (2 * n) d) (redD (2 * n) d) m c = false ∧ 2 * c * n ≤ m * d ∧ ltrI n d m c = 48) := by
  unfold ltrI midB
  cases eqA (redN (2 * n) d) (redD (2 * n) d) m c
  · by_cases h1 : m * d < 2 * c * n
    · by_cases h2 : 2 * c * n < (m + c) * d
      · simp [h1, h2]
      · have : (m + c) * d ≤ 2 * c * n := by omega
        simp [h1, h2, this]
    · have : 2 * c * n ≤ m * d := by omega
      simp [h1, this]
  · simp

set_option maxHeartbeats 1000000 in
theorem specLet (n d m c : Int) (w : World) (h1 : angOk n d) (h2 : angOk m c) :
    Calls Try.prog 70 #[ang n d, ang m c] w fun e w' => e = .returned (.int .u8 (ltrI n d m c)) ∧ Below w.heap.size w w' := by
  obtain ⟨a1, a2, a3, a4⟩ := h1
  have HD := Lib.hid (fun w => specDbl n d w a1 a2 a3 (by omega))
  obtain ⟨b1, b2, b3, b4⟩ := h2
  obtain ⟨p1, p2⟩ := mul_boundW (a := 2 * c) (b := n) (by omega) (by omega) (by omega) (by omega)
  obtain ⟨q1, q2⟩ := mul_boundW (a := m) (b := d) (by omega) (by omega) (by omega) (by omega)
  obtain ⟨r1, r2⟩ := mul_boundW (a := m + c) (b := d) (by omega) (by omega) (by omega) (by omega)
  have hcase := ltr_cases n d m c
  generalize ltrI n d m c = L at *
  generalize redN (2 * n) d = p at *
  generalize redD (2 * n) d = q at *
  have Q1 := fun W => eqlAng p q m c W
  generalize eqA p q m c = E at *
  rcases hcase with ⟨rfl, hL⟩ | ⟨rfl, g1, g2, hL⟩ | ⟨rfl, g1, g2, hL⟩ | ⟨rfl, g1, hL⟩
  all_goals
    have HL := Lib.hid hL
    clear hL
    go_enter Try.func70, Try.ntmps70
    go_wp2_with fail
    go_region_held3 (fun w' => w.heap.size + 1 < w'.heap.size ∧ Below w.heap.size w w' ∧ w'.cell? ⟨w.heap.size, 0, none⟩ = some (.int .i64 n) ∧ w'.cell? ⟨w.heap.size, 1, none⟩ = some (.int .i64 d) ∧ w'.cell? ⟨w.heap.size + 1, 0, none⟩ = some (.int .i64 m) ∧ w'.cell? ⟨w.heap.size + 1, 1, none⟩ = some (.int .i64 c))
      (first | exact keep2 (by assumption) (by assumption) | (refine ⟨by simp, ?_, by simp [go_sem], by simp [go_sem], by simp [go_sem], by simp [go_sem]⟩; (repeat' (first | (with_reducible exact Below.refl _ _) | (with_reducible assumption) | (with_reducible refine belowNext ?_ (by with_reducible assumption)) | (with_reducible refine belowAlloc ?_ _) | (with_reducible refine Below.drew ?_) | (with_reducible refine below_drewN ?_ _) | (with_reducible refine Below.setCell ?_ ?_ _) | go_size | (with_reducible refine sizeOf' ?_) | (with_reducible refine sizeAdd ?_) | (dsimp only; first | (with_reducible refine sizeOf' ?_) | (with_reducible refine sizeAdd ?_))))))
      (first | (go_at_call 74; (with_reducible refine (HD.out _).mono ?_); rintro e w1 ⟨rfl, hb1⟩))
    rename_i hHeld
    obtain ⟨hz, hB, c0, c1, c2, c3⟩ := hHeld
    clear hb1
    have hz3 : w.heap.size < w1.heap.size := by omega
    go_wp2
    go_ret
    refine ⟨by rw [HL.out]; rfl, ?_⟩
    (repeat' (first | (with_reducible exact Below.refl _ _) | (with_reducible assumption) | (with_reducible refine belowNext ?_ (by with_reducible assumption)) | (with_reducible refine belowAlloc ?_ _) | (with_reducible refine Below.drew ?_) | (with_reducible refine below_drewN ?_ _) | (with_reducible refine Below.setCell ?_ ?_ _) | go_size | (with_reducible refine sizeOf' ?_) | (with_reducible refine sizeAdd ?_) | (dsimp only; first | (with_reducible refine sizeOf' ?_) | (with_reducible refine sizeAdd ?_))))

/-- The text of a letter, and a code. -/
def ltrS (n d m c : Int) : ByteArray := if sumOk n d m c then ⟨#[(ltrI n d m c).toNat.toUInt8]⟩ else ⟨#[]⟩
def ltrC (n d m c : Int) : Int := if sumOk n d m c then 0 else 1
abbrev resS (s : ByteArray) (c : Int) : Value := .tuple #[.string s, .int .i64 c]
theorem ltr_three (n d m c : Int) : ltrI n d m c = 42 ∨ ltrI n d m c = 49 ∨ ltrI n d m c = 48 := by
  unfold ltrI; split
  · exact .inl rfl
  · split
    · exact .inr (.inl rfl)
    · exact .inr (.inr rfl)
theorem ltr_all (n d m c : Int) : (isAng n d = false ∧ ltrS n d m c = ⟨#[]⟩ ∧ ltrC n d m c = 1) ∨ (isAng n d = true ∧ isAng m c = false ∧ ltrS n d m c = ⟨#[]⟩ ∧ ltrC n d m c = 1) ∨
    (isAng n d = true ∧ isAng m c = true ∧ ltrI n d m c = 42 ∧ ltrS n d m c = ⟨#[42]⟩ ∧ ltrC n d m c = 0) ∨
    (isAng n d = true ∧ isAng m c = true ∧ ltrI n d m c = 49 ∧ ltrS n d m c = ⟨#[49]⟩ ∧ ltrC n d m c = 0) ∨
    (isAng n d = true ∧ isAng m c = true ∧ ltrI n d m c = 48 ∧ ltrS n d m c = ⟨#[48]⟩ ∧ ltrC n d m c = 0) := by
  unfold ltrS ltrC sumOk
  cases isAng n d <;> cases isAng m c <;> simp
  rcases ltr_three n d m c with h | h | h <;> rw [h] <;> simp

end Go.Proofs.Ytjomgbjiognmmaa

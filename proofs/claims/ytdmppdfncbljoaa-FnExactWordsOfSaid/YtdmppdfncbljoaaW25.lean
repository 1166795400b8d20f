/-
  Contracts: letters, as the model has them; LetterOf.
-/
import Derived.Test.YtdmppdfncbljoaaW21
import Derived.Laws.BytesArg
namespace Go.Proofs.Ytdmppdfncbljoaa
open Go.RowKit

theorem ltr_cases (n d m c : Int) : (eqA (redN (2 * n) d) (redD (2 * n) d) m c = true ∧ ltrI n d m c = 42) ∨
    (eqA (redN (2 * n) d) (redD (2 * n) d) m c = false ∧ m * d < 2 * c * n ∧ 2 * c * n < (m + c) * d ∧ ltrI n d m c = 49) ∨
    (eqA (redN (2 * n) d) (redD (2 * n) d) m c = false ∧ m * d < 2 * c * n ∧ (m + c) * d ≤ 2 * c * n ∧ ltrI n d m c = 48) ∨
    (eqA (redN (2 * n) d) (redD (2 * n) d) m c = false ∧ 2 * c * n ≤ m * d ∧ ltrI n d m c = 48) := by
  unfold ltrI midB
  cases eqA (redN (2 * n) d) (redD (2 * n) d) m c
  · by_cases h1 : m * d < 2 * c * n
    · by_cases h2 : 2 * c * n < (m + c) * d
      · simp [h1, h2]
      · have : (m + c) * d ≤ 2 * c * n := by omega
        simp [h1, h2, this]
    · have : 2 * c * n ≤ m * d := by omega
      simp [h1, this]
  · simp

/-- The text of a letter, and a code. -/
def ltrS (n d m c : Int) : ByteArray := if sumOk n d m c then ⟨#[(ltrI n d m c).toNat.toUInt8]⟩ else ⟨#[]⟩
def ltrC (n d m c : Int) : Int := if sumOk n d m c then 0 else 1
abbrev resS (s : ByteArray) (c : Int) : Value := .tuple #[.string s, .int .i64 c]
theorem ltr_three (n d m c : Int) : ltrI n d m c = 42 ∨ ltrI n d m c = 49 ∨ ltrI n d m c = 48 := by
  unfold ltrI; split
  · exact .inl rfl
  · split
    · exact .inr (.inl rfl)
    · exact .inr (.inr rfl)
theorem ltr_all (n d m c : Int) : (isAng n d = false ∧ ltrS n d m c = ⟨#[]⟩ ∧ ltrC n d m c = 1) ∨ (isAng n d = true ∧ isAng m c = false ∧ ltrS n d m c = ⟨#[]⟩ ∧ ltrC n d m c = 1) ∨
    (isAng n d = true ∧ isAng m c = true ∧ ltrI n d m c = 42 ∧ ltrS n d m c = ⟨#[42]⟩ ∧ ltrC n d m c = 0) ∨
    (isAng n d = true ∧ isAng m c = true ∧ ltrI n d m c = 49 ∧ ltrS n d m c = ⟨#[49]⟩ ∧ ltrC n d m c = 0) ∨
    (isAng n d = true ∧ isAng m c = true ∧ ltrI n d m c = 48 ∧ ltrS n d m c = ⟨#[48]⟩ ∧ ltrC n d m c = 0) := by
  unfold ltrS ltrC sumOk
  cases isAng n d <;> cases isAng m c <;> simp
  rcases ltr_three n d m c with h | h | h <;> rw [h] <;> simp

theorem oneByte (x : Int) (b : UInt8) (hx : UInt8.ofNat x.toNat = b) (W : World) (T : TypeId) : (convert 141 9 (.slice (some ⟨W.heap.size, 0, none⟩) 1 1)).run Try.prog (W.alloc (.cells #[.int .u8 x] T)) = .ok (.string ⟨#[b]⟩) (W.alloc (.cells #[.int .u8 x] T)) := by
  have h := run_convert_bytes_arg (P := Try.prog) (W.alloc (.cells #[.int .u8 x] T)) 141 5 Try.underlying141 Try.underlying5 W.heap.size 0 1 1 [x] rfl (fun i hi => by
    obtain rfl : i = 0 := by omega
    simp [go_sem]) 9 Try.underlying9
  rw [h, show strOfNums [x] = ⟨#[b]⟩ by rw [← hx]; rfl]

end Go.Proofs.Ytdmppdfncbljoaa

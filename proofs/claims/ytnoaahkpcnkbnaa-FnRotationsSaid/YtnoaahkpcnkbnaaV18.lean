/-
  Contracts: images of images on the model's side.
-/
import Derived.Test.YtnoaahkpcnkbnaaV17
import Derived.Test.YtnoaahkpcnkbnaaV11
namespace Go.Proofs.Ytnoaahkpcnkbnaa
open Go.RowKit

theorem imF_has : ∀ {f : Nat} {x : Lf4} {acc : List Lf4}, hasX acc x = true → imF f x acc = some acc
  | 0, x, acc, h => by simp [imF, h]
  | f + 1, x, acc, h => by simp [imF, h]
theorem imF_end {x : Lf4} {acc : List Lf4} (h : hasX acc x = false) : imF 0 x acc = none := by simp [imF, h]
theorem imF_dia {f : Nat} {x : Lf4} {acc : List Lf4} (h : hasX acc x = false) (hd : diaX x = true) : imF (f + 1) x acc = some (acc ++ [x]) := by simp [imF, h, hd]
theorem imF_step {f : Nat} {x : Lf4} {acc : List Lf4} (h : hasX acc x = false) (hd : diaX x = false) : imF (f + 1) x acc = imF f (imL x) (acc ++ [x]) := by simp [imF, h, hd]
def lenV : Value → Nat
  | .slice _ n _ => n
  | _ => 0
/-- What the model's images answer. -/
def ResIm (w : World) (x : Lf4) (e : Ending) (w' : World) : Prop :=
  match imF 64 x [] with
  | some r => ∃ A cap, e = .returned (.tuple #[.slice A r.length cap, .bool true]) ∧ LfOwn w' w.heap.size A r ∧ Below w.heap.size w w'
  | none => e = .returned (.tuple #[.slice none 0 0, .bool false]) ∧ Below w.heap.size w w'
theorem cell_four_new (w : World) (a b c d : Value) (t : TypeId) : ∀ j u, [a, b, c, d][j]? = some u → (w.alloc (.cells #[a, b, c, d] t)).cell? ((⟨w.heap.size, 0, none⟩ : Addr).add j) = some u := by
  intro j u hj
  match j, hj with
  | 0, hj => simp at hj; subst hj; simp [Addr.add]
  | 1, hj => simp at hj; subst hj; simp [Addr.add]
  | 2, hj => simp at hj; subst hj; simp [Addr.add]
  | 3, hj => simp at hj; subst hj; simp [Addr.add]
theorem LfOwn.lo {w : World} {lo lo' : Nat} {A : Option Addr} {l : List Lf4} (h : LfOwn w lo A l) (hl : lo' ≤ lo) : LfOwn w lo' A l := by
  intro hn
  obtain ⟨b, off, e, h1, h2, hc⟩ := h hn
  exact ⟨b, off, e, Nat.le_trans hl h1, h2, hc⟩
theorem lf_at {l : List Lf4} {k : Nat} (h : k < l.length) : ∃ a b e f, l[k]? = some (a, b, e, f) := ⟨l[k].1, l[k].2.1, l[k].2.2.1, l[k].2.2.2, by rw [List.getElem?_eq_getElem h]⟩
end Go.Proofs.Ytnoaahkpcnkbnaa

/-
  Contracts: images of images on the model's side.
-/
import Derived.Test.YtfdjoolhmianjaaV17
import Derived.Test.YtfdjoolhmianjaaV11
namespace Go.Proofs.Ytfdjoolhmianjaa
open Go.RowKit

theorem imF_has : ∀ {f : Nat} {x : Lf4} {acc : List Lf4}, hasX acc x = true → imF f x acc = some acc
  | 0, x, acc, h => by simp [imF, h]
  | f + 1, x, acc, h => by simp [imF, h]
theorem imF_end {x : Lf4} {acc : List Lf4} (h : hasX acc x = false) : imF 0 x acc = none := by simp [imF, h]
theorem imF_dia {f : Nat} {x : Lf4} {acc : List Lf4} (h : hasX acc x = false) (hd : diaX x = true) : imF (f + 1) x acc = some (acc ++ [x]) := by simp [imF, h, hd]
theorem imF_step {f : Nat} {x : Lf4} {acc : List Lf4} (h : hasX acc x = false) (hd : diaX x = false) : imF (f + 1) x acc = imF f (imL x) (acc ++ [x]) := by simp [imF, h, hd]
def lenV : Value → Nat
  | .slice _ n _ => n
  | _ => 0
/-- What holds when leaves have been gathered; g: the box of the leaf at hand. -/
def ImSt (w : World) (b0 : Nat) (x0 cur : Lf4) (acc : List Lf4) (v : Value) (g : Nat) (wr : World) : Prop :=
  acc.length ≤ 64 ∧ wr.ownsRow b0 92 4 v acc.length (flat4 acc) ∧ Cells4 wr g 0 cur.1 cur.2.1 cur.2.2.1 cur.2.2.2 ∧ Free4 wr g 0 ∧ v.ownBlock ≠ some g ∧ w.heap.size ≤ g ∧ g < wr.heap.size ∧ Below w.heap.size w wr ∧ RedX cur ∧
    imF (64 - acc.length) cur acc = imF 64 x0 []
/-- What the model's images answer. -/
def ResIm (w : World) (x : Lf4) (e : Ending) (w' : World) : Prop :=
  match imF 64 x [] with
  | some r => ∃ A cap, e = .returned (.tuple #[.slice A r.length cap, .bool true]) ∧ LfOwn w' w.heap.size A r ∧ Below w.heap.size w w'
  | none => e = .returned (.tuple #[.slice none 0 0, .bool false]) ∧ Below w.heap.size w w'
theorem infoL : (Try.prog.info? 92).map (fun i => (i.zero, i.size, i.bytes)) = some (some (.agg #[.int .i64 0, .int .i64 0, .int .i64 0, .int .i64 0]), 4, 32) := by kernel_rfl
theorem cell_four_new (w : World) (a b c d : Value) (t : TypeId) : ∀ j u, [a, b, c, d][j]? = some u → (w.alloc (.cells #[a, b, c, d] t)).cell? ((⟨w.heap.size, 0, none⟩ : Addr).add j) = some u := by
  intro j u hj
  match j, hj with
  | 0, hj => simp at hj; subst hj; simp [Addr.add]
  | 1, hj => simp at hj; subst hj; simp [Addr.add]
  | 2, hj => simp at hj; subst hj; simp [Addr.add]
  | 3, hj => simp at hj; subst hj; simp [Addr.add]
theorem LfOwn.lo {w : World} {lo lo' : Nat} {A : Option Addr} {l : List Lf4} (h : LfOwn w lo A l) (hl : lo' ≤ lo) : LfOwn w lo' A l := by
  intro hn
  obtain ⟨b, off, e, h1, h2, hc⟩ := h hn
  exact ⟨b, off, e, Nat.le_trans hl h1, h2, hc⟩
theorem lf_at {l : List Lf4} {k : Nat} (h : k < l.length) : ∃ a b e f, l[k]? = some (a, b, e, f) := ⟨l[k].1, l[k].2.1, l[k].2.2.1, l[k].2.2.2, by rw [List.getElem?_eq_getElem h]⟩
theorem row_cells {w : World} {lo k : Nat} {A : Option Addr} {cap i : Nat} {l : List Lf4} {n d m c : Int} (hk : l.length = k) (h : w.ownsRow lo 92 4 (.slice A k cap) k (flat4 l)) (hi : l[i]? = some (n, d, m, c)) :
    ∃ g, A = some ⟨g, 0, none⟩ ∧ g < w.heap.size ∧ Cells4 w g (i * 4) n d m c := by
  have hik : i < l.length := by
    rcases Nat.lt_or_ge i l.length with h1 | h1
    · exact h1
    · rw [List.getElem?_eq_none h1] at hi; cases hi
  obtain ⟨g, c', hv, hlo, hg⟩ := h.form (show 0 < k by omega)
  obtain ⟨rfl, rfl⟩ : A = some ⟨g, 0, none⟩ ∧ cap = c' := by injection hv with hA hn hc; exact ⟨hA, hc⟩
  obtain ⟨f0, f1, f2, f3⟩ := flat4_at hi
  exact ⟨g, rfl, hg, ⟨(h.cellAt _ (by omega)).trans f0, (h.cellAt _ (by omega)).trans f1, (h.cellAt _ (by omega)).trans f2, (h.cellAt _ (by omega)).trans f3⟩⟩

end Go.Proofs.Ytfdjoolhmianjaa

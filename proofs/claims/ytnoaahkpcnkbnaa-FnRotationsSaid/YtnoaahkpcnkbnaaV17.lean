/-
  Images of images, as plain mathematics; looking a leaf up in a list.
-/
import Derived.Test.YtnoaahkpcnkbnaaV9
import Derived.Test.YtnoaahkpcnkbnaaV6
import Derived.Deep.DeepCutAuto
import Derived.Deep.AppendLies
import Derived.RangeFuncBox
import Derived.WalkSmall
import Derived.OneCell
namespace Go.Proofs.Ytnoaahkpcnkbnaa
open Go.RowKit

/-- Two leaves are one. -/
def eqL (a b c d e f g h : Int) : Bool := eqA a b e f && eqA c d g h
theorem eqL_iff (a b c d e f g h : Int) : eqL a b c d e f g h = true ↔ a = e ∧ b = f ∧ c = g ∧ d = h := by
  unfold eqL; rw [Bool.and_eq_true, eqA_iff, eqA_iff]; exact ⟨fun ⟨⟨a, b⟩, c, d⟩ => ⟨a, b, c, d⟩, fun ⟨a, b, c, d⟩ => ⟨⟨a, b⟩, c, d⟩⟩
theorem eqL_comm (a b c d e f g h : Int) : eqL a b c d e f g h = eqL e f g h a b c d := by
  rw [Bool.eq_iff_iff, eqL_iff, eqL_iff]; omega
/-- The leaf is in the list. -/
def hasL (l : List Lf4) (n d m c : Int) : Bool := l.any fun x => eqL n d m c x.1 x.2.1 x.2.2.1 x.2.2.2
theorem hasL_yes {l : List Lf4} {k : Nat} {n d m c a b e f : Int} (h : l[k]? = some (a, b, e, f)) (hq : eqL n d m c a b e f = true) : hasL l n d m c = true := by
  unfold hasL
  rw [List.any_eq_true]
  exact ⟨(a, b, e, f), List.mem_of_getElem? h, hq⟩
theorem hasL_no {l : List Lf4} {n d m c : Int} (h : ∀ (i : Nat) (a b e f : Int), l[i]? = some (a, b, e, f) → eqL n d m c a b e f = false) : hasL l n d m c = false := by
  unfold hasL
  rw [List.any_eq_false]
  intro x hx
  obtain ⟨i, hi, e⟩ := List.getElem_of_mem hx
  have := h i x.1 x.2.1 x.2.2.1 x.2.2.2 (by rw [List.getElem?_eq_getElem hi, e])
  simp [this]

/-- The image, as four numbers. -/
def imL (x : Lf4) : Lf4 := (imA x.1 x.2.1 x.2.2.1 x.2.2.2, imB x.1 x.2.1 x.2.2.1 x.2.2.2, imC x.1 x.2.1 x.2.2.1 x.2.2.2, imD x.1 x.2.1 x.2.2.1 x.2.2.2)
def hasX (l : List Lf4) (x : Lf4) : Bool := hasL l x.1 x.2.1 x.2.2.1 x.2.2.2
def diaX (x : Lf4) : Bool := diaB x.1 x.2.1 x.2.2.1 x.2.2.2
/-- The leaf, its image and so on, each once, up to a diameter; none if there are too many. -/
def imF : Nat → Lf4 → List Lf4 → Option (List Lf4)
  | 0, x, acc => if hasX acc x then some acc else none
  | f + 1, x, acc => if hasX acc x then some acc else if diaX x then some (acc ++ [x]) else imF f (imL x) (acc ++ [x])
theorem imF_len : ∀ (f : Nat) (x : Lf4) (acc r : List Lf4), imF f x acc = some r → r.length ≤ acc.length + f
  | 0, x, acc, r, h => by
    simp only [imF] at h
    split at h
    · injection h with h; subst h; omega
    · cases h
  | f + 1, x, acc, r, h => by
    simp only [imF] at h
    split at h
    · injection h with h; subst h; omega
    · split at h
      · injection h with h; subst h; simp
      · have := imF_len f _ _ r h; simp at this; omega
/-- What ImagesOfLeaf returns. -/
def isLfX (x : Lf4) : Bool := isLf x.1 x.2.1 x.2.2.1 x.2.2.2
def imgsL (x : Lf4) : List Lf4 := if isLfX x then (imF 64 x []).getD [] else []
def imgsC (x : Lf4) : Int := if isLfX x then (if (imF 64 x []).isSome then 0 else 3) else 1
theorem imgs_len (x : Lf4) : (imgsL x).length ≤ 1000000000000 := by
  unfold imgsL
  split
  · cases e : imF 64 x [] with
    | none => simp
    | some r => have := imF_len 64 x [] r e; simp at this; simp; omega
  · simp

/-- Both ends are reduced. -/
def RedX (x : Lf4) : Prop := Red (x.1, x.2.1) ∧ Red (x.2.2.1, x.2.2.2)
theorem redX_of {x : Lf4} (h : isLfX x = true) : RedX x := by
  obtain ⟨a, b, -⟩ := isLf_yes h
  exact ⟨a, b⟩
theorem lf_red {x y u v : Int} (h1 : Red (x, y)) (h2 : Red (u, v)) : Red (lfA x y u v, lfB x y u v) ∧ Red (lfC x y u v, lfD x y u v) := by
  cases h : ltA x y u v
  · obtain ⟨d1, d2, d3, d4⟩ := lf_no h
    rw [d1, d2, d3, d4]; exact ⟨h2, h1⟩
  · obtain ⟨d1, d2, d3, d4⟩ := lf_yes h
    rw [d1, d2, d3, d4]; exact ⟨h1, h2⟩
theorem imL_red {x : Lf4} (h : RedX x) : RedX (imL x) := lf_red (dbl_red h.1) (dbl_red h.2)

/-- The cells of a list of leaves. -/
def flat4 (l : List Lf4) : List Value := l.flatMap fun x => [.int .i64 x.1, .int .i64 x.2.1, .int .i64 x.2.2.1, .int .i64 x.2.2.2]
theorem flat4_app (l : List Lf4) (n d m c : Int) : flat4 (l ++ [(n, d, m, c)]) = flat4 l ++ [.int .i64 n, .int .i64 d, .int .i64 m, .int .i64 c] := by simp [flat4]
theorem flat4_len : ∀ l : List Lf4, (flat4 l).length = l.length * 4
  | [] => rfl
  | x :: l => by
    have : flat4 (x :: l) = [.int .i64 x.1, .int .i64 x.2.1, .int .i64 x.2.2.1, .int .i64 x.2.2.2] ++ flat4 l := rfl
    rw [this, List.length_append, flat4_len l]; simp; omega
theorem flat4_at : ∀ {l : List Lf4} {i : Nat} {n d m c : Int}, l[i]? = some (n, d, m, c) → (flat4 l)[i * 4]? = some (.int .i64 n) ∧ (flat4 l)[i * 4 + 1]? = some (.int .i64 d) ∧ (flat4 l)[i * 4 + 2]? = some (.int .i64 m) ∧ (flat4 l)[i * 4 + 3]? = some (.int .i64 c)
  | [], i, n, d, m, c, h => by simp at h
  | x :: l, 0, n, d, m, c, h => by
    simp at h; subst h
    exact ⟨rfl, rfl, rfl, rfl⟩
  | x :: l, i + 1, n, d, m, c, h => by
    have e : flat4 (x :: l) = [.int .i64 x.1, .int .i64 x.2.1, .int .i64 x.2.2.1, .int .i64 x.2.2.2] ++ flat4 l := rfl
    have ih := flat4_at (l := l) (i := i) (by simpa using h)
    have k : ∀ j, (flat4 (x :: l))[4 + j]? = (flat4 l)[j]? := fun j => by rw [e, List.getElem?_append_right (by simp)]; simp
    have e0 : (i + 1) * 4 = 4 + i * 4 := by omega
    have e1 : (i + 1) * 4 + 1 = 4 + (i * 4 + 1) := by omega
    have e2 : (i + 1) * 4 + 2 = 4 + (i * 4 + 2) := by omega
    have e3 : (i + 1) * 4 + 3 = 4 + (i * 4 + 3) := by omega
    rw [e1, e2, e3, e0, k, k, k, k]
    exact ih
end Go.Proofs.Ytnoaahkpcnkbnaa

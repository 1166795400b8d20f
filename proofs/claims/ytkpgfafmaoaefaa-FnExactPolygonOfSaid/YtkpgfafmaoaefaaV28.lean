/-
  Plain mathematics: a leaf put in its place among leaves in order. No program in sight.
-/
import Derived.Test.YtkpgfafmaoaefaaV22
import Derived.Test.YtkpgfafmaoaefaaV13
namespace Go.Proofs.Ytkpgfafmaoaefaa
open Go.RowKit

/-- How many leaves at the head of a list are lesser. -/
def lessNL (out : List Lf4) (p : Lf4) : Nat := out.findIdx fun q => !lessX q p
/-- A leaf put in its place, if it is new. -/
def insL (out : List Lf4) (p : Lf4) : List Lf4 := if out[lessNL out p]? = some p then out else out.take (lessNL out p) ++ p :: out.drop (lessNL out p)
theorem insL_old {out : List Lf4} {p : Lf4} (h : out[lessNL out p]? = some p) : insL out p = out := by unfold insL; rw [if_pos h]
theorem insL_new {out : List Lf4} {p : Lf4} (h : ¬ out[lessNL out p]? = some p) : insL out p = out.take (lessNL out p) ++ p :: out.drop (lessNL out p) := by unfold insL; rw [if_neg h]
theorem insL_len {out : List Lf4} {p : Lf4} (h : ¬ out[lessNL out p]? = some p) : (insL out p).length = out.length + 1 := by
  rw [insL_new h]
  have : lessNL out p ≤ out.length := List.findIdx_le_length
  simp only [List.length_append, List.length_cons, List.length_take, List.length_drop]
  omega
theorem lessNL_le (out : List Lf4) (p : Lf4) : lessNL out p ≤ out.length := List.findIdx_le_length
theorem lessNL_lt {out : List Lf4} {p : Lf4} {j : Nat} (h : j < lessNL out p) {q : Lf4} (hq : out[j]? = some q) : lessX q p = true := by
  obtain ⟨hj, rfl⟩ := List.getElem?_eq_some_iff.1 hq
  have := List.not_of_lt_findIdx h
  simpa using this
theorem lessNL_at {out : List Lf4} {p : Lf4} {q : Lf4} (hq : out[lessNL out p]? = some q) : lessX q p = false := by
  obtain ⟨hj, rfl⟩ := List.getElem?_eq_some_iff.1 hq
  have := List.findIdx_getElem (xs := out) (p := fun q => !lessX q p) (w := hj)
  have h2 : (!lessX out[lessNL out p] p) = true := this
  cases h3 : lessX out[lessNL out p] p
  · rfl
  · rw [h3] at h2; cases h2
theorem lessNL_stop {out : List Lf4} {p : Lf4} {k : Nat} (hk : k < out.length) (h : ∀ j, j < k → ∀ q, out[j]? = some q → lessX q p = true) {q : Lf4} (hq : out[k]? = some q) (hn : lessX q p = false) : lessNL out p = k := by
  rcases Nat.lt_trichotomy (lessNL out p) k with h1 | h1 | h1
  · have hl : lessNL out p < out.length := by omega
    have e := List.getElem?_eq_getElem hl
    have a := h _ h1 _ e
    have b := lessNL_at e
    rw [a] at b; cases b
  · exact h1
  · have := lessNL_lt h1 hq
    rw [this] at hn; cases hn
theorem lessNL_end {out : List Lf4} {p : Lf4} (h : ∀ j, j < out.length → ∀ q, out[j]? = some q → lessX q p = true) : lessNL out p = out.length := by
  rcases Nat.lt_or_ge (lessNL out p) out.length with h1 | h1
  · have e := List.getElem?_eq_getElem h1
    have a := h _ h1 _ e
    have b := lessNL_at e
    rw [a] at b; cases b
  · have := lessNL_le out p; omega
theorem ltA_trL {a b c d e f : Int} (hb : 0 < b) (hd : 0 < d) (hf : 0 < f) (h1 : ltA a b c d = true) (h2 : ltA c d e f = true) : ltA a b e f = true := by
  unfold ltA at *
  have h1 := of_decide_eq_true h1
  have h2 := of_decide_eq_true h2
  refine decide_eq_true (Int.lt_of_mul_lt_mul_right (a := d) ?_ (by omega))
  have p1 := Int.mul_lt_mul_of_pos_right h1 hf
  have p2 := Int.mul_lt_mul_of_pos_right h2 hb
  have e1 : a * d * f = a * f * d := by rw [Int.mul_assoc, Int.mul_comm d f, ← Int.mul_assoc]
  have e2 : c * b * f = c * f * b := by rw [Int.mul_assoc, Int.mul_comm b f, ← Int.mul_assoc]
  have e3 : e * d * b = e * b * d := by rw [Int.mul_assoc, Int.mul_comm d b, ← Int.mul_assoc]
  omega
/-- What is asked of the angles of a leaf here: Dens above 0. -/
def posX (x : Lf4) : Prop := 0 < x.2.1 ∧ 0 < x.2.2.2
theorem lf_pos {x : Lf4} (h : isLf x.1 x.2.1 x.2.2.1 x.2.2.2 = true) : posX x := by
  obtain ⟨⟨h1, _⟩, ⟨h2, _⟩, _⟩ := isLf_yes h
  exact ⟨by dsimp only at h1; omega, by dsimp only at h2; omega⟩
theorem lessX_tr {x y z : Lf4} (hx : posX x) (hy : posX y) (hz : posX z) (h1 : lessX x y = true) (h2 : lessX y z = true) : lessX x z = true := by
  obtain ⟨a, b, c, d⟩ := x
  obtain ⟨e, f, g, h⟩ := y
  obtain ⟨i, j, k, l⟩ := z
  unfold posX at hx hy hz
  unfold lessX at *
  dsimp only at *
  cases q1 : eqA a b e f <;> cases q2 : eqA e f i j
  · rw [q1] at h1
    rw [q2] at h2
    have t := ltA_trL hx.1 hy.1 hz.1 h1 h2
    have := lt_ne t
    rw [eqA_comm] at this
    rw [this]
    exact t
  · rw [q1] at h1
    obtain ⟨rfl, rfl⟩ := (eqA_iff _ _ _ _).1 q2
    rw [q1]
    exact h1
  · rw [q2] at h2
    obtain ⟨rfl, rfl⟩ := (eqA_iff _ _ _ _).1 q1
    rw [q2]
    exact h2
  · rw [q1] at h1
    rw [q2] at h2
    obtain ⟨rfl, rfl⟩ := (eqA_iff _ _ _ _).1 q1
    rw [q2]
    exact ltA_trL hx.2 hy.2 hz.2 h1 h2
theorem lessX_self (x : Lf4) : lessX x x = false := by
  unfold lessX
  rw [(eqA_iff _ _ _ _).2 ⟨rfl, rfl⟩]
  exact ltA_self _ _
theorem allLf_pos {l : List Lf4} (h : allLf l = true) {k : Nat} {x : Lf4} (hx : l[k]? = some x) : posX x := lf_pos (allLf_at h (n := x.1) (d := x.2.1) (m := x.2.2.1) (c := x.2.2.2) hx)
/-- Leaves in order: each is behind all that come before it. -/
theorem asc_all {l : List Lf4} (h : Asc l) (ha : allLf l = true) : ∀ (i j : Nat) (x y : Lf4), i < j → l[i]? = some x → l[j]? = some y → lessX x y = true
  | i, 0, _, _, hij, _, _ => absurd hij (by omega)
  | i, j + 1, x, y, hij, hx, hy => by
    have hj : j < l.length := by
      have := (List.getElem?_eq_some_iff.1 hy).1; omega
    have ez := List.getElem?_eq_getElem hj
    generalize l[j] = z at *
    have hzy := h j z y ez hy
    by_cases e : i = j
    · subst e
      rw [hx] at ez
      injection ez with ez
      rw [ez]; exact hzy
    · exact lessX_tr (allLf_pos ha hx) (allLf_pos ha ez) (allLf_pos ha hy) (asc_all h ha i j x z (by omega) hx ez) hzy
/-- What is lesser stands at the head. -/
theorem head_less {l : List Lf4} (h : Asc l) (ha : allLf l = true) {p : Lf4} (hp : posX p) {k : Nat} {x : Lf4} (hx : l[k]? = some x) (hl : lessX x p = true) : ∀ j, j ≤ k → ∀ y, l[j]? = some y → lessX y p = true := by
  intro j hj y hy
  by_cases e : j = k
  · subst e
    rw [hx] at hy
    injection hy with hy
    rw [← hy]; exact hl
  · exact lessX_tr (allLf_pos ha hy) (allLf_pos ha hx) hp (asc_all h ha j k y x (by omega) hy hx) hl
theorem tail_not {l : List Lf4} (h : Asc l) (ha : allLf l = true) {p : Lf4} (hp : posX p) {k : Nat} {x : Lf4} (hx : l[k]? = some x) (hl : lessX x p = false) : ∀ j, k ≤ j → ∀ y, l[j]? = some y → lessX y p = false := by
  intro j hj y hy
  cases hq : lessX y p
  · rfl
  · have := head_less h ha hp hy hq k hj x hx
    rw [this] at hl; cases hl
/-- A leaf of the list stands in its place. -/
theorem in_place {l : List Lf4} (h : Asc l) (ha : allLf l = true) {k : Nat} {p : Lf4} (hp : l[k]? = some p) : lessNL l p = k :=
  lessNL_stop (List.getElem?_eq_some_iff.1 hp).1 (fun j hj q hq => asc_all h ha j k q p hj hq hp) hp (lessX_self p)
theorem mem_place {l : List Lf4} (h : Asc l) (ha : allLf l = true) {p : Lf4} (hp : p ∈ l) : l[lessNL l p]? = some p := by
  obtain ⟨k, hk, e⟩ := List.getElem_of_mem hp
  have e2 : l[k]? = some p := by rw [List.getElem?_eq_getElem hk, e]
  rw [in_place h ha e2]; exact e2
end Go.Proofs.Ytkpgfafmaoaefaa

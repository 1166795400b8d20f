/-
  Plain mathematics: pairs put into their places one after another. No program in sight.
-/
import Derived.Test.YtabddjfgbhnldaaR25
namespace Go.Proofs.Ytabddjfgbhnldaa
open Go.RowKit

/-- How many pairs at the head of a list have a lesser lower angle. -/
def lessN (out : List Lf4) (p : Lf4) : Nat := out.findIdx fun q => !lowLt q p
def insP (out : List Lf4) (p : Lf4) : List Lf4 := out.take (lessN out p) ++ p :: out.drop (lessN out p)
/-- The wake of the pair has the angle. -/
def insX (x : Int × Int) (p : Lf4) : Bool := arcB x.1 x.2 p.1 p.2.1 p.2.2.1 p.2.2.2
def wkOf (x : Int × Int) : List Lf4 → List Lf4 → List Lf4
  | out, [] => out
  | out, p :: l => wkOf x (if insX x p then insP out p else out) l
/-- The wakes around an angle, of the periods 2 to m + 1. -/
def wkL (x : Int × Int) (m : Nat) : List Lf4 := wkOf x [] ((upK m).map (·.1))
theorem lessN_le (out : List Lf4) (p : Lf4) : lessN out p ≤ out.length := List.findIdx_le_length
theorem lessN_lt {out : List Lf4} {p : Lf4} {j : Nat} (h : j < lessN out p) {q : Lf4} (hq : out[j]? = some q) : lowLt q p = true := by
  obtain ⟨hj, rfl⟩ := List.getElem?_eq_some_iff.1 hq
  have := List.not_of_lt_findIdx h
  simpa using this
theorem lessN_at {out : List Lf4} {p : Lf4} {q : Lf4} (hq : out[lessN out p]? = some q) : lowLt q p = false := by
  obtain ⟨hj, rfl⟩ := List.getElem?_eq_some_iff.1 hq
  have := List.findIdx_getElem (xs := out) (p := fun q => !lowLt q p) (w := hj)
  have h2 : (!lowLt out[lessN out p] p) = true := this
  cases h3 : lowLt out[lessN out p] p
  · rfl
  · rw [h3] at h2; cases h2
/-- The number of lesser ones is told by what is seen on the way. -/
theorem lessN_stop {out : List Lf4} {p : Lf4} {k : Nat} (hk : k < out.length) (h : ∀ j, j < k → ∀ q, out[j]? = some q → lowLt q p = true) {q : Lf4} (hq : out[k]? = some q) (hn : lowLt q p = false) : lessN out p = k := by
  rcases Nat.lt_trichotomy (lessN out p) k with h1 | h1 | h1
  · have hl : lessN out p < out.length := by omega
    have e := List.getElem?_eq_getElem hl
    have a := h _ h1 _ e
    have b := lessN_at e
    rw [a] at b; cases b
  · exact h1
  · have := lessN_lt h1 hq
    rw [this] at hn; cases hn
theorem lessN_end {out : List Lf4} {p : Lf4} (h : ∀ j, j < out.length → ∀ q, out[j]? = some q → lowLt q p = true) : lessN out p = out.length := by
  rcases Nat.lt_or_ge (lessN out p) out.length with h1 | h1
  · have e := List.getElem?_eq_getElem h1
    have a := h _ h1 _ e
    have b := lessN_at e
    rw [a] at b; cases b
  · have := lessN_le out p; omega
theorem insP_perm (out : List Lf4) (p : Lf4) : (insP out p).Perm (p :: out) := by
  unfold insP
  have h := List.perm_middle (a := p) (l₁ := out.take (lessN out p)) (l₂ := out.drop (lessN out p))
  rwa [List.take_append_drop] at h
theorem insP_len (out : List Lf4) (p : Lf4) : (insP out p).length = out.length + 1 := (insP_perm out p).length_eq
theorem wkOf_perm (x : Int × Int) : ∀ (l out : List Lf4), (wkOf x out l).Perm (out ++ l.filter (insX x))
  | [], out => by simp [wkOf]
  | p :: l, out => by
    simp only [wkOf]
    cases h : insX x p
    · rw [List.filter_cons_of_neg (by rw [h]; simp)]
      exact wkOf_perm x l out
    · rw [List.filter_cons_of_pos h]
      refine (wkOf_perm x l _).trans ?_
      simp only [if_true]
      exact ((insP_perm out p).append_right _).trans List.perm_middle.symm
theorem insP_sorted {out : List Lf4} {p : Lf4} (hok : ∀ q ∈ out, okP q = true) (hp : okP p = true) (hs : out.Pairwise fun x y => lowLt y x = false) : (insP out p).Pairwise fun x y => lowLt y x = false := by
  have hT : ∀ q ∈ out.take (lessN out p), lowLt q p = true := fun q hq => by
    obtain ⟨i, hi, rfl⟩ := List.getElem_of_mem hq
    rw [List.length_take] at hi
    have e : (out.take (lessN out p))[i]? = some (out.take (lessN out p))[i] := List.getElem?_eq_getElem _
    rw [List.getElem?_take_of_lt (by omega)] at e
    exact lessN_lt (by omega) e
  have hD : ∀ q ∈ out.drop (lessN out p), lowLt q p = false := fun q hq => by
    obtain ⟨i, hi, rfl⟩ := List.getElem_of_mem hq
    rw [List.length_drop] at hi
    have e : (out.drop (lessN out p))[i]? = some (out.drop (lessN out p))[i] := List.getElem?_eq_getElem _
    rw [List.getElem?_drop] at e
    generalize (out.drop (lessN out p))[i] = y at *
    have hl : lessN out p < out.length := by omega
    have e0 := List.getElem?_eq_getElem hl
    have n0 := lessN_at e0
    by_cases h0 : i = 0
    · subst h0
      rw [Nat.add_zero] at e
      exact lessN_at e
    · obtain ⟨hj, rfl⟩ := List.getElem?_eq_some_iff.1 e
      have h1 := List.pairwise_iff_getElem.1 hs _ _ hl hj (by omega)
      exact low_ntr (hok _ (List.getElem_mem _)) (hok _ (List.getElem_mem _)) hp h1 n0
  unfold insP
  have hsp := hs
  rw [← List.take_append_drop (lessN out p) out, List.pairwise_append] at hsp
  obtain ⟨s1, s2, s3⟩ := hsp
  rw [List.pairwise_append, List.pairwise_cons]
  refine ⟨s1, ⟨fun q hq => hD q hq, s2⟩, fun a ha b hb => ?_⟩
  rw [List.mem_cons] at hb
  rcases hb with rfl | hb
  · exact low_asym (hT a ha)
  · exact s3 a ha b hb
theorem wkOf_sorted (x : Int × Int) : ∀ (l out : List Lf4), (∀ q ∈ l, okP q = true) → (∀ q ∈ out, okP q = true) → (out.Pairwise fun x y => lowLt y x = false) → (wkOf x out l).Pairwise fun x y => lowLt y x = false
  | [], out, _, _, hs => hs
  | p :: l, out, hl, ho, hs => by
    simp only [wkOf]
    have hp := hl p (List.mem_cons_self ..)
    split
    · refine wkOf_sorted x l _ (fun q hq => hl q (List.mem_cons_of_mem _ hq)) (fun q hq => ?_) (insP_sorted ho hp hs)
      have := (insP_perm out p).mem_iff.1 hq
      rw [List.mem_cons] at this
      rcases this with rfl | h
      · exact hp
      · exact ho q h
    · exact wkOf_sorted x l _ (fun q hq => hl q (List.mem_cons_of_mem _ hq)) ho hs
theorem wkOf_snoc (x : Int × Int) (p : Lf4) : ∀ (l out : List Lf4), wkOf x out (l ++ [p]) = (if insX x p then insP (wkOf x out l) p else wkOf x out l)
  | [], _ => rfl
  | _ :: l, _ => wkOf_snoc x p l _
theorem wkOf_next {x : Int × Int} {l : List Lf4} {k : Nat} {p : Lf4} (h : l[k]? = some p) : wkOf x [] (l.take (k + 1)) = (if insX x p then insP (wkOf x [] (l.take k)) p else wkOf x [] (l.take k)) := by
  rw [List.take_add_one, h]
  exact wkOf_snoc x p _ _
theorem wkOf_len (x : Int × Int) (l : List Lf4) : (wkOf x [] l).length ≤ l.length := by
  rw [(wkOf_perm x l []).length_eq]
  exact List.length_filter_le _ _
theorem wkOf_mem {x : Int × Int} {l : List Lf4} {p : Lf4} (h : p ∈ wkOf x [] l) : p ∈ l := by
  have := (wkOf_perm x l []).mem_iff.1 h
  exact (List.mem_filter.1 this).1
/-- The wakes around an angle: what has the same pairs, in order, is this list. -/
theorem wkL_facts (x : Int × Int) {m : Nat} (h : m ≤ 7) : (wkL x m).Perm (((upK m).filter fun y => insX x y.1).map (·.1)) ∧ ((wkL x m).Pairwise fun x y => lowLt y x = false) ∧ (∀ p ∈ wkL x m, okP p = true) ∧ (∀ p ∈ wkL x m, ∀ q ∈ wkL x m, (p.1, p.2.1) = (q.1, q.2.1) → p = q) ∧ (wkL x m).length ≤ 2000 := by
  refine ⟨?_, wkOf_sorted x _ _ (fun q hq => mapOk h q hq) (by simp) List.Pairwise.nil, fun p hp => mapOk h p (wkOf_mem hp), fun p hp q hq => upK_low h p (wkOf_mem hp) q (wkOf_mem hq), ?_⟩
  · refine (wkOf_perm x _ []).trans ?_
    rw [List.nil_append, List.filter_map]
    exact List.Perm.refl _
  · have h1 := wkOf_len x ((upK m).map (·.1))
    have h2 := upK_len m h
    rw [List.length_map] at h1
    exact Nat.le_trans h1 (by omega)
theorem okP_up {p : Lf4} (h : okP p = true) : angOk p.2.2.1 p.2.2.2 := by
  obtain ⟨h1, h2, h3, h4, _⟩ := (isLf_yes h).2.1
  exact ⟨h1, h2, h3, h4⟩
theorem row_pairE {w W : World} {A : Option Addr} {l : List Lf4} (hr : LfRow w w.heap.size A l) (hB : Below w.heap.size w W) {k : Nat} (hk : k < l.length) :
    ∃ g off p1 p2 p3 p4, A = some ⟨g, off, none⟩ ∧ l[k]? = some (p1, p2, p3, p4) ∧ W.cell? ⟨g, off + k * 4, none⟩ = some (.int .i64 p1) ∧ W.cell? ⟨g, off + k * 4 + 1, none⟩ = some (.int .i64 p2) ∧ W.cell? ⟨g, off + k * 4 + 2, none⟩ = some (.int .i64 p3) ∧ W.cell? ⟨g, off + k * 4 + 3, none⟩ = some (.int .i64 p4) ∧ g < W.heap.size := by
  obtain ⟨⟨p1, p2, p3, p4⟩, hq⟩ : ∃ q, l[k]? = some q := ⟨_, List.getElem?_eq_getElem hk⟩
  have hne : l ≠ [] := by intro h; rw [h] at hk; simp at hk
  obtain ⟨g, off, rfl, hg, hc⟩ := hr hne
  obtain ⟨x0, x1, x2, x3⟩ := hc k p1 p2 p3 p4 hq
  exact ⟨g, off, p1, p2, p3, p4, rfl, hq, (hB.cell (p := ⟨g, off + k * 4, none⟩) hg).trans x0, (hB.cell (p := ⟨g, off + k * 4 + 1, none⟩) hg).trans x1, (hB.cell (p := ⟨g, off + k * 4 + 2, none⟩) hg).trans x2, (hB.cell (p := ⟨g, off + k * 4 + 3, none⟩) hg).trans x3, Nat.lt_of_lt_of_le hg hB.size⟩
theorem flatP_take : ∀ (l : List Lf4) (k : Nat), flatP (l.take k) = (flatP l).take (k * 4)
  | [], k => by simp [flatP]
  | p :: l, 0 => by simp [flatP]
  | p :: l, k + 1 => by
    rw [List.take_succ_cons, show (k + 1) * 4 = k * 4 + 1 + 1 + 1 + 1 by omega]
    simp only [flatP, List.take_succ_cons, flatP_take l k]
theorem flatP_drop : ∀ (l : List Lf4) (k : Nat), flatP (l.drop k) = (flatP l).drop (k * 4)
  | [], k => by simp [flatP]
  | p :: l, 0 => by simp
  | p :: l, k + 1 => by
    rw [List.drop_succ_cons, show (k + 1) * 4 = k * 4 + 1 + 1 + 1 + 1 by omega]
    simp only [flatP, List.drop_succ_cons, flatP_drop l k]
end Go.Proofs.Ytabddjfgbhnldaa

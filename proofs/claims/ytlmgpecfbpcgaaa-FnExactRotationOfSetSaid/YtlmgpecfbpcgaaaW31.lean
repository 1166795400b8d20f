/-
  Rows of angles that a call holds; an angle put in its place among angles in order (plain mathematics).
-/
import Derived.Test.YtlmgpecfbpcgaaaVX
import Derived.Test.YtlmgpecfbpcgaaaW30
namespace Go.Proofs.Ytlmgpecfbpcgaaa
open Go.RowKit

def lessA (q p : Int × Int) : Bool := ltA q.1 q.2 p.1 p.2
/-- How many angles at the head of a list are lesser. -/
def lessNA (out : List (Int × Int)) (p : Int × Int) : Nat := out.findIdx fun q => !lessA q p
/-- An angle put in its place, if it is new. -/
def insA (out : List (Int × Int)) (p : Int × Int) : List (Int × Int) := if out[lessNA out p]? = some p then out else out.take (lessNA out p) ++ p :: out.drop (lessNA out p)
theorem insA_old {out : List (Int × Int)} {p : Int × Int} (h : out[lessNA out p]? = some p) : insA out p = out := by unfold insA; rw [if_pos h]
theorem insA_new {out : List (Int × Int)} {p : Int × Int} (h : ¬ out[lessNA out p]? = some p) : insA out p = out.take (lessNA out p) ++ p :: out.drop (lessNA out p) := by unfold insA; rw [if_neg h]
theorem insA_len {out : List (Int × Int)} {p : Int × Int} (h : ¬ out[lessNA out p]? = some p) : (insA out p).length = out.length + 1 := by
  rw [insA_new h]
  have : lessNA out p ≤ out.length := List.findIdx_le_length
  simp only [List.length_append, List.length_cons, List.length_take, List.length_drop]
  omega
theorem lessNA_le (out : List (Int × Int)) (p : Int × Int) : lessNA out p ≤ out.length := List.findIdx_le_length
theorem lessNA_lt {out : List (Int × Int)} {p : Int × Int} {j : Nat} (h : j < lessNA out p) {q : Int × Int} (hq : out[j]? = some q) : lessA q p = true := by
  obtain ⟨hj, rfl⟩ := List.getElem?_eq_some_iff.1 hq
  have := List.not_of_lt_findIdx h
  simpa using this
theorem lessNA_at {out : List (Int × Int)} {p : Int × Int} {q : Int × Int} (hq : out[lessNA out p]? = some q) : lessA q p = false := by
  obtain ⟨hj, rfl⟩ := List.getElem?_eq_some_iff.1 hq
  have := List.findIdx_getElem (xs := out) (p := fun q => !lessA q p) (w := hj)
  have h2 : (!lessA out[lessNA out p] p) = true := this
  cases h3 : lessA out[lessNA out p] p
  · rfl
  · rw [h3] at h2; cases h2
theorem lessNA_stop {out : List (Int × Int)} {p : Int × Int} {k : Nat} (hk : k < out.length) (h : ∀ j, j < k → ∀ q, out[j]? = some q → lessA q p = true) {q : Int × Int} (hq : out[k]? = some q) (hn : lessA q p = false) : lessNA out p = k := by
  rcases Nat.lt_trichotomy (lessNA out p) k with h1 | h1 | h1
  · have hl : lessNA out p < out.length := by omega
    have e := List.getElem?_eq_getElem hl
    have a := h _ h1 _ e
    have b := lessNA_at e
    rw [a] at b; cases b
  · exact h1
  · have := lessNA_lt h1 hq
    rw [this] at hn; cases hn
theorem lessNA_end {out : List (Int × Int)} {p : Int × Int} (h : ∀ j, j < out.length → ∀ q, out[j]? = some q → lessA q p = true) : lessNA out p = out.length := by
  rcases Nat.lt_or_ge (lessNA out p) out.length with h1 | h1
  · have e := List.getElem?_eq_getElem h1
    have a := h _ h1 _ e
    have b := lessNA_at e
    rw [a] at b; cases b
  · have := lessNA_le out p; omega

/-- The cells of a list of angles. -/
def flatA : List (Int × Int) → List Value
  | [] => []
  | p :: l => .int .i64 p.1 :: .int .i64 p.2 :: flatA l
theorem flatA_app : ∀ (l m : List (Int × Int)), flatA (l ++ m) = flatA l ++ flatA m
  | [], m => rfl
  | p :: l, m => by simp [flatA, flatA_app l m]
theorem flatA_len : ∀ l : List (Int × Int), (flatA l).length = l.length * 2
  | [] => rfl
  | p :: l => by simp [flatA, flatA_len l]; omega
theorem flatA_at : ∀ {l : List (Int × Int)} {i : Nat} {a b : Int}, l[i]? = some (a, b) → (flatA l)[i * 2]? = some (.int .i64 a) ∧ (flatA l)[i * 2 + 1]? = some (.int .i64 b)
  | [], i, a, b, h => by simp at h
  | p :: l, 0, a, b, h => by simp at h; subst h; simp [flatA]
  | p :: l, i + 1, a, b, h => by
    simp at h
    obtain ⟨h1, h2⟩ := flatA_at h
    have e1 : (i + 1) * 2 = i * 2 + 1 + 1 := by omega
    rw [e1]
    simp only [flatA, List.getElem?_cons_succ]
    exact ⟨h1, h2⟩
theorem flatA_take : ∀ (l : List (Int × Int)) (k : Nat), flatA (l.take k) = (flatA l).take (k * 2)
  | [], k => by simp [flatA]
  | p :: l, 0 => by simp [flatA]
  | p :: l, k + 1 => by
    rw [List.take_succ_cons, show (k + 1) * 2 = k * 2 + 1 + 1 by omega]
    simp only [flatA, List.take_succ_cons, flatA_take l k]
theorem flatA_drop : ∀ (l : List (Int × Int)) (k : Nat), flatA (l.drop k) = (flatA l).drop (k * 2)
  | [], k => by simp [flatA]
  | p :: l, 0 => by simp
  | p :: l, k + 1 => by
    rw [List.drop_succ_cons, show (k + 1) * 2 = k * 2 + 1 + 1 by omega]
    simp only [flatA, List.drop_succ_cons, flatA_drop l k]
theorem flatA_one : ∀ (l : List (Int × Int)), ∀ u ∈ flatA l, u.oneCell' = true
  | [], u, h => by simp [flatA] at h
  | p :: l, u, h => by
    simp only [flatA, List.mem_cons] at h
    rcases h with rfl | rfl | h
    · rfl
    · rfl
    · exact flatA_one l u h
theorem news_of_rowA {w : World} {lo g n cap : Nat} {e : TypeId} {xs : List Value} (h : w.ownsRow lo e 2 (.slice (some ⟨g, 0, none⟩) n cap) n xs) (o : Nat) (news : List Value) (hn : ∀ i u, news[i]? = some u → xs[o + i]? = some u) :
    ∀ i u, news[i]? = some u → w.cell? ((⟨g, o, none⟩ : Addr).add i) = some u := by
  intro i u hu
  have hadd : (⟨g, o, none⟩ : Addr).add i = ⟨g, o + i, none⟩ := by unfold Addr.add; split <;> simp_all
  have hx := hn i u hu
  have hl := (List.getElem?_eq_some_iff.1 hx).1
  rw [h.1] at hl
  rw [hadd]
  exact (h.cellAt (o + i) hl).trans hx
theorem ownA_of {w : World} {lo : Nat} {l : List (Int × Int)} {A : Option Addr} {len cap : Nat} (hl : l.length = len) (h : w.ownsRow lo 24 2 (.slice A len cap) len (flatA l)) : AngOwn w lo A l := by
  intro hne
  have hk : 0 < len := by
    rcases Nat.eq_zero_or_pos len with h0 | h0
    · rw [h0] at hl; exact absurd (List.eq_nil_of_length_eq_zero hl) hne
    · exact h0
  obtain ⟨g, c, hv, hlo, hg⟩ := h.form hk
  obtain ⟨rfl, rfl⟩ : A = some ⟨g, 0, none⟩ ∧ cap = c := by injection hv with hA hn hc; exact ⟨hA, hc⟩
  refine ⟨g, 0, rfl, hlo, hg, fun i a b hi => ?_⟩
  have hik : i < len := by
    rcases Nat.lt_or_ge i l.length with h1 | h1
    · omega
    · rw [List.getElem?_eq_none h1] at hi; cases hi
  obtain ⟨f1, f2⟩ := flatA_at hi
  rw [show 0 + i * 2 = i * 2 by omega]
  exact ⟨(h.cellAt _ (by omega)).trans f1, (h.cellAt _ (by omega)).trans f2, h.frozenAt _, h.frozenAt _⟩
end Go.Proofs.Ytlmgpecfbpcgaaa

/-
  Rows of angles that a call holds; an angle put in its place among angles in order (plain mathematics).
  Contracts: an angle put in its place among angles in order, as the model does it.
  Contracts: angles in order, none twice, as the model does it.
-/
import Derived.Test.YtjomgbjiognmmaaVX
import Derived.Test.YtjomgbjiognmmaaW30
import Derived.Test.YtjomgbjiognmmaaW7
import Derived.Deep.DeepCutAuto
import Derived.RangeFuncBox
import Derived.WalkSmall
import Derived.OneCell
import Derived.Still
import Derived.StillTactics
import Derived.StillTailTactics
import Derived.Test.YtjomgbjiognmmaaW9
import Derived.Deep.LoopGhost
namespace Go.Proofs.Ytjomgbjiognmmaa
open Go.RowKit

def lessA (q p : Int × Int) : Bool := ltA q.1 q.2 p.1 p.2
/-- How many angles at the head of a list are lesser. -/
def lessNA (out : List (Int × Int)) (p : Int × Int) : Nat := out.findIdx fun q => !lessA q p
/-- An angle put in its place, if it is new. -/
def insA (out : List (Int × Int)) (p : Int × Int) : List (Int × Int) := if out[lessNA out p]? = some p then out else out.take (lessNA out p) ++ p :: out.drop (lessNA out p)
theorem insA_old {out : List (Int × Int)} {p : Int × Int} (h : out[lessNA out p]? = some p) : insA out p = out := by unfold insA; rw [if_pos h]
theorem insA_new {out : List (Int × Int)} {p : Int × Int} (h : ¬ out[lessNA out p]? = some p) : insA out p = out.take (lessNA out p) ++ p :: out.drop (lessNA out p) := by unfold insA; rw [if_neg h]
theorem insA_len {out : List (Int × Int)} {p : Int × Int} (h : ¬ out[lessNA out p]? = some p) : (insA out p).length = out.length + 1 := by
  rw [insA_new h]
  have : lessNA out p ≤ out.length := List.findIdx_le_length
  simp only [List.length_append, List.length_cons, List.length_take, List.length_drop]
  omega
theorem lessNA_le (out : List (Int × Int)) (p : Int × Int) : lessNA out p ≤ out.length := List.findIdx_le_length
theorem lessNA_lt {out : List (Int × Int)} {p : Int × Int} {j : Nat} (h : j < lessNA out p) {q : Int × Int} (hq : out[j]? = some q) : lessA q p = true := by
  obtain ⟨hj, rfl⟩ := List.getElem?_eq_some_iff.1 hq
  have := List.not_of_lt_findIdx h
  simpa using this
theorem lessNA_at {out : List (Int × Int)} {p : Int × Int} {q : Int × Int} (hq : out[lessNA out p]? = some q) : lessA q p = false := by
  obtain ⟨hj, rfl⟩ := List.getElem?_eq_some_iff.1 hq
  have := List.findIdx_getElem (xs := out) (p := fun q => !lessA q p) (w := hj)
  have h2 : (!lessA out[lessNA out p] p) = true := this
  cases h3 : lessA out[lessNA out p] p
  · rfl
  · rw [h3] at h2; cases h2
theorem lessNA_stop {out : List (Int × Int)} {p : Int × Int} {k : Nat} (hk : k < out.length) (h : ∀ j, j < k → ∀ q, out[j]? = some q → lessA q p = true) {q : Int × Int} (hq : out[k]? = some q) (hn : lessA q p = false) : lessNA out p = k := by
  rcases Nat.lt_trichotomy (lessNA out p) k with h1 | h1 | h1
  · have hl : lessNA out p < out.length := by omega
    have e := List.getElem?_eq_getElem hl
    have a := h _ h1 _ e
    have b := lessNA_at e
    rw [a] at b; cases b
  · exact h1
  · have := lessNA_lt h1 hq
    rw [this] at hn; cases hn
theorem lessNA_end {out : List (Int × Int)} {p : Int × Int} (h : ∀ j, j < out.length → ∀ q, out[j]? = some q → lessA q p = true) : lessNA out p = out.length := by
  rcases Nat.lt_or_ge (lessNA out p) out.length with h1 | h1
  · have e := List.getElem?_eq_getElem h1
    have a := h _ h1 _ e
    have b := lessNA_at e
    rw [a] at b; cases b
  · have := lessNA_le out p; omega

/-- The cells of a list of angles. -/
def flatA : List (Int × Int) → List Value
  | [] => []
  | p :: l => .int .i64 p.1 :: .int .i64 p.2 :: flatA l
theorem flatA_app : ∀ (l m : List (Int × Int)), flatA (l ++ m) = flatA l ++ flatA m
  | [], m => rfl
  | p :: l, m => by simp [flatA, flatA_app l m]
theorem flatA_len : ∀ l : List (Int × Int), (flatA l).length = l.length * 2
  | [] => rfl
  | p :: l => by simp [flatA, flatA_len l]; omega
theorem flatA_at : ∀ {l : List (Int × Int)} {i : Nat} {a b : Int}, l[i]? = some (a, b) → (flatA l)[i * 2]? = some (.int .i64 a) ∧ (flatA l)[i * 2 + 1]? = some (.int .i64 b)
  | [], i, a, b, h => by simp at h
  | p :: l, 0, a, b, h => by simp at h; subst h; simp [flatA]
  | p :: l, i + 1, a, b, h => by
    simp at h
    obtain ⟨h1, h2⟩ := flatA_at h
    have e1 : (i + 1) * 2 = i * 2 + 1 + 1 := by omega
    rw [e1]
    simp only [flatA, List.getElem?_cons_succ]
    exact ⟨h1, h2⟩
theorem flatA_take : ∀ (l : List (Int × Int)) (k : Nat), flatA (l.take k) = (flatA l).take (k * 2)
  | [], k => by simp [flatA]
  | p :: l, 0 => by simp [flatA]
  | p :: l, k + 1 => by
    rw [List.take_succ_cons, show (k + 1) * 2 = k * 2 + 1 + 1 by omega]
    simp only [flatA, List.take_succ_cons, flatA_take l k]
theorem flatA_drop : ∀ (l : List (Int × Int)) (k : Nat), flatA (l.drop k) = (flatA l).drop (k * 2)
  | [], k => by simp [flatA]
  | p :: l, 0 => by simp
  | p :: l, k + 1 => by
    rw [List.drop_succ_cons, show (k + 1) * 2 = k * 2 + 1 + 1 by omega]
    simp only [flatA, List.drop_succ_cons, flatA_drop l k]
theorem flatA_one : ∀ (l : List (Int × Int)), ∀ u ∈ flatA l, u.oneCell' = true
  | [], u, h => by simp [flatA] at h
  | p :: l, u, h => by
    simp only [flatA, List.mem_cons] at h
    rcases h with rfl | rfl | h
    · rfl
    · rfl
    · exact flatA_one l u h
theorem news_of_rowA {w : World} {lo g n cap : Nat} {e : TypeId} {xs : List Value} (h : w.ownsRow lo e 2 (.slice (some ⟨g, 0, none⟩) n cap) n xs) (o : Nat) (news : List Value) (hn : ∀ i u, news[i]? = some u → xs[o + i]? = some u) :
    ∀ i u, news[i]? = some u → w.cell? ((⟨g, o, none⟩ : Addr).add i) = some u := by
  intro i u hu
  have hadd : (⟨g, o, none⟩ : Addr).add i = ⟨g, o + i, none⟩ := by unfold Addr.add; split <;> simp_all
  have hx := hn i u hu
  have hl := (List.getElem?_eq_some_iff.1 hx).1
  rw [h.1] at hl
  rw [hadd]
  exact (h.cellAt (o + i) hl).trans hx
theorem ownA_of {w : World} {lo : Nat} {l : List (Int × Int)} {A : Option Addr} {len cap : Nat} (hl : l.length = len) (h : w.ownsRow lo 27 2 (.slice A len cap) len (flatA l)) : AngOwn w lo A l := by
  intro hne
  have hk : 0 < len := by
    rcases Nat.eq_zero_or_pos len with h0 | h0
    · rw [h0] at hl; exact absurd (List.eq_nil_of_length_eq_zero hl) hne
    · exact h0
  obtain ⟨g, c, hv, hlo, hg⟩ := h.form hk
  obtain ⟨rfl, rfl⟩ : A = some ⟨g, 0, none⟩ ∧ cap = c := by injection hv with hA hn hc; exact ⟨hA, hc⟩
  refine ⟨g, 0, rfl, hlo, hg, fun i a b hi => ?_⟩
  have hik : i < len := by
    rcases Nat.lt_or_ge i l.length with h1 | h1
    · omega
    · rw [List.getElem?_eq_none h1] at hi; cases hi
  obtain ⟨f1, f2⟩ := flatA_at hi
  rw [show 0 + i * 2 = i * 2 by omega]
  exact ⟨(h.cellAt _ (by omega)).trans f1, (h.cellAt _ (by omega)).trans f2, h.frozenAt _, h.frozenAt _⟩

theorem ownsCapA {W : World} {e : TypeId} {size : Nat} {A : Option Addr} {n cap : Nat} {xs : List Value} {lo : Nat} (h : W.ownsRow lo e size (.slice A n cap) n xs) : n ≤ cap := by
  rcases h.2 with ⟨a, b⟩ | ⟨g, cap', cur, a, _, _, b, _⟩
  · omega
  · injection a with _ _ hc; omega
theorem eqA_iff4 (a b c d : Int) : eqA a b c d = true ↔ (a, b) = (c, d) := by
  unfold eqA; simp
theorem allAng_at {l : List (Int × Int)} (h : allAng l = true) {k : Nat} {n d : Int} (hx : l[k]? = some (n, d)) : isAng n d = true := by
  unfold allAng at h
  rw [List.all_eq_true] at h
  exact h (n, d) (List.mem_of_getElem? hx)
/-- What the condition of the loop tells, and what the look at the place. -/
def StopResA (w1 : World) (O : List (Int × Int)) (p : Int × Int) (j : Nat) (v : Value) (W : World) : Prop := ∃ t : Bool, v = .bool t ∧ Hid ((t = true → ∃ q, O[j]? = some q ∧ lessA q p = true) ∧ (t = false → lessNA O p = j)) ∧ Below w1.heap.size w1 W
def EqResA (w1 : World) (O : List (Int × Int)) (p : Int × Int) (j : Nat) (v : Value) (W : World) : Prop := ∃ t : Bool, v = .bool t ∧ Hid (t = true ↔ O[j]? = some p) ∧ Below w1.heap.size w1 W

/-- A row of one's own lies still where the blocks of old do. -/
theorem ownKeepA {W1 W2 : World} {e : TypeId} {size : Nat} {v : Value} {n : Nat} {xs : List Value} {lo : Nat} (h : W1.ownsRow lo e size v n xs) (hb : Below W1.heap.size W1 W2) : W2.ownsRow lo e size v n xs := by
  refine ⟨h.1, ?_⟩
  rcases h.2 with ⟨a, b⟩ | ⟨g, cap, cur, a, b, c, d⟩
  · exact .inl ⟨a, b⟩
  · exact .inr ⟨g, cap, cur, a, b, (hb.block g (Array.getElem?_eq_some_iff.1 c).1).trans c, d⟩
/-- All of a list put in their places. -/
def insAll (l : List (Int × Int)) : List (Int × Int) := l.foldl insA []
theorem insAll_next {l : List (Int × Int)} {k : Nat} {p : Int × Int} (h : l[k]? = some p) : insAll (l.take (k + 1)) = insA (insAll (l.take k)) p := by
  unfold insAll
  rw [List.take_add_one, h, Option.toList_some, List.foldl_append]
  rfl
theorem insA_le (out : List (Int × Int)) (p : Int × Int) : (insA out p).length ≤ out.length + 1 := by
  by_cases h : out[lessNA out p]? = some p
  · rw [insA_old h]; omega
  · rw [insA_len h]; omega
theorem insA_mem {out : List (Int × Int)} {p q : Int × Int} : q ∈ insA out p ↔ q = p ∨ q ∈ out := by
  by_cases h : out[lessNA out p]? = some p
  · rw [insA_old h]
    have := List.mem_of_getElem? h
    constructor
    · exact fun x => .inr x
    · rintro (rfl | x)
      · exact this
      · exact x
  · rw [insA_new h]
    have e : q ∈ out ↔ q ∈ out.take (lessNA out p) ∨ q ∈ out.drop (lessNA out p) := by
      rw [← List.mem_append, List.take_append_drop]
    rw [List.mem_append, List.mem_cons, e]
    constructor
    · rintro (h | h | h)
      · exact .inr (.inl h)
      · exact .inl h
      · exact .inr (.inr h)
    · rintro (h | h | h)
      · exact .inr (.inl h)
      · exact .inl h
      · exact .inr (.inr h)
theorem foldA_len : ∀ (l o : List (Int × Int)), (l.foldl insA o).length ≤ o.length + l.length
  | [], o => Nat.le_refl _
  | p :: l, o => by
    have h1 := foldA_len l (insA o p)
    have h2 := insA_le o p
    simp only [List.foldl_cons, List.length_cons]
    omega
theorem insAll_len (l : List (Int × Int)) : (insAll l).length ≤ l.length := by
  have := foldA_len l []
  simpa [insAll] using this
theorem foldA_mem : ∀ (l o : List (Int × Int)) (q : Int × Int), q ∈ l.foldl insA o ↔ q ∈ l ∨ q ∈ o
  | [], o, q => by simp
  | p :: l, o, q => by
    rw [List.foldl_cons, foldA_mem l (insA o p) q, insA_mem, List.mem_cons]
    constructor
    · rintro (h | h | h)
      · exact .inl (.inr h)
      · exact .inl (.inl h)
      · exact .inr h
    · rintro ((h | h) | h)
      · exact .inr (.inl h)
      · exact .inl h
      · exact .inr (.inr h)
theorem insAll_mem (l : List (Int × Int)) (q : Int × Int) : q ∈ insAll l ↔ q ∈ l := by
  unfold insAll
  rw [foldA_mem]
  simp
theorem allAng_ins {l : List (Int × Int)} (h : allAng l = true) : allAng (insAll l) = true := by
  unfold allAng at *
  rw [List.all_eq_true] at *
  exact fun x hx => h x ((insAll_mem l x).1 hx)
theorem allAng_next {l : List (Int × Int)} {k : Nat} {n d : Int} (h : allAng (l.take k) = true) (hq : l[k]? = some (n, d)) (hi : isAng n d = true) : allAng (l.take (k + 1)) = true := by
  unfold allAng at *
  rw [List.take_add_one, hq, Option.toList_some, List.all_append, h]
  simp [hi]

end Go.Proofs.Ytjomgbjiognmmaa

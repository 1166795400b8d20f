/-
  Contracts: angles in order, none twice, as the model does it.
-/
import Derived.Test.YtlmgpecfbpcgaaaW32
import Derived.Test.YtlmgpecfbpcgaaaW9
import Derived.Deep.LoopGhost
namespace Go.Proofs.Ytlmgpecfbpcgaaa
open Go.RowKit

/-- A row of one's own lies still where the blocks of old do. -/
theorem ownKeepA {W1 W2 : World} {e : TypeId} {size : Nat} {v : Value} {n : Nat} {xs : List Value} {lo : Nat} (h : W1.ownsRow lo e size v n xs) (hb : Below W1.heap.size W1 W2) : W2.ownsRow lo e size v n xs := by
  refine ⟨h.1, ?_⟩
  rcases h.2 with ⟨a, b⟩ | ⟨g, cap, cur, a, b, c, d⟩
  · exact .inl ⟨a, b⟩
  · exact .inr ⟨g, cap, cur, a, b, (hb.block g (Array.getElem?_eq_some_iff.1 c).1).trans c, d⟩
/-- All of a list put in their places. -/
def insAll (l : List (Int × Int)) : List (Int × Int) := l.foldl insA []
theorem insAll_next {l : List (Int × Int)} {k : Nat} {p : Int × Int} (h : l[k]? = some p) : insAll (l.take (k + 1)) = insA (insAll (l.take k)) p := by
  unfold insAll
  rw [List.take_add_one, h, Option.toList_some, List.foldl_append]
  rfl
theorem insA_le (out : List (Int × Int)) (p : Int × Int) : (insA out p).length ≤ out.length + 1 := by
  by_cases h : out[lessNA out p]? = some p
  · rw [insA_old h]; omega
  · rw [insA_len h]; omega
theorem insA_mem {out : List (Int × Int)} {p q : Int × Int} : q ∈ insA out p ↔ q = p ∨ q ∈ out := by
  by_cases h : out[lessNA out p]? = some p
  · rw [insA_old h]
    have := List.mem_of_getElem? h
    constructor
    · exact fun x => .inr x
    · rintro (rfl | x)
      · exact this
      · exact x
  · rw [insA_new h]
    have e : q ∈ out ↔ q ∈ out.take (lessNA out p) ∨ q ∈ out.drop (lessNA out p) := by
      rw [← List.mem_append, List.take_append_drop]
    rw [List.mem_append, List.mem_cons, e]
    constructor
    · rintro (h | h | h)
      · exact .inr (.inl h)
      · exact .inl h
      · exact .inr (.inr h)
    · rintro (h | h | h)
      · exact .inr (.inl h)
      · exact .inl h
      · exact .inr (.inr h)
theorem foldA_len : ∀ (l o : List (Int × Int)), (l.foldl insA o).length ≤ o.length + l.length
  | [], o => Nat.le_refl _
  | p :: l, o => by
    have h1 := foldA_len l (insA o p)
    have h2 := insA_le o p
    simp only [List.foldl_cons, List.length_cons]
    omega
theorem insAll_len (l : List (Int × Int)) : (insAll l).length ≤ l.length := by
  have := foldA_len l []
  simpa [insAll] using this
theorem foldA_mem : ∀ (l o : List (Int × Int)) (q : Int × Int), q ∈ l.foldl insA o ↔ q ∈ l ∨ q ∈ o
  | [], o, q => by simp
  | p :: l, o, q => by
    rw [List.foldl_cons, foldA_mem l (insA o p) q, insA_mem, List.mem_cons]
    constructor
    · rintro (h | h | h)
      · exact .inl (.inr h)
      · exact .inl (.inl h)
      · exact .inr h
    · rintro ((h | h) | h)
      · exact .inr (.inl h)
      · exact .inl h
      · exact .inr (.inr h)
theorem insAll_mem (l : List (Int × Int)) (q : Int × Int) : q ∈ insAll l ↔ q ∈ l := by
  unfold insAll
  rw [foldA_mem]
  simp
theorem allAng_ins {l : List (Int × Int)} (h : allAng l = true) : allAng (insAll l) = true := by
  unfold allAng at *
  rw [List.all_eq_true] at *
  exact fun x hx => h x ((insAll_mem l x).1 hx)
theorem allAng_next {l : List (Int × Int)} {k : Nat} {n d : Int} (h : allAng (l.take k) = true) (hq : l[k]? = some (n, d)) (hi : isAng n d = true) : allAng (l.take (k + 1)) = true := by
  unfold allAng at *
  rw [List.take_add_one, hq, Option.toList_some, List.all_append, h]
  simp [hi]

end Go.Proofs.Ytlmgpecfbpcgaaa

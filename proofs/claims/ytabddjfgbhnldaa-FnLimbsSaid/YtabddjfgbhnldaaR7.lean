/-
  Plain mathematics: the angles of a period ascend; ray pairs by the rule of Lavaurs, as lists. No program in sight.
-/
import Derived.Test.YtabddjfgbhnldaaR3
import Derived.Test.YtabddjfgbhnldaaW21
import Derived.Test.YtabddjfgbhnldaaV5
import Derived.Test.YtabddjfgbhnldaaW23
namespace Go.Proofs.Ytabddjfgbhnldaa
open Go.RowKit

theorem red_isAng {p : Int × Int} (h : Red p) : isAng p.1 p.2 = true := by
  obtain ⟨a, b, c, d, e⟩ := h
  unfold isAng
  exact decide_eq_true ⟨a, b, c, d, e⟩
theorem angF_mem {N : Nat} {D : Int} : ∀ {k : Nat} {x : Int × Int}, x ∈ angF N D k → ∃ i, i < k ∧ x = (redN i D, redD i D) ∧ shortP x.2 = N
  | 0, x, h => by simp [angF] at h
  | k + 1, x, h => by
    simp only [angF, List.mem_append] at h
    rcases h with h | h
    · obtain ⟨i, a, b, c⟩ := angF_mem h
      exact ⟨i, by omega, b, c⟩
    · unfold angStep at h
      split at h
      · next hs =>
        simp at h
        exact ⟨k, by omega, h, by rw [h]; exact hs⟩
      · simp at h
theorem ltA_red {i j D : Nat} (hij : i < j) (hj : j < D) : ltA (redN i D) (redD i D) (redN j D) (redD j D) = true := by
  rw [ltA_left (by omega) (by omega)]
  have h := ltA_right (n := (i : Int)) (d := (D : Int)) (m := (j : Int)) (e := (D : Int)) (by omega) (by omega)
  unfold ltA at h
  rw [h]
  exact decide_eq_true (Int.mul_lt_mul_of_pos_right (by omega) (by omega))
theorem angF_asc (N D : Nat) : ∀ k, k ≤ D → (angF N (D : Int) k).Pairwise fun x y => ltA x.1 x.2 y.1 y.2 = true
  | 0, _ => List.Pairwise.nil
  | k + 1, h => by
    simp only [angF]
    rw [List.pairwise_append]
    refine ⟨angF_asc N D k (by omega), ?_, fun x hx y hy => ?_⟩
    · unfold angStep; split <;> simp
    · obtain ⟨i, hi, rfl, _⟩ := angF_mem hx
      unfold angStep at hy
      split at hy
      · simp at hy; subst hy; exact ltA_red hi (by omega)
      · simp at hy

/-- A list of angles that ascend, all of one period. -/
structure Asc (N : Nat) (A : List (Int × Int)) : Prop where
  is : ∀ (i : Nat) (x : Int × Int), A[i]? = some x → isAng x.1 x.2 = true ∧ shortP x.2 = N
  lt : ∀ (i j : Nat) (x y : Int × Int), i < j → A[i]? = some x → A[j]? = some y → ltA x.1 x.2 y.1 y.2 = true
theorem angF_Asc {N D : Nat} (h1 : 1 ≤ D) (h2 : D ≤ 8191) : Asc N (angF N (D : Int) D) := by
  refine ⟨fun i x hx => ?_, fun i j x y hij hx hy => ?_⟩
  · obtain ⟨k, hk, rfl, hs⟩ := angF_mem (List.mem_of_getElem? hx)
    exact ⟨red_isAng (redRed0 (by omega) (by omega)), hs⟩
  · have hp := angF_asc N D D (Nat.le_refl _)
    rw [List.pairwise_iff_getElem] at hp
    obtain ⟨hi, rfl⟩ := List.getElem?_eq_some_iff.1 hx
    obtain ⟨hj, rfl⟩ := List.getElem?_eq_some_iff.1 hy
    exact hp i j hi hj hij
/-- The angle number i. -/
def at_ (A : List (Int × Int)) (i : Nat) : Int × Int := A.getD i (0, 1)
theorem at_some {A : List (Int × Int)} {i : Nat} (h : i < A.length) : A[i]? = some (at_ A i) := by
  unfold at_
  rw [List.getD_eq_getElem?_getD, List.getElem?_eq_getElem h]; rfl
theorem ltA_irr (a b : Int) : ltA a b a b = false := by unfold ltA; simp
theorem Asc.inj {N : Nat} {A : List (Int × Int)} (h : Asc N A) {i j : Nat} (hi : i < A.length) (hj : j < A.length) (e : at_ A i = at_ A j) : i = j := by
  rcases Nat.lt_trichotomy i j with h1 | h1 | h1
  · have := h.lt i j _ _ h1 (at_some hi) (at_some hj)
    rw [e, ltA_irr] at this; cases this
  · exact h1
  · have := h.lt j i _ _ h1 (at_some hj) (at_some hi)
    rw [e, ltA_irr] at this; cases this

/-- The pair of two angles; whether it crosses one of a list. Each pair is told with its period. -/
def lfOf (x y : Int × Int) : Lf4 := (x.1, x.2, y.1, y.2)
def okP (p : Lf4) : Bool := isLf p.1 p.2.1 p.2.2.1 p.2.2.2
def crossP (p q : Lf4) : Bool := crossB p.1 p.2.1 p.2.2.1 p.2.2.2 q.1 q.2.1 q.2.2.1 q.2.2.2
def crossAny (p : Lf4) (l : List (Lf4 × Nat)) : Bool := l.any fun q => crossP p q.1
theorem Asc.ok {N : Nat} {A : List (Int × Int)} (h : Asc N A) {i j : Nat} (hij : i < j) (hj : j < A.length) : okP (lfOf (at_ A i) (at_ A j)) = true := by
  have a := (h.is i _ (at_some (by omega))).1
  have b := (h.is j _ (at_some hj)).1
  have c := h.lt i j _ _ hij (at_some (by omega)) (at_some hj)
  unfold okP isLf lfOf
  dsimp only
  rw [a, b, c]; rfl

/-- The pairs of the numbers M, behind those of lesser periods. -/
def plOf (L : List (Lf4 × Nat)) (A : List (Int × Int)) (N : Nat) (M : List (Nat × Nat)) : List (Lf4 × Nat) := L ++ M.map fun m => (lfOf (at_ A m.1) (at_ A m.2), N)
def upOf (M : List (Nat × Nat)) : List Nat := M.map (·.2)
/-- Number k is free to be joined to number i. -/
def fits (L : List (Lf4 × Nat)) (A : List (Int × Int)) (N : Nat) (M : List (Nat × Nat)) (i k : Nat) : Bool := !(upOf M).contains k && !crossAny (lfOf (at_ A i) (at_ A k)) (plOf L A N M)
def rowM (L : List (Lf4 × Nat)) (A : List (Int × Int)) (N : Nat) (M : List (Nat × Nat)) (i : Nat) : Nat → Nat → List (Nat × Nat)
  | 0, _ => M
  | f + 1, k => if fits L A N M i k then M ++ [(i, k)] else rowM L A N M i f (k + 1)
def allM (L : List (Lf4 × Nat)) (A : List (Int × Int)) (N : Nat) : Nat → Nat → List (Nat × Nat) → List (Nat × Nat)
  | 0, _, M => M
  | f + 1, i, M => allM L A N f (i + 1) (if (upOf M).contains i then M else rowM L A N M i (A.length - (i + 1)) (i + 1))
def joinM (L : List (Lf4 × Nat)) (A : List (Int × Int)) (N : Nat) : List (Nat × Nat) := allM L A N A.length 0 []
/-- The pairs of the periods 2 to m + 1. -/
def upK : Nat → List (Lf4 × Nat)
  | 0 => []
  | m + 1 => plOf (upK m) (angF (m + 2) (2 ^ (m + 2) - 1 : Nat) (2 ^ (m + 2) - 1)) (m + 2) (joinM (upK m) (angF (m + 2) (2 ^ (m + 2) - 1 : Nat) (2 ^ (m + 2) - 1)) (m + 2))

theorem plOf_snoc (L : List (Lf4 × Nat)) (A : List (Int × Int)) (N : Nat) (M : List (Nat × Nat)) (i k : Nat) : plOf L A N (M ++ [(i, k)]) = plOf L A N M ++ [(lfOf (at_ A i) (at_ A k), N)] := by
  simp [plOf, List.map_append, List.append_assoc]
theorem upOf_snoc (M : List (Nat × Nat)) (i k : Nat) : upOf (M ++ [(i, k)]) = upOf M ++ [k] := by simp [upOf]
theorem rowM_next {L : List (Lf4 × Nat)} {A : List (Int × Int)} {N : Nat} {M : List (Nat × Nat)} {i k : Nat} (hk : k < A.length) (h : fits L A N M i k = false) : rowM L A N M i (A.length - k) k = rowM L A N M i (A.length - (k + 1)) (k + 1) := by
  have e : A.length - k = (A.length - (k + 1)) + 1 := by omega
  rw [e]
  simp [rowM, h]
theorem rowM_yes {L : List (Lf4 × Nat)} {A : List (Int × Int)} {N : Nat} {M : List (Nat × Nat)} {i k : Nat} (hk : k < A.length) (h : fits L A N M i k = true) : rowM L A N M i (A.length - k) k = M ++ [(i, k)] := by
  have e : A.length - k = (A.length - (k + 1)) + 1 := by omega
  rw [e]
  simp [rowM, h]
theorem allM_skip {L : List (Lf4 × Nat)} {A : List (Int × Int)} {N : Nat} {M : List (Nat × Nat)} {i : Nat} (hi : i < A.length) (h : (upOf M).contains i = true) : allM L A N (A.length - i) i M = allM L A N (A.length - (i + 1)) (i + 1) M := by
  have e : A.length - i = (A.length - (i + 1)) + 1 := by omega
  rw [e]
  simp only [allM, h, if_true]
theorem allM_row {L : List (Lf4 × Nat)} {A : List (Int × Int)} {N : Nat} {M : List (Nat × Nat)} {i : Nat} (hi : i < A.length) (h : (upOf M).contains i = false) :
    allM L A N (A.length - i) i M = allM L A N (A.length - (i + 1)) (i + 1) (rowM L A N M i (A.length - (i + 1)) (i + 1)) := by
  have e : A.length - i = (A.length - (i + 1)) + 1 := by omega
  rw [e]
  simp only [allM, h]
  rfl

/-- What holds of the numbers that are joined, ahead of number i: uppers are greater, lowers ascend, no number is joined twice. -/
structure Joined (n i : Nat) (M : List (Nat × Nat)) : Prop where
  lt : ∀ m ∈ M, m.1 < m.2 ∧ m.2 < n ∧ m.1 < i
  apart : M.Pairwise fun p q => p.1 < q.1 ∧ p.2 ≠ q.2 ∧ p.2 ≠ q.1
theorem Joined.nil (n : Nat) : Joined n 0 [] := ⟨by simp, List.Pairwise.nil⟩
theorem Joined.mono {n i : Nat} {M : List (Nat × Nat)} (h : Joined n i M) : Joined n (i + 1) M := ⟨fun m hm => by have := h.lt m hm; omega, h.apart⟩
theorem Joined.snoc {n i k : Nat} {M : List (Nat × Nat)} (h : Joined n i M) (hik : i < k) (hk : k < n) (h1 : (upOf M).contains i = false) (h2 : (upOf M).contains k = false) : Joined n (i + 1) (M ++ [(i, k)]) := by
  have no : ∀ j, (upOf M).contains j = false → ∀ m ∈ M, m.2 ≠ j := fun j hj m hm e => by
    have : (upOf M).contains j = true := by
      rw [List.contains_iff_mem]
      exact e ▸ List.mem_map_of_mem (f := (·.2)) hm
    rw [this] at hj; cases hj
  refine ⟨fun m hm => ?_, ?_⟩
  · rw [List.mem_append] at hm
    rcases hm with hm | hm
    · have := h.lt m hm; omega
    · simp at hm; subst hm; exact ⟨hik, hk, by dsimp only; omega⟩
  · rw [List.pairwise_append]
    refine ⟨h.apart, by simp, fun p hp q hq => ?_⟩
    simp at hq
    subst hq
    have := h.lt p hp
    exact ⟨by dsimp only; omega, no k h2 p hp, no i h1 p hp⟩
theorem Joined.one {n i : Nat} {M : List (Nat × Nat)} (h : Joined n i M) {p q : Nat × Nat} (hp : p ∈ M) (hq : q ∈ M) (e : p.1 = q.1 ∨ p.1 = q.2 ∨ p.2 = q.1 ∨ p.2 = q.2) : p = q := by
  obtain ⟨a, ha, rfl⟩ := List.getElem_of_mem hp
  obtain ⟨b, hb, rfl⟩ := List.getElem_of_mem hq
  have hap := h.apart
  rw [List.pairwise_iff_getElem] at hap
  have l1 := h.lt _ hp
  have l2 := h.lt _ hq
  rcases Nat.lt_trichotomy a b with h1 | h1 | h1
  · have := hap a b ha hb h1
    omega
  · subst h1; rfl
  · have := hap b a hb ha h1
    omega
theorem crossAny_mem {p : Lf4} {l : List (Lf4 × Nat)} {q : Lf4 × Nat} (hq : q ∈ l) (h : crossP p q.1 = true) : crossAny p l = true := by
  unfold crossAny; rw [List.any_eq_true]; exact ⟨q, hq, h⟩
theorem crossAny_none {p : Lf4} {l : List (Lf4 × Nat)} (h : ∀ q ∈ l, crossP p q.1 = false) : crossAny p l = false := by
  unfold crossAny; rw [List.any_eq_false]; intro q hq; rw [h q hq]; simp

/-- All pairs of a list are pairs of angles in order. -/
def allP (l : List (Lf4 × Nat)) : Prop := ∀ q ∈ l, okP q.1 = true
theorem allP_plOf {L : List (Lf4 × Nat)} {A : List (Int × Int)} {N i : Nat} {M : List (Nat × Nat)} (hL : allP L) (hA : Asc N A) (hM : Joined A.length i M) : allP (plOf L A N M) := by
  intro q hq
  unfold plOf at hq
  rw [List.mem_append] at hq
  rcases hq with hq | hq
  · exact hL q hq
  · rw [List.mem_map] at hq
    obtain ⟨m, hm, rfl⟩ := hq
    have := hM.lt m hm
    exact hA.ok this.1 this.2.1
theorem rowM_Joined {L : List (Lf4 × Nat)} {A : List (Int × Int)} {N i : Nat} {M : List (Nat × Nat)} (h : Joined A.length i M) (hi : (upOf M).contains i = false) : ∀ f k, i < k → k + f ≤ A.length → Joined A.length (i + 1) (rowM L A N M i f k)
  | 0, _, _, _ => h.mono
  | f + 1, k, hk, hf => by
    simp only [rowM]
    split
    · next hh =>
      unfold fits at hh
      simp only [Bool.and_eq_true, Bool.not_eq_true'] at hh
      exact h.snoc hk (by omega) hi hh.1
    · exact rowM_Joined h hi f (k + 1) (by omega) (by omega)
theorem allM_Joined {L : List (Lf4 × Nat)} {A : List (Int × Int)} {N : Nat} : ∀ (f i : Nat) (M : List (Nat × Nat)), Joined A.length i M → i + f = A.length → Joined A.length A.length (allM L A N f i M)
  | 0, i, M, h, e => by
    simp only [allM]
    have e2 : i = A.length := by omega
    rw [e2] at h
    exact h
  | f + 1, i, M, h, e => by
    simp only [allM]
    refine allM_Joined f (i + 1) _ ?_ (by omega)
    split
    · exact h.mono
    · next hc => exact rowM_Joined h (by simpa using hc) _ _ (by omega) (by omega)
theorem joinM_Joined (L : List (Lf4 × Nat)) (A : List (Int × Int)) (N : Nat) : Joined A.length A.length (joinM L A N) := allM_Joined A.length 0 [] (Joined.nil _) (by omega)
end Go.Proofs.Ytabddjfgbhnldaa

/-
  Plain mathematics: the angles of a period ascend; ray pairs by the rule of Lavaurs, as lists. No program in sight.
  Maps whose keys are ray pairs, or angles: what they hold; looked up, ranged over.
  Plain mathematics: the ray pairs of the periods up to one; each angle is in one of them. No program in sight.
  Contracts: the ray pairs of a period, as the program joins them.
  Contracts: the pair of an angle, as the program finds it.
-/
import Derived.Test.YtnciiodgkanpjaaRE
import Derived.Test.YtnciiodgkanpjaaW21
import Derived.Test.YtnciiodgkanpjaaV5
import Derived.Test.YtnciiodgkanpjaaW23
import Derived.Maps.RangeWalk
import Derived.Maps.OwnSet
import Derived.Test.YtnciiodgkanpjaaR1
import Derived.Deep.LoopGhost
import Derived.WalkMore
import Derived.Test.YtnciiodgkanpjaaV9
namespace Go.Proofs.Ytnciiodgkanpjaa
open Go.RowKit

theorem red_isAng {p : Int × Int} (h : Red p) : isAng p.1 p.2 = true := by
  obtain ⟨a, b, c, d, e⟩ := h
  unfold isAng
  exact decide_eq_true ⟨a, b, c, d, e⟩
theorem angF_mem {N : Nat} {D : Int} : ∀ {k : Nat} {x : Int × Int}, x ∈ angF N D k → ∃ i, i < k ∧ x = (redN i D, redD i D) ∧ shortP x.2 = N
  | 0, x, h => by simp [angF] at h
  | k + 1, x, h => by
    simp only [angF, List.mem_append] at h
    rcases h with h | h
    · obtain ⟨i, a, b, c⟩ := angF_mem h
      exact ⟨i, by omega, b, c⟩
    · unfold angStep at h
      split at h
      · next hs =>
        simp at h
        exact ⟨k, by omega, h, by rw [h]; exact hs⟩
      · simp at h
theorem ltA_red {i j D : Nat} (hij : i < j) (hj : j < D) : ltA (redN i D) (redD i D) (redN j D) (redD j D) = true := by
  rw [ltA_left (by omega) (by omega)]
  have h := ltA_right (n := (i : Int)) (d := (D : Int)) (m := (j : Int)) (e := (D : Int)) (by omega) (by omega)
  unfold ltA at h
  rw [h]
  exact decide_eq_true (Int.mul_lt_mul_of_pos_right (by omega) (by omega))
theorem angF_asc (N D : Nat) : ∀ k, k ≤ D → (angF N (D : Int) k).Pairwise fun x y => ltA x.1 x.2 y.1 y.2 = true
  | 0, _ => List.Pairwise.nil
  | k + 1, h => by
    simp only [angF]
    rw [List.pairwise_append]
    refine ⟨angF_asc N D k (by omega), ?_, fun x hx y hy => ?_⟩
    · unfold angStep; split <;> simp
    · obtain ⟨i, hi, rfl, _⟩ := angF_mem hx
      unfold angStep at hy
      split at hy
      · simp at hy; subst hy; exact ltA_red hi (by omega)
      · simp at hy

/-- A list of angles that ascend, all of one period. -/
structure Asc (N : Nat) (A : List (Int × Int)) : Prop where
  is : ∀ (i : Nat) (x : Int × Int), A[i]? = some x → isAng x.1 x.2 = true ∧ shortP x.2 = N
  lt : ∀ (i j : Nat) (x y : Int × Int), i < j → A[i]? = some x → A[j]? = some y → ltA x.1 x.2 y.1 y.2 = true
theorem angF_Asc {N D : Nat} (h1 : 1 ≤ D) (h2 : D ≤ 8191) : Asc N (angF N (D : Int) D) := by
  refine ⟨fun i x hx => ?_, fun i j x y hij hx hy => ?_⟩
  · obtain ⟨k, hk, rfl, hs⟩ := angF_mem (List.mem_of_getElem? hx)
    exact ⟨red_isAng (redRed0 (by omega) (by omega)), hs⟩
  · have hp := angF_asc N D D (Nat.le_refl _)
    rw [List.pairwise_iff_getElem] at hp
    obtain ⟨hi, rfl⟩ := List.getElem?_eq_some_iff.1 hx
    obtain ⟨hj, rfl⟩ := List.getElem?_eq_some_iff.1 hy
    exact hp i j hi hj hij
/-- The angle number i. -/
def at_ (A : List (Int × Int)) (i : Nat) : Int × Int := A.getD i (0, 1)
theorem at_some {A : List (Int × Int)} {i : Nat} (h : i < A.length) : A[i]? = some (at_ A i) := by
  unfold at_
  rw [List.getD_eq_getElem?_getD, List.getElem?_eq_getElem h]; rfl
theorem ltA_irr (a b : Int) : ltA a b a b = false := by unfold ltA; simp
theorem Asc.inj {N : Nat} {A : List (Int × Int)} (h : Asc N A) {i j : Nat} (hi : i < A.length) (hj : j < A.length) (e : at_ A i = at_ A j) : i = j := by
  rcases Nat.lt_trichotomy i j with h1 | h1 | h1
  · have := h.lt i j _ _ h1 (at_some hi) (at_some hj)
    rw [e, ltA_irr] at this; cases this
  · exact h1
  · have := h.lt j i _ _ h1 (at_some hj) (at_some hi)
    rw [e, ltA_irr] at this; cases this

/-- The pair of two angles; whether it crosses one of a list. Each pair is told with its period. -/
def lfOf (x y : Int × Int) : Lf4 := (x.1, x.2, y.1, y.2)
def okP (p : Lf4) : Bool := isLf p.1 p.2.1 p.2.2.1 p.2.2.2
def crossP (p q : Lf4) : Bool := crossB p.1 p.2.1 p.2.2.1 p.2.2.2 q.1 q.2.1 q.2.2.1 q.2.2.2
def crossAny (p : Lf4) (l : List (Lf4 × Nat)) : Bool := l.any fun q => crossP p q.1
theorem Asc.ok {N : Nat} {A : List (Int × Int)} (h : Asc N A) {i j : Nat} (hij : i < j) (hj : j < A.length) : okP (lfOf (at_ A i) (at_ A j)) = true := by
  have a := (h.is i _ (at_some (by omega))).1
  have b := (h.is j _ (at_some hj)).1
  have c := h.lt i j _ _ hij (at_some (by omega)) (at_some hj)
  unfold okP isLf lfOf
  dsimp only
  rw [a, b, c]; rfl

/-- The pairs of the numbers M, behind those of lesser periods. -/
def plOf (L : List (Lf4 × Nat)) (A : List (Int × Int)) (N : Nat) (M : List (Nat × Nat)) : List (Lf4 × Nat) := L ++ M.map fun m => (lfOf (at_ A m.1) (at_ A m.2), N)
def upOf (M : List (Nat × Nat)) : List Nat := M.map (·.2)
/-- Number k is free to be joined to number i. -/
def fits (L : List (Lf4 × Nat)) (A : List (Int × Int)) (N : Nat) (M : List (Nat × Nat)) (i k : Nat) : Bool := !(upOf M).contains k && !crossAny (lfOf (at_ A i) (at_ A k)) (plOf L A N M)
def rowM (L : List (Lf4 × Nat)) (A : List (Int × Int)) (N : Nat) (M : List (Nat × Nat)) (i : Nat) : Nat → Nat → List (Nat × Nat)
  | 0, _ => M
  | f + 1, k => if fits L A N M i k then M ++ [(i, k)] else rowM L A N M i f (k + 1)
def allM (L : List (Lf4 × Nat)) (A : List (Int × Int)) (N : Nat) : Nat → Nat → List (Nat × Nat) → List (Nat × Nat)
  | 0, _, M => M
  | f + 1, i, M => allM L A N f (i + 1) (if (upOf M).contains i then M else rowM L A N M i (A.length - (i + 1)) (i + 1))
def joinM (L : List (Lf4 × Nat)) (A : List (Int × Int)) (N : Nat) : List (Nat × Nat) := allM L A N A.length 0 []
/-- The pairs of the periods 2 to m + 1. -/
def upK : Nat → List (Lf4 × Nat)
  | 0 => []
  | m + 1 => plOf (upK m) (angF (m + 2) (2 ^ (m + 2) - 1 : Nat) (2 ^ (m + 2) - 1)) (m + 2) (joinM (upK m) (angF (m + 2) (2 ^ (m + 2) - 1 : Nat) (2 ^ (m + 2) - 1)) (m + 2))

theorem plOf_snoc (L : List (Lf4 × Nat)) (A : List (Int × Int)) (N : Nat) (M : List (Nat × Nat)) (i k : Nat) : plOf L A N (M ++ [(i, k)]) = plOf L A N M ++ [(lfOf (at_ A i) (at_ A k), N)] := by
  simp [plOf, List.map_append, List.append_assoc]
theorem upOf_snoc (M : List (Nat × Nat)) (i k : Nat) : upOf (M ++ [(i, k)]) = upOf M ++ [k] := by simp [upOf]
theorem rowM_next {L : List (Lf4 × Nat)} {A : List (Int × Int)} {N : Nat} {M : List (Nat × Nat)} {i k : Nat} (hk : k < A.length) (h : fits L A N M i k = false) : rowM L A N M i (A.length - k) k = rowM L A N M i (A.length - (k + 1)) (k + 1) := by
  have e : A.length - k = (A.length - (k + 1)) + 1 := by omega
  rw [e]
  simp [rowM, h]
theorem rowM_yes {L : List (Lf4 × Nat)} {A : List (Int × Int)} {N : Nat} {M : List (Nat × Nat)} {i k : Nat} (hk : k < A.length) (h : fits L A N M i k = true) : rowM L A N M i (A.length - k) k = M ++ [(i, k)] := by
  have e : A.length - k = (A.length - (k + 1)) + 1 := by omega
  rw [e]
  simp [rowM, h]
theorem allM_skip {L : List (Lf4 × Nat)} {A : List (Int × Int)} {N : Nat} {M : List (Nat × Nat)} {i : Nat} (hi : i < A.length) (h : (upOf M).contains i = true) : allM L A N (A.length - i) i M = allM L A N (A.length - (i + 1)) (i + 1) M := by
  have e : A.length - i = (A.length - (i + 1)) + 1 := by omega
  rw [e]
  simp only [allM, h, if_true]
theorem allM_row {L : List (Lf4 × Nat)} {A : List (Int × Int)} {N : Nat} {M : List (Nat × Nat)} {i : Nat} (hi : i < A.length) (h : (upOf M).contains i = false) :
    allM L A N (A.length - i) i M = allM L A N (A.length - (i + 1)) (i + 1) (rowM L A N M i (A.length - (i + 1)) (i + 1)) := by
  have e : A.length - i = (A.length - (i + 1)) + 1 := by omega
  rw [e]
  simp only [allM, h]
  rfl

/-- What holds of the numbers that are joined, ahead of number i: uppers are greater, lowers ascend, no number is joined twice. -/
structure Joined (n i : Nat) (M : List (Nat × Nat)) : Prop where
  lt : ∀ m ∈ M, m.1 < m.2 ∧ m.2 < n ∧ m.1 < i
  apart : M.Pairwise fun p q => p.1 < q.1 ∧ p.2 ≠ q.2 ∧ p.2 ≠ q.1
theorem Joined.nil (n : Nat) : Joined n 0 [] := ⟨by simp, List.Pairwise.nil⟩
theorem Joined.mono {n i : Nat} {M : List (Nat × Nat)} (h : Joined n i M) : Joined n (i + 1) M := ⟨fun m hm => by have := h.lt m hm; omega, h.apart⟩
theorem Joined.snoc {n i k : Nat} {M : List (Nat × Nat)} (h : Joined n i M) (hik : i < k) (hk : k < n) (h1 : (upOf M).contains i = false) (h2 : (upOf M).contains k = false) : Joined n (i + 1) (M ++ [(i, k)]) := by
  have no : ∀ j, (upOf M).contains j = false → ∀ m ∈ M, m.2 ≠ j := fun j hj m hm e => by
    have : (upOf M).contains j = true := by
      rw [List.contains_iff_mem]
      exact e ▸ List.mem_map_of_mem (f := (·.2)) hm
    rw [this] at hj; cases hj
  refine ⟨fun m hm => ?_, ?_⟩
  · rw [List.mem_append] at hm
    rcases hm with hm | hm
    · have := h.lt m hm; omega
    · simp at hm; subst hm; exact ⟨hik, hk, by dsimp only; omega⟩
  · rw [List.pairwise_append]
    refine ⟨h.apart, by simp, fun p hp q hq => ?_⟩
    simp at hq
    subst hq
    have := h.lt p hp
    exact ⟨by dsimp only; omega, no k h2 p hp, no i h1 p hp⟩
theorem Joined.one {n i : Nat} {M : List (Nat × Nat)} (h : Joined n i M) {p q : Nat × Nat} (hp : p ∈ M) (hq : q ∈ M) (e : p.1 = q.1 ∨ p.1 = q.2 ∨ p.2 = q.1 ∨ p.2 = q.2) : p = q := by
  obtain ⟨a, ha, rfl⟩ := List.getElem_of_mem hp
  obtain ⟨b, hb, rfl⟩ := List.getElem_of_mem hq
  have hap := h.apart
  rw [List.pairwise_iff_getElem] at hap
  have l1 := h.lt _ hp
  have l2 := h.lt _ hq
  rcases Nat.lt_trichotomy a b with h1 | h1 | h1
  · have := hap a b ha hb h1
    omega
  · subst h1; rfl
  · have := hap b a hb ha h1
    omega
theorem crossAny_mem {p : Lf4} {l : List (Lf4 × Nat)} {q : Lf4 × Nat} (hq : q ∈ l) (h : crossP p q.1 = true) : crossAny p l = true := by
  unfold crossAny; rw [List.any_eq_true]; exact ⟨q, hq, h⟩
theorem crossAny_none {p : Lf4} {l : List (Lf4 × Nat)} (h : ∀ q ∈ l, crossP p q.1 = false) : crossAny p l = false := by
  unfold crossAny; rw [List.any_eq_false]; intro q hq; rw [h q hq]; simp

/-- All pairs of a list are pairs of angles in order. -/
def allP (l : List (Lf4 × Nat)) : Prop := ∀ q ∈ l, okP q.1 = true
theorem allP_plOf {L : List (Lf4 × Nat)} {A : List (Int × Int)} {N i : Nat} {M : List (Nat × Nat)} (hL : allP L) (hA : Asc N A) (hM : Joined A.length i M) : allP (plOf L A N M) := by
  intro q hq
  unfold plOf at hq
  rw [List.mem_append] at hq
  rcases hq with hq | hq
  · exact hL q hq
  · rw [List.mem_map] at hq
    obtain ⟨m, hm, rfl⟩ := hq
    have := hM.lt m hm
    exact hA.ok this.1 this.2.1
theorem rowM_Joined {L : List (Lf4 × Nat)} {A : List (Int × Int)} {N i : Nat} {M : List (Nat × Nat)} (h : Joined A.length i M) (hi : (upOf M).contains i = false) : ∀ f k, i < k → k + f ≤ A.length → Joined A.length (i + 1) (rowM L A N M i f k)
  | 0, _, _, _ => h.mono
  | f + 1, k, hk, hf => by
    simp only [rowM]
    split
    · next hh =>
      unfold fits at hh
      simp only [Bool.and_eq_true, Bool.not_eq_true'] at hh
      exact h.snoc hk (by omega) hi hh.1
    · exact rowM_Joined h hi f (k + 1) (by omega) (by omega)
theorem allM_Joined {L : List (Lf4 × Nat)} {A : List (Int × Int)} {N : Nat} : ∀ (f i : Nat) (M : List (Nat × Nat)), Joined A.length i M → i + f = A.length → Joined A.length A.length (allM L A N f i M)
  | 0, i, M, h, e => by
    simp only [allM]
    have e2 : i = A.length := by omega
    rw [e2] at h
    exact h
  | f + 1, i, M, h, e => by
    simp only [allM]
    refine allM_Joined f (i + 1) _ ?_ (by omega)
    split
    · exact h.mono
    · next hc => exact rowM_Joined h (by simpa using hc) _ _ (by omega) (by omega)
theorem joinM_Joined (L : List (Lf4 × Nat)) (A : List (Int × Int)) (N : Nat) : Joined A.length A.length (joinM L A N) := allM_Joined A.length 0 [] (Joined.nil _) (by omega)

theorem rpLt : 52 < Try.prog.types.size := of_decide_eq_true (by kernel_rfl)
theorem rpAt : Try.prog.keyTypeAt 3 52 = true := by kernel_rfl
theorem rpLaw0 : WideMaps.KeyLaw Try.prog 52 := deep_law_laid laidOut (m := 3) (by omega) rpLt rpAt (by rw [Try.underlying52])
theorem rpLaw : Maps.Keyed Try.prog 52 := Maps.Keyed.of_law rpLaw0
theorem rpKeyType : Try.prog.keyType 52 = true := by kernel_rfl
theorem rpCells : Try.prog.cellsOf 52 = 4 := by kernel_rfl
/-- The key of a pair in a map. -/
def kp (p : Lf4) : Lit := .string (keyBytes [.int .i64 p.1, .int .i64 p.2.1, .int .i64 p.2.2.1, .int .i64 p.2.2.2])
theorem kp_key (p : Lf4) : WideAt.IsKeyLit (kp p) := trivial
def wf4 (p : Lf4) : Prop := (Lit.int .i64 p.1).wf = true ∧ (Lit.int .i64 p.2.1).wf = true ∧ (Lit.int .i64 p.2.2.1).wf = true ∧ (Lit.int .i64 p.2.2.2).wf = true
theorem typesSome2 : ∃ m, Try.prog.types.size = m + 2 := ⟨Try.prog.types.size - 2, by have : 1 < Try.prog.types.size := of_decide_eq_true (by kernel_rfl); omega⟩
theorem angLits (m : Nat) (a b : Int) (ha : (Lit.int .i64 a).wf = true) (hb : (Lit.int .i64 b).wf = true) : Try.prog.keyLits (m + 2) 25 [.int .i64 a, .int .i64 b] = some [.int .i64 a, .int .i64 b] := by
  simp [Program.keyLits, Try.underlying25, Try.underlying2, angCells, intCells, ha, hb]
theorem rpKey (p : Lf4) (h : wf4 p) : keyOf Try.prog 52 (leafV p.1 p.2.1 p.2.2.1 p.2.2.2) = some (kp p) := by
  obtain ⟨m, hm⟩ := typesSome2
  obtain ⟨a, b, c, e⟩ := p
  obtain ⟨h1, h2, h3, h4⟩ := h
  dsimp only at *
  have hf : (leafV a b c e).formed Try.prog 52 = true := by simp [Value.formed, Try.underlying52, rpCells]
  have hk : Try.prog.keyLits (Try.prog.types.size + 1) 52 [.int .i64 a, .int .i64 b, .int .i64 c, .int .i64 e] = some [.int .i64 a, .int .i64 b, .int .i64 c, .int .i64 e] := by
    rw [hm]
    unfold Program.keyLits
    rw [Try.underlying52]
    simp [rpCells, angCells, angLits m a b h1 h2, angLits m c e h3 h4]
  unfold keyOf
  rw [Try.underlying52]
  simp only [rpKeyType, hf, Bool.and_self, if_true]
  rw [show (leafV a b c e).cells.toList = [.int .i64 a, .int .i64 b, .int .i64 c, .int .i64 e] from rfl, hk]
  rfl
theorem kp_inj {p q : Lf4} (hp : wf4 p) (hq : wf4 q) (e : kp p = kp q) : p = q := by
  have h1 := rpKey p hp
  have h2 := rpKey q hq
  rw [e] at h1
  have h3 := rpLaw.inj h1 h2
  simp only [Value.agg.injEq, Array.mk.injEq, List.cons.injEq, Value.int.injEq, true_and, and_true] at h3
  obtain ⟨a, b, c, d⟩ := h3
  exact Prod.ext a (Prod.ext b (Prod.ext c d))
theorem ok_wf {p : Lf4} (h : okP p = true) : wf4 p := by
  obtain ⟨r1, r2, -⟩ := isLf_yes h
  exact ⟨(red_wf r1).1, (red_wf r1).2, (red_wf r2).1, (red_wf r2).2⟩

/-- What a map of pairs reads as. -/
def putP (m : DataW Unit) (x : Lf4 × Nat) : DataW Unit := m.put (kp x.1) (.lit (.int .i64 (x.2 : Int)))
def pD (l : List (Lf4 × Nat)) : DataW Unit := l.foldl putP (.map [])
theorem pD_snoc (l : List (Lf4 × Nat)) (x : Lf4 × Nat) : pD (l ++ [x]) = (pD l).put (kp x.1) (.lit (.int .i64 (x.2 : Int))) := by simp [pD, List.foldl_append, putP]
theorem putP_has (k : Lit) : ∀ (l : List (Lf4 × Nat)) (m : DataW Unit), Maps.IsMap m → (Maps.has (l.foldl putP m) k = true ↔ Maps.has m k = true ∨ ∃ x ∈ l, kp x.1 = k)
  | [], m, _ => by simp
  | x :: l, m, hm => by
    rw [List.foldl_cons, putP_has k l (putP m x) (hm.put _ _)]
    unfold putP
    by_cases e : kp x.1 = k
    · rw [← e, Maps.has_put_same hm (kp_key _)]
      simp
    · rw [Maps.has_put_other (fun h => e h.symm)]
      simp [e]
theorem pD_has {l : List (Lf4 × Nat)} {k : Lit} : Maps.has (pD l) k = true ↔ ∃ x ∈ l, kp x.1 = k := by
  unfold pD
  rw [putP_has k l _ Maps.isMap_empty]
  simp [Maps.has_eq]
/-- What a set of joined angles reads as. -/
def putJ (A : List (Int × Int)) (m : DataW Unit) (j : Nat) : DataW Unit := m.put (kl (at_ A j)) (.lit (.bool true))
def jD (A : List (Int × Int)) (U : List Nat) : DataW Unit := U.foldl (putJ A) (.map [])
theorem jD_snoc (A : List (Int × Int)) (U : List Nat) (j : Nat) : jD A (U ++ [j]) = (jD A U).put (kl (at_ A j)) (.lit (.bool true)) := by simp [jD, List.foldl_append, putJ]
theorem putJ_at (A : List (Int × Int)) (k : Lit) (z : DataW Unit) : ∀ (U : List Nat) (m : DataW Unit), Maps.IsMap m → ((U.foldl (putJ A) m).atKey k z = .lit (.bool true) ∧ ∃ j ∈ U, kl (at_ A j) = k) ∨ ((U.foldl (putJ A) m).atKey k z = m.atKey k z ∧ ∀ j ∈ U, kl (at_ A j) ≠ k)
  | [], m, _ => .inr ⟨rfl, by simp⟩
  | x :: U, m, hm => by
    rw [List.foldl_cons]
    rcases putJ_at A k z U (putJ A m x) (hm.put _ _) with ⟨h1, j, hj, hk⟩ | ⟨h1, h2⟩
    · exact .inl ⟨h1, j, List.mem_cons_of_mem _ hj, hk⟩
    · by_cases e : kl (at_ A x) = k
      · refine .inl ⟨?_, x, List.mem_cons_self .., e⟩
        rw [h1]
        unfold putJ
        rw [e]
        exact Maps.atKey_put_same hm (e ▸ kl_key _) _ z
      · refine .inr ⟨?_, fun j hj => ?_⟩
        · rw [h1]
          unfold putJ
          exact Maps.atKey_put_other (fun h => e h.symm) _ z
        · rw [List.mem_cons] at hj
          rcases hj with rfl | hj
          · exact e
          · exact h2 j hj
theorem jD_at {N : Nat} {A : List (Int × Int)} (hA : Asc N A) {U : List Nat} (hU : ∀ j ∈ U, j < A.length) {k : Nat} (hk : k < A.length) : (jD A U).atKey (kl (at_ A k)) (.lit (.bool false)) = .lit (.bool (U.contains k)) := by
  have red : ∀ j, j < A.length → Red (at_ A j) := fun j hj => ang_red (hA.is j _ (at_some hj)).1
  unfold jD
  rcases putJ_at A (kl (at_ A k)) (.lit (.bool false)) U _ Maps.isMap_empty with ⟨h1, j, hj, e⟩ | ⟨h1, h2⟩
  · have : j = k := hA.inj (hU j hj) hk (kl_inj (red j (hU j hj)) (red k hk) e)
    subst this
    rw [h1, List.contains_iff_mem.2 hj]
  · have : U.contains k = false := by
      cases hc : U.contains k
      · rfl
      · exact absurd rfl (h2 k (List.contains_iff_mem.1 hc))
    rw [h1, this]
    rfl

theorem plainElem_bool_inv {H : Type} {P : Program} {e : TypeId} (he : P.underlying e = some .bool) {v : Value} {z : DataW H × List MemPlace} (h : plainElem P e v = some z) : ∃ b, v = .bool b ∧ z = (.lit (.bool b), []) := by
  unfold plainElem at h
  rw [he] at h
  cases v <;> simp at h
  exact ⟨_, rfl, h.symm⟩
/-- 'm[k]' in a map[K]bool. -/
theorem wpList_lookup_own_bool {H : Type} {P : Program} (w : World) {ops : Array Oper} {rest : List Oper} {o : Oper} {a : Act} {Q : Exit → Act → World → Prop}
    (hg : o.guard = none) (m x : Operand) (t : TypeId) (hop : o.op = Op.lookup t m x false)
    (k e : TypeId) (K : Maps.Keyed P k) (ht : P.underlying t = some (.map k e)) (he : P.underlying e = some .bool) (hz : (zeroValue e).run P w = .ok (.bool false) w) (b n : Nat) (D : DataW H)
    (hm : a.eval m = .map (some b)) (hown : w.ownsMap P k (plainElem P e) b n D) (key : Value) (kl : Lit) (hx : a.eval x = key) (hkey : keyOf P k key = some kl) (c : Bool) (hc : D.atKey kl (.lit (.bool false)) = .lit (.bool c))
    (hK : wpList P ops Q rest (a.put o.dst (.bool c)) w) :
    wpList P ops Q (o :: rest) a w := by
  refine wpList_plain hg fun K' hK' => ?_
  obtain ⟨v, ps, hrun, hv⟩ := hown.lookup K ht hz (plainElem_bool he false) hkey
  obtain ⟨c', rfl, hz'⟩ := plainElem_bool_inv he hv
  simp only [Prod.mk.injEq] at hz'
  rw [hc] at hz'
  have : c = c' := by simpa using hz'.1
  subst this
  unfold Oper.wp
  simp [execOp, hop, hm, hx, hrun, Result.andThen]
  exact hK' _ _ hK
/-- The step of a range over a map of pairs: nothing is left; or one of the pairs comes. -/
theorem wpList_next_pairs (w : World) {ops : Array Oper} {rest : List Oper} {o : Oper} {a : Act} {Q : Exit → Act → World → Prop} (hg : o.guard = none) (it : Operand) (hop : o.op = Op.next it false)
    (b r n : Nat) (l : List (Lf4 × Nat)) (hl : allP l) (left : Lit → Bool) (cnt : Nat)
    (hit : a.eval it = .pointer (some ⟨r, 0, none⟩)) (h : w.ranges Try.prog 52 (plainElem Try.prog 2) b r n (pD l) left cnt)
    (hDone : (∀ kl, left kl = false) → wpList Try.prog ops Q rest (a.put o.dst (.tuple #[.bool false])) w)
    (hMore : ∀ (x : Lf4 × Nat) (c : Int) (w' : World) (cnt' : Nat), x ∈ l → left (kp x.1) = true → (∀ zd, (pD l).atKey (kp x.1) zd = .lit (.int .i64 c)) → w'.ranges Try.prog 52 (plainElem Try.prog 2) b r n (pD l) (fun z => left z && !z.sameKey (kp x.1)) cnt' → cnt' < cnt →
      w.grownBy w' (some r) → w'.heap.size = w.heap.size → (Instr.entry (.pointer (some ⟨r, 0, none⟩))).run Try.prog w' = .ok (.tuple #[leafV x.1.1 x.1.2.1 x.1.2.2.1 x.1.2.2.2, .int .i64 c]) w' → wpList Try.prog ops Q rest (a.put o.dst (.tuple #[.bool true, leafV x.1.1 x.1.2.1 x.1.2.2.1 x.1.2.2.2, .int .i64 c])) w') :
    wpList Try.prog ops Q (o :: rest) a w := by
  refine wpList_plain hg fun K' hK' => ?_
  unfold Oper.wp
  rcases h.next rpLaw o.type with ⟨h0, hl0, hrun⟩ | ⟨key, v, kl0, y, w', cnt', hkey, hlk, hv, hat, hrun, hrg, hlt, hgr, hsz, hen⟩
  · simp [execOp, hop, hit, hrun, Result.andThen]
    exact hK' _ _ (hDone hl0)
  · have hhas := Maps.has_true_of_atKey hat
    obtain ⟨x, hx, rfl⟩ := pD_has.1 hhas
    obtain rfl := rpLaw.inj hkey (rpKey x.1 (ok_wf (hl x hx)))
    obtain ⟨c, rfl, rfl, _⟩ := plainElem_int_inv Try.underlying2 hv
    simp [execOp, hop, hit, hrun, Result.andThen]
    exact hK' _ _ (hMore x c w' cnt' hx hlk hat hrg hlt hgr hsz hen)

theorem pow_lt8 {k : Nat} (h : k ≤ 8) : 2 ^ k ≤ 256 := Nat.le_trans (Nat.pow_le_pow_right (by omega) h) (by decide)
/-- The angles of the period m + 2. -/
def angsOf (m : Nat) : List (Int × Int) := angF (m + 2) (2 ^ (m + 2) - 1 : Nat) (2 ^ (m + 2) - 1)
theorem angsOf_Asc {m : Nat} (h : m ≤ 6) : Asc (m + 2) (angsOf m) := by
  have h2 := pow_lt8 (k := m + 2) (by omega)
  have h3 : 4 ≤ 2 ^ (m + 2) := by rw [Nat.pow_succ, Nat.pow_succ]; have := Nat.one_le_two_pow (n := m); omega
  exact angF_Asc (by omega) (by omega)
theorem angsOf_len {m : Nat} (h : m ≤ 6) : (angsOf m).length ≤ 255 := by
  have h2 := pow_lt8 (k := m + 2) (by omega)
  have := angF_len (m + 2) (2 ^ (m + 2) - 1 : Nat) (2 ^ (m + 2) - 1)
  unfold angsOf; omega
theorem upK_succ (m : Nat) : upK (m + 1) = plOf (upK m) (angsOf m) (m + 2) (joinM (upK m) (angsOf m) (m + 2)) := rfl
theorem rowM_len (L : List (Lf4 × Nat)) (A : List (Int × Int)) (N : Nat) (M : List (Nat × Nat)) (i : Nat) : ∀ f k, (rowM L A N M i f k).length ≤ M.length + 1
  | 0, _ => by simp [rowM]
  | f + 1, k => by
    simp only [rowM]
    split
    · simp
    · exact rowM_len L A N M i f (k + 1)
theorem allM_len (L : List (Lf4 × Nat)) (A : List (Int × Int)) (N : Nat) : ∀ f i M, (allM L A N f i M).length ≤ M.length + f
  | 0, _, _ => by simp [allM]
  | f + 1, i, M => by
    simp only [allM]
    refine Nat.le_trans (allM_len L A N f (i + 1) _) ?_
    split
    · omega
    · have := rowM_len L A N M i (A.length - (i + 1)) (i + 1); omega
theorem upK_len : ∀ m, m ≤ 7 → (upK m).length ≤ m * 255
  | 0, _ => by simp [upK]
  | m + 1, h => by
    have ih := upK_len m (by omega)
    have h1 := allM_len (upK m) (angsOf m) (m + 2) (angsOf m).length 0 []
    have h2 := angsOf_len (m := m) (by omega)
    rw [upK_succ]
    unfold plOf joinM
    simp only [List.length_append, List.length_map]
    simp at h1
    omega
theorem upK_ok : ∀ m, m ≤ 7 → allP (upK m)
  | 0, _ => by intro q hq; simp [upK] at hq
  | m + 1, h => by
    rw [upK_succ]
    exact allP_plOf (upK_ok m (by omega)) (angsOf_Asc (by omega)) (joinM_Joined _ _ _)

/-- An angle is one of a pair. -/
def inP (x : Int × Int) (p : Lf4) : Bool := eqA p.1 p.2.1 x.1 x.2 || eqA p.2.2.1 p.2.2.2 x.1 x.2
theorem inP_iff (x : Int × Int) (p : Lf4) : inP x p = true ↔ (p.1, p.2.1) = x ∨ (p.2.2.1, p.2.2.2) = x := by
  unfold inP
  rw [Bool.or_eq_true, eqA_iff3, eqA_iff3]
  constructor
  · rintro (⟨a, b⟩ | ⟨a, b⟩)
    · exact .inl (Prod.ext a b)
    · exact .inr (Prod.ext a b)
  · rintro (h | h)
    · exact .inl ⟨congrArg Prod.fst h, congrArg Prod.snd h⟩
    · exact .inr ⟨congrArg Prod.fst h, congrArg Prod.snd h⟩
/-- The period of each pair's angles is the one that is told with it. -/
theorem upK_per : ∀ m, m ≤ 7 → ∀ q ∈ upK m, q.2 ≤ m + 1 ∧ 2 ≤ q.2 ∧ shortP q.1.2.1 = q.2 ∧ shortP q.1.2.2.2 = q.2
  | 0, _ => by intro q hq; simp [upK] at hq
  | m + 1, h => by
    intro q hq
    rw [upK_succ] at hq
    unfold plOf at hq
    rw [List.mem_append] at hq
    rcases hq with hq | hq
    · have := upK_per m (by omega) q hq
      exact ⟨by omega, this.2⟩
    · rw [List.mem_map] at hq
      obtain ⟨j, hj, rfl⟩ := hq
      have hl := (joinM_Joined (upK m) (angsOf m) (m + 2)).lt j hj
      have hA := angsOf_Asc (m := m) (by omega)
      exact ⟨by dsimp only; omega, by dsimp only; omega, (hA.is j.1 _ (at_some (by omega))).2, (hA.is j.2 _ (at_some (by omega))).2⟩
/-- Each angle is in one pair at most. -/
theorem upK_one : ∀ m, m ≤ 7 → ∀ (x : Int × Int) (q r : Lf4 × Nat), q ∈ upK m → r ∈ upK m → inP x q.1 = true → inP x r.1 = true → q.1 = r.1
  | 0, _ => by intro x q r hq; simp [upK] at hq
  | m + 1, h => by
    intro x q r hq hr hxq hxr
    have pq := upK_per (m + 1) h q hq
    have pr := upK_per (m + 1) h r hr
    have sx : ∀ t : Lf4 × Nat, inP x t.1 = true → shortP t.1.2.1 = t.2 → shortP t.1.2.2.2 = t.2 → shortP x.2 = t.2 := by
      intro t ht e1 e2
      rcases (inP_iff x t.1).1 ht with e | e
      · rw [← e]; exact e1
      · rw [← e]; exact e2
    have tq := sx q hxq pq.2.2.1 pq.2.2.2
    have tr := sx r hxr pr.2.2.1 pr.2.2.2
    have split : ∀ t ∈ upK (m + 1), t ∈ upK m ∨ (t.2 = m + 2 ∧ ∃ j ∈ joinM (upK m) (angsOf m) (m + 2), t.1 = lfOf (at_ (angsOf m) j.1) (at_ (angsOf m) j.2)) := by
      intro t ht
      rw [upK_succ] at ht
      unfold plOf at ht
      rw [List.mem_append] at ht
      rcases ht with ht | ht
      · exact .inl ht
      · rw [List.mem_map] at ht
        obtain ⟨j, hj, rfl⟩ := ht
        exact .inr ⟨rfl, j, hj, rfl⟩
    rcases split q hq with hq' | ⟨tq', j, hj, ej⟩ <;> rcases split r hr with hr' | ⟨tr', i, hi, ei⟩
    · exact upK_one m (by omega) x q r hq' hr' hxq hxr
    · have := (upK_per m (by omega) q hq').1; omega
    · have := (upK_per m (by omega) r hr').1; omega
    · have hJ := joinM_Joined (upK m) (angsOf m) (m + 2)
      have hA := angsOf_Asc (m := m) (by omega)
      have l1 := hJ.lt j hj
      have l2 := hJ.lt i hi
      rw [ej] at hxq ⊢
      rw [ei] at hxr ⊢
      have hh : j.1 = i.1 ∨ j.1 = i.2 ∨ j.2 = i.1 ∨ j.2 = i.2 := by
        rcases (inP_iff _ _).1 hxq with e1 | e1 <;> rcases (inP_iff _ _).1 hxr with e2 | e2
        · exact .inl (hA.inj (by omega) (by omega) (e1.trans e2.symm))
        · exact .inr (.inl (hA.inj (by omega) (by omega) (e1.trans e2.symm)))
        · exact .inr (.inr (.inl (hA.inj (by omega) (by omega) (e1.trans e2.symm))))
        · exact .inr (.inr (.inr (hA.inj (by omega) (by omega) (e1.trans e2.symm))))
      rw [hJ.one hj hi hh]

/-- The pair of an angle among those of a list; its code. -/
def findP (x : Int × Int) : List (Lf4 × Nat) → Lf4
  | [] => (0, 0, 0, 0)
  | q :: l => if inP x q.1 then q.1 else findP x l
theorem findP_spec (x : Int × Int) : ∀ l : List (Lf4 × Nat), (findP x l = (0, 0, 0, 0) ∧ ∀ q ∈ l, inP x q.1 = false) ∨ ∃ q ∈ l, inP x q.1 = true ∧ findP x l = q.1
  | [] => .inl ⟨rfl, by simp⟩
  | q :: l => by
    cases h : inP x q.1
    · have e : findP x (q :: l) = findP x l := by simp [findP, h]
      rw [e]
      rcases findP_spec x l with ⟨h1, h2⟩ | ⟨r, h1, h2⟩
      · refine .inl ⟨h1, fun r hr => ?_⟩
        rw [List.mem_cons] at hr
        rcases hr with rfl | hr
        · exact h
        · exact h2 r hr
      · exact .inr ⟨r, List.mem_cons_of_mem _ h1, h2⟩
    · exact .inr ⟨q, List.mem_cons_self .., h, by simp [findP, h]⟩
def poC (n d : Int) : Int := if isAng n d then (if 2 ≤ shortP d then 0 else 2) else 1
def poP (n d : Int) : Lf4 := if isAng n d then (if 2 ≤ shortP d then findP (n, d) (upK (shortP d - 1)) else (0, 0, 0, 0)) else (0, 0, 0, 0)
theorem po_cases (n d : Int) : (isAng n d = false ∧ poC n d = 1 ∧ poP n d = (0, 0, 0, 0)) ∨ (isAng n d = true ∧ shortP d < 2 ∧ poC n d = 2 ∧ poP n d = (0, 0, 0, 0)) ∨ (isAng n d = true ∧ 2 ≤ shortP d ∧ poC n d = 0 ∧ poP n d = findP (n, d) (upK (shortP d - 1))) := by
  unfold poC poP
  cases isAng n d
  · simp
  · by_cases h : 2 ≤ shortP d
    · simp [h]
    · simp [h]; omega

theorem zeroBool (w : World) : (zeroValue 4).run Try.prog w = .ok (.bool false) w := by kernel_rfl
theorem cell_grown {W W' : World} {b : Nat} (hg : W.grownBy W' (some b)) {es : Array MapEntry} {c : Nat} (h : W.heap[b]? = some (.map es c)) {p : Addr} {v : Value} (hc : W.cell? p = some v) : W'.cell? p = some v := by
  by_cases e : p.block = b
  · unfold World.cell? at hc
    rw [e, h] at hc
    simp at hc
  · have hlt : p.block < W.heap.size := by
      rcases Nat.lt_or_ge p.block W.heap.size with h1 | h1
      · exact h1
      · simp [World.cell?, Array.getElem?_eq_none h1] at hc
    exact (World.cell?_of_block (hg.block p.block hlt (fun h => e (Option.some.inj h)))).trans hc
theorem belowG {W W1 : World} (hb : Below W.heap.size W W1) : W.grownBy W1 none := ⟨hb.os, hb.tape, hb.output, hb.size, fun i hi _ => hb.block i hi⟩

theorem cellG {W W' : World} {row : Option Nat} (hg : W.grownBy W' row) {b o : Nat} {v : Value} (hlt : b < W.heap.size) (hne : some b ≠ row) (hc : W.cell? ⟨b, o, none⟩ = some v) : W'.cell? ⟨b, o, none⟩ = some v :=
  (World.cell?_of_block (hg.block b hlt hne)).trans hc
theorem AngRow.carry {W W' : World} {B : Nat} {Aa : Option Addr} {l : List (Int × Int)} (h : AngRow W B Aa l) (hc : ∀ (p : Addr) v, p.block < B → W.cell? p = some v → W'.cell? p = some v) : AngRow W' B Aa l := by
  intro hl
  obtain ⟨b, off, e, hb, hx⟩ := h hl
  exact ⟨b, off, e, hb, fun i n d hi => ⟨hc _ _ hb (hx i n d hi).1, hc _ _ hb (hx i n d hi).2⟩⟩

/-- What holds between two rounds of the joining: M: what is joined; b, J: the blocks of the maps of pairs and of joined angles. -/
structure JoinI (w : World) (b J : Nat) (L : List (Lf4 × Nat)) (A : List (Int × Int)) (N : Nat) (Aa : Option Addr) (M : List (Nat × Nat)) (W : World) : Prop where
  gr : w.grownBy W (some b)
  mp : W.ownsMap Try.prog 52 (plainElem Try.prog 2) b (plOf L A N M).length (pD (plOf L A N M))
  mj : W.ownsMap Try.prog 25 (plainElem Try.prog 4) J M.length (jD A (upOf M))
  row : AngRow W J Aa A
  lo : w.heap.size ≤ J
  hb : b < w.heap.size
theorem JoinI.turn {w W W1 : World} {b J N : Nat} {L : List (Lf4 × Nat)} {A : List (Int × Int)} {Aa : Option Addr} {M : List (Nat × Nat)} {row : Option Nat} (h : JoinI w b J L A N Aa M W) (hg : W.grownBy W1 row) (hr : ∀ r, row = some r → J < r) : JoinI w b J L A N Aa M W1 := by
  have h1 := h.lo
  have h2 := h.hb
  have h3 := h.mj.lt
  refine ⟨h.gr.andThen hg (fun j hj => .inl (by have := hr j hj; omega)), h.mp.kept hg (fun e => by have := hr b e.symm; omega), h.mj.kept hg (fun e => by have := hr J e.symm; omega), h.row.carry (fun p v hp hc => ?_), h1, h2⟩
  exact (World.cell?_of_block (hg.block p.block (by omega) (fun e => by have := hr _ e.symm; omega))).trans hc
theorem JoinI.next {w W W1 : World} {b J N : Nat} {L : List (Lf4 × Nat)} {A : List (Int × Int)} {Aa : Option Addr} {M : List (Nat × Nat)} (h : JoinI w b J L A N Aa M W) (hb : Below W.heap.size W W1) : JoinI w b J L A N Aa M W1 :=
  h.turn (belowG hb) (fun r e => by cases e)
theorem JoinI.put {w W W1 W2 : World} {b J N i k : Nat} {L : List (Lf4 × Nat)} {A : List (Int × Int)} {Aa : Option Addr} {M : List (Nat × Nat)} (h : JoinI w b J L A N Aa M W)
    (m1 : W1.ownsMap Try.prog 52 (plainElem Try.prog 2) b ((plOf L A N M).length + 1) ((pD (plOf L A N M)).put (kp (lfOf (at_ A i) (at_ A k))) (.lit (.int .i64 (N : Int))))) (g1 : W.grownBy W1 (some b))
    (m2 : W2.ownsMap Try.prog 25 (plainElem Try.prog 4) J (M.length + 1) ((jD A (upOf M)).put (kl (at_ A k)) (.lit (.bool true)))) (g2 : W1.grownBy W2 (some J)) : JoinI w b J L A N Aa (M ++ [(i, k)]) W2 := by
  have h1 := h.lo
  have h2 := h.hb
  have h3 := h.mj.lt
  have hs := g1.size
  obtain ⟨es, clock, hbm, _⟩ := h.mp
  refine ⟨(h.gr.andThen g1 (fun j hj => .inr hj)).andThen g2 (fun j hj => .inl (by cases hj; exact h1)), ?_, ?_, ?_, h1, h2⟩
  · have := m1.kept g2 (fun e => by have := Option.some.inj e; omega)
    rw [plOf_snoc, pD_snoc, List.length_append]
    exact this
  · rw [upOf_snoc, jD_snoc, List.length_append]
    exact m2
  · refine h.row.carry (fun p v hp hc => ?_)
    have c1 := cell_grown g1 hbm hc
    exact (World.cell?_of_block (g2.block p.block (by omega) (fun e => by have := Option.some.inj e; omega))).trans c1

/-- The boxes of a round: the lower angle, the upper one, their pair. -/
structure Bx (W : World) (B7 B9 : Nat) (n d m c : Int) : Prop where
  z : B9 + 1 < W.heap.size
  z7 : B7 < B9
  a0 : W.cell? ⟨B7, 0, none⟩ = some (.int .i64 n)
  a1 : W.cell? ⟨B7, 1, none⟩ = some (.int .i64 d)
  b0 : W.cell? ⟨B9, 0, none⟩ = some (.int .i64 m)
  b1 : W.cell? ⟨B9, 1, none⟩ = some (.int .i64 c)
  c0 : W.cell? ⟨B9 + 1, 0, none⟩ = some (.int .i64 n)
  c1 : W.cell? ⟨B9 + 1, 1, none⟩ = some (.int .i64 d)
  c2 : W.cell? ⟨B9 + 1, 2, none⟩ = some (.int .i64 m)
  c3 : W.cell? ⟨B9 + 1, 3, none⟩ = some (.int .i64 c)
theorem Bx.turn {W W1 : World} {B7 B9 : Nat} {n d m c : Int} {row : Option Nat} (h : Bx W B7 B9 n d m c) (hg : W.grownBy W1 row) (hr : ∀ r, row = some r → r ≠ B7 ∧ r ≠ B9 ∧ r ≠ B9 + 1) : Bx W1 B7 B9 n d m c := by
  obtain ⟨z, z7, a0, a1, b0, b1, c0, c1, c2, c3⟩ := h
  have n7 : some B7 ≠ row := fun e => (hr B7 e.symm).1 rfl
  have n9 : some B9 ≠ row := fun e => (hr B9 e.symm).2.1 rfl
  have n10 : some (B9 + 1) ≠ row := fun e => (hr (B9 + 1) e.symm).2.2 rfl
  exact ⟨Nat.lt_of_lt_of_le z hg.size, z7, cellG hg (by omega) n7 a0, cellG hg (by omega) n7 a1, cellG hg (by omega) n9 b0, cellG hg (by omega) n9 b1, cellG hg z n10 c0, cellG hg z n10 c1, cellG hg z n10 c2, cellG hg z n10 c3⟩
theorem Bx.next {W W1 : World} {B7 B9 : Nat} {n d m c : Int} (h : Bx W B7 B9 n d m c) (hb : Below W.heap.size W W1) : Bx W1 B7 B9 n d m c := h.turn (belowG hb) (fun r e => by cases e)

set_option maxRecDepth 100000 in
set_option maxHeartbeats 1000000 in
theorem implJoin (N : Nat) (b : Nat) (L : List (Lf4 × Nat)) (w : World) (h1 : 2 ≤ N) (h8 : N ≤ 8) (hL : allP L) (hlen : L.length ≤ 100000)
    (hm : w.ownsMap Try.prog 52 (plainElem Try.prog 2) b L.length (pD L)) :
    Calls Try.prog 97 #[.int .i64 N, .map (some b)] w fun e w' => e = .returned (.tuple #[]) ∧ w'.ownsMap Try.prog 52 (plainElem Try.prog 2) b (plOf L (angF N (2 ^ N - 1 : Nat) (2 ^ N - 1)) N (joinM L (angF N (2 ^ N - 1 : Nat) (2 ^ N - 1)) N)).length (pD (plOf L (angF N (2 ^ N - 1 : Nat) (2 ^ N - 1)) N (joinM L (angF N (2 ^ N - 1 : Nat) (2 ^ N - 1)) N))) ∧ w.grownBy w' (some b) := by
  have hmm := @run_makeMap Try.prog
  have HA := Lib.hid (implAoP N w (by omega) h8)
  have hp := pow_le8 h8
  have hq : 4 ≤ 2 ^ N := by
    obtain ⟨m, rfl⟩ : ∃ m, N = m + 2 := ⟨N - 2, by omega⟩
    have := pow_ge1 m
    rw [Nat.pow_succ, Nat.pow_succ]; omega
  have HAsc := Lib.hid (angF_Asc (N := N) (D := 2 ^ N - 1) (by omega) (by omega))
  have hAl := angF_len N (2 ^ N - 1 : Nat) (2 ^ N - 1)
  generalize angF N (2 ^ N - 1 : Nat) (2 ^ N - 1) = A at *
  have hA300 : A.length ≤ 255 := by omega
  clear hp hq hAl
  obtain ⟨len, hl⟩ : ∃ len, A.length = len := ⟨_, rfl⟩
  rw [hl] at hA300 HA
  have HLen := Lib.hid hl
  have HM := Lib.hid hm
  have HLP := Lib.hid hL
  clear hl hm hL
  go_enter Try.func97, Try.ntmps97
  go_wp2
  go_step3
  go_wp2_with fail
  refine HA.out.mono ?_
  rintro e w1 ⟨Aa, cap, hcap, rfl, hown, hb1⟩
  have start : JoinI w b (w1.heap.size) L A N Aa [] (w1.alloc (.map #[] 0)) := by
    have h0 : b < w.heap.size := HM.out.lt
    have m1 : (w1.alloc (.map #[] 0)).ownsMap Try.prog 52 (plainElem Try.prog 2) b (plOf L A N []).length (pD (plOf L A N [])) := by
      have e : plOf L A N [] = L := by simp [plOf]
      rw [e]
      exact (HM.out.kept (belowG hb1) (by simp)).alloc _
    refine ⟨(belowG (belowAlloc hb1 _)).but _, m1, World.ownsMap_made _ _ _ _, hown.row.below (belowAlloc (Below.refl _ _) _), ?_, h0⟩
    exact hb1.size
  have HS := Lib.hid start
  have hz := hb1.size
  clear hown hb1 start
  obtain ⟨J, hJ⟩ : ∃ J, w1.heap.size = J := ⟨_, rfl⟩
  rw [hJ] at HS
  go_wp2_with fail
  clear hJ
  clear hmm
  go_step3
  go_wp2_with fail
  go_loopg [17] len (fun g s17 wr => ∃ (k : Nat) (M : List (Nat × Nat)), k + g = len ∧ s17 = .int .i64 k ∧ M.length ≤ k ∧ Hid (Joined A.length k M) ∧ Hid (allM L A N (A.length - k) k M = joinM L A N) ∧ Hid (JoinI w b J L A N Aa M wr))
  case atStart => exact ⟨0, [], by omega, rfl, Nat.le_refl _, Lib.hid (Joined.nil _), Lib.hid rfl, HS⟩
  case round =>
    obtain ⟨k, M, hkg, rfl, hMk, HJ, HE, HI⟩ := hrel
    cases gk with
    | zero =>
      obtain rfl : k = len := by omega
      have hM : M = joinM L A N := by
        have := HE.out
        rw [show A.length - k = 0 by have := HLen.out; omega] at this
        exact this
      subst hM
      go_wp2
      rw [Exit.noGoto_normal]
      go_end0
      exact ⟨rfl, HI.out.mp, HI.out.gr⟩
    | succ g =>
      have hlt : k < len := by omega
      have hkl : k < A.length := by have := HLen.out; omega
      have hne : A ≠ [] := by intro h; rw [h] at hkl; simp at hkl
      obtain ⟨gA, off, rfl, hgb, hcells⟩ := HI.out.row hne
      obtain ⟨x0, x1⟩ := hcells k (at_ A k).1 (at_ A k).2 (at_some hkl)
      have HCl := Lib.hid hcells
      have HK := Lib.hid (angKey (at_ A k).1 (at_ A k).2 (red_wf (ang_red (HAsc.out.is k _ (at_some hkl)).1)).1 (red_wf (ang_red (HAsc.out.is k _ (at_some hkl)).1)).2)
      have HC := Lib.hid (jD_at HAsc.out (U := upOf M) (fun j hj => by
        unfold upOf at hj
        rw [List.mem_map] at hj
        obtain ⟨m, hm, rfl⟩ := hj
        exact (HJ.out.lt m hm).2.1) hkl)
      have HMJ := Lib.hid HI.out.mj
      have hJlt := HI.out.mj.lt
      clear hcells hne
      obtain ⟨⟨n, d⟩, hnd⟩ : ∃ p, at_ A k = p := ⟨_, rfl⟩
      rw [hnd] at x0 x1 HK HC
      have HND := Lib.hid hnd
      clear hnd
      dsimp only at x0 x1 HK HC
      cases hc : (upOf M).contains k
      all_goals
        rw [hc] at HC
        have HCC := Lib.hid hc
        clear hc
        go_wp2_with fail
        go_step3
        go_wp2_with (at_lookup; refine wpList_lookup_own_bool _ rfl _ _ 113 rfl 25 4 angLaw Try.underlying113 Try.underlying4 (zeroBool _) J M.length _ rfl (HMJ.out.alloc _) _ _ rfl HK.out _ HC.out ?_)
      · have HI1 := Lib.hid (HI.out.next (belowAlloc (Below.refl _ _) (.cells #[.int .i64 n, .int .i64 d] 25)))
        have z7 : wr.heap.size < (wr.alloc (.cells #[.int .i64 n, .int .i64 d] 25)).heap.size := by simp
        have c70 : (wr.alloc (.cells #[.int .i64 n, .int .i64 d] 25)).cell? ⟨wr.heap.size, 0, none⟩ = some (.int .i64 n) := by simp [go_sem]
        have c71 : (wr.alloc (.cells #[.int .i64 n, .int .i64 d] 25)).cell? ⟨wr.heap.size, 1, none⟩ = some (.int .i64 d) := by simp [go_sem]
        have hB7 : J < wr.heap.size := hJlt
        have hrow0 : len - (k + 1) = 0 → rowM L A N M k (A.length - (k + 1)) (k + 1) = M := fun h => by
          have e : A.length - (k + 1) = 0 := by have := HLen.out; omega
          rw [e]; rfl
        have HR0 := Lib.hid hrow0
        clear hrow0 HMJ HI x0 x1 HK HC
        go_frame
        go_step3
        go_wp2_with fail
        · have hz0 : len - (k + 1) = 0 := by omega
          rw [hz0]
          go_loopg [30] 0 (fun g2 s30 wx => g2 = 0 ∧ s30 = .int .i64 0 ∧ Hid (JoinI w b J L A N (some ⟨gA, off, none⟩) M wx))
          case atStart => exact ⟨rfl, rfl, HI1⟩
          case round =>
            obtain ⟨rfl, rfl, HI2⟩ := hrel
            go_wp2
            rw [Exit.noGoto_normal]
            go_wp2
            have hce : cap = k + 1 := by omega
            rw [← hce]
            go_roundg g
            case measure => omega
            case rel => exact ⟨k + 1, M, by omega, by go_num, by omega, Lib.hid HJ.out.mono, Lib.hid (by rw [← HE.out, allM_row hkl HCC.out, HR0.out hz0]), HI2⟩
        · generalize wr.alloc (.cells #[.int .i64 n, .int .i64 d] 25) = wa at *
          generalize wr.heap.size = B7 at *
          go_loopg [30] (len - (k + 1)) (fun g2 s30 wx => ∃ j : Nat, j + g2 = len - (k + 1) ∧ s30 = .int .i64 j ∧ Hid (rowM L A N M k (A.length - (k + 1 + j)) (k + 1 + j) = rowM L A N M k (A.length - (k + 1)) (k + 1)) ∧ Hid (JoinI w b J L A N (some ⟨gA, off, none⟩) M wx) ∧ B7 < wx.heap.size ∧ wx.cell? ⟨B7, 0, none⟩ = some (.int .i64 n) ∧ wx.cell? ⟨B7, 1, none⟩ = some (.int .i64 d))
          case atStart => exact ⟨0, by omega, rfl, Lib.hid rfl, HI1, z7, c70, c71⟩
          case round =>
            clear HI1 z7 c70 c71
            obtain ⟨j, hjg, rfl, HR, HI, z7, c70, c71⟩ := hrel
            cases gk with
            | zero =>
              have hjl : j = len - (k + 1) := by omega
              go_wp2
              rw [Exit.noGoto_normal]
              go_wp2
              go_roundg g
              case measure => omega
              case rel => exact ⟨k + 1, M, by omega, by go_num, by omega, Lib.hid HJ.out.mono, Lib.hid (by
                rw [← HE.out, allM_row hkl HCC.out, ← HR.out]
                have e : A.length - (k + 1 + j) = 0 := by have := HLen.out; omega
                rw [e]; rfl), HI⟩
            | succ g2 =>
              have hq : k + 1 + j < len := by omega
              have hql : k + 1 + j < A.length := by have := HLen.out; omega
              obtain ⟨q, hqe⟩ : ∃ q, k + 1 + j = q := ⟨_, rfl⟩
              rw [hqe] at hq hql HR
              obtain ⟨⟨m, c⟩, hmc⟩ : ∃ p, at_ A q = p := ⟨_, rfl⟩
              have HMC := Lib.hid hmc
              obtain ⟨y0, y1⟩ : wr.cell? ⟨gA, off + (k + 1) * 2 + j * 2, none⟩ = some (.int .i64 m) ∧ wr.cell? ⟨gA, off + (k + 1) * 2 + j * 2 + 1, none⟩ = some (.int .i64 c) := by
                obtain ⟨g', off', e', _, hx⟩ := HI.out.row (by intro h; rw [h] at hql; simp at hql)
                obtain ⟨rfl, rfl⟩ : gA = g' ∧ off = off' := by simpa using e'
                have := hx q m c (by rw [at_some hql, hmc])
                rw [show off + (k + 1) * 2 + j * 2 = off + q * 2 by omega]
                exact this
              have HK := Lib.hid (angKey m c (by have := (red_wf (ang_red (HAsc.out.is q _ (at_some hql)).1)).1; rw [hmc] at this; exact this) (by have := (red_wf (ang_red (HAsc.out.is q _ (at_some hql)).1)).2; rw [hmc] at this; exact this))
              have HC := Lib.hid (jD_at HAsc.out (U := upOf M) (fun j hj => by
                unfold upOf at hj
                rw [List.mem_map] at hj
                obtain ⟨m, hm, rfl⟩ := hj
                exact (HJ.out.lt m hm).2.1) hql)
              rw [hmc] at HC
              have HMJ := Lib.hid HI.out.mj
              have HMP := Lib.hid HI.out.mp
              clear hmc
              cases hc : (upOf M).contains q
              all_goals
                rw [hc] at HC
                have HCD := Lib.hid hc
                clear hc
                go_wp2_with (first
                  | (at_lookup; refine wpList_lookup_own_bool _ rfl _ _ 113 rfl 25 4 angLaw Try.underlying113 Try.underlying4 (zeroBool _) J M.length _ rfl (HMJ.out.alloc _) _ _ rfl HK.out _ HC.out ?_)
                  | (at_range; refine wpList_range_own _ rfl _ 86 rfl 52 2 rpLaw Try.underlying86 _ b (plOf L A N M).length _ rfl ((HMP.out.alloc _).alloc _) ?_; intro w0 hrg0 hg0 hs0))
              · go_frame
                have e1 : ((wr.alloc (.cells #[.int .i64 m, .int .i64 c] 25)).alloc (.cells #[.int .i64 n, .int .i64 d, .int .i64 m, .int .i64 c] 52)).heap.size = wr.heap.size + 1 + 1 := by simp
                rw [e1] at hrg0 hs0 ⊢
                have BX0 : Bx ((wr.alloc (.cells #[.int .i64 m, .int .i64 c] 25)).alloc (.cells #[.int .i64 n, .int .i64 d, .int .i64 m, .int .i64 c] 52)) B7 wr.heap.size n d m c := by
                  have up : Below wr.heap.size wr ((wr.alloc (.cells #[.int .i64 m, .int .i64 c] 25)).alloc (.cells #[.int .i64 n, .int .i64 d, .int .i64 m, .int .i64 c] 52)) := belowAlloc (belowAlloc (Below.refl _ _) _) _
                  exact ⟨by simp, z7, cellThru up z7 c70, cellThru up z7 c71, by simp [go_sem], by simp [go_sem], by simp [go_sem], by simp [go_sem], by simp [go_sem], by simp [go_sem]⟩
                have BX := Lib.hid (BX0.turn hg0 (fun r e => by cases e))
                have HI0 := Lib.hid (((HI.out.next (belowAlloc (Below.refl _ _) (.cells #[.int .i64 m, .int .i64 c] 25))).next (belowAlloc (Below.refl _ _) (.cells #[.int .i64 n, .int .i64 d, .int .i64 m, .int .i64 c] 52))).turn hg0 (fun r e => by cases e))
                have HRG := Lib.hid hrg0
                have hB9 : B7 < wr.heap.size := z7
                have HAP := Lib.hid (allP_plOf (N := N) HLP.out HAsc.out HJ.out)
                clear hrg0 hg0 hs0 BX0 e1 z7 c70 c71 y0 y1 HMJ HMP HI HK HC
                generalize wr.heap.size = B9 at *
                have HP : Hid (lfOf (at_ A k) (at_ A q) = (n, d, m, c)) := Lib.hid (by rw [HND.out, HMC.out]; rfl)
                have HOK : Hid (okP (n, d, m, c) = true) := Lib.hid (by rw [← HP.out]; exact HAsc.out.ok (by omega) hql)
                go_loopg [42] (Maps.size (pD (plOf L A N M))) (fun g3 s42 wy => ∃ left : Lit → Bool, Hid (wy.ranges Try.prog 52 (plainElem Try.prog 2) b (B9 + 1 + 1) (plOf L A N M).length (pD (plOf L A N M)) left g3) ∧ Hid (∀ x ∈ plOf L A N M, left (kp x.1) = false → crossP (n, d, m, c) x.1 = false) ∧ Hid (JoinI w b J L A N (some ⟨gA, off, none⟩) M wy) ∧ Hid (Bx wy B7 B9 n d m c))
                case atStart => exact ⟨_, HRG, Lib.hid (fun x hx hf => by rw [pD_has.2 ⟨x, hx, rfl⟩] at hf; cases hf), HI0, BX⟩
                case round =>
                  clear HRG HI0 BX
                  obtain ⟨left, HRG, HNo, HI, BX⟩ := hrel
                  have hrg := HRG.out
                  obtain ⟨zz, z79, a0, a1, b0, b1, c0, c1, c2, c3⟩ := BX.out
                  have HKP := Lib.hid (rpKey (n, d, m, c) (ok_wf HOK.out))
                  have HKA := Lib.hid (angKey m c (ok_wf HOK.out).2.2.1 (ok_wf HOK.out).2.2.2)
                  have HWN : Hid ((Lit.int .i64 (N : Int)).wf = true) := Lib.hid (i64_wf (by omega) (by omega))
                  have HLm : Hid ((plOf L A N M).length < maxLen ∧ M.length < maxLen) := Lib.hid (by unfold plOf maxLen; simp only [List.length_append, List.length_map]; omega)
                  have HbJ : Hid (some J ≠ some b) := Lib.hid (fun e => by have := Option.some.inj e; have := HI.out.lo; have := HI.out.hb; omega)
                  dsimp only at HKP
                  go_wp2_with (first
                    | (at_next; refine wpList_next_pairs _ rfl _ rfl b (B9 + 1 + 1) (plOf L A N M).length (plOf L A N M) HAP.out left _ rfl hrg ?_ ?_; intro hl0; rotate_left; intro x c5 w5 cnt5 hx hlx hat hrg5 hlt5 hg5 hs5 hen;
                        have BX5 := Lib.hid (BX.out.turn hg5 (fun r e => by have := Option.some.inj e; omega)); have z5 : B9 + 1 < w5.heap.size := BX5.out.z; have d0 := BX5.out.c0; have d1 := BX5.out.c1; have d2 := BX5.out.c2; have d3 := BX5.out.c3; have HX5 := Lib.hid (And.intro hx (And.intro hlx (And.intro hrg5 hg5))); clear hx hlx hat hrg5 hg5; rotate_left)
                    | (at_mapUpdate; refine wpList_mapUpdate_own _ rfl _ _ _ 86 rfl 52 2 rpLaw Try.underlying86 _ b (plOf L A N M).length _ rfl HI.out.mp HLm.out.1 _ _ _ rfl rfl HKP.out _ [] (plainElem_int Try.underlying2 HWN.out) ?_; intro w6 hm6 hg6;
                        have q0 := cellG hg6 (show B9 < _ by omega) (fun e => by have := Option.some.inj e; have := HI.out.lo; have := HI.out.hb; omega) b0; have q1 := cellG hg6 (show B9 < _ by omega) (fun e => by have := Option.some.inj e; have := HI.out.lo; have := HI.out.hb; omega) b1; have HM6 := Lib.hid (And.intro hm6 hg6); clear hm6 hg6)
                    | (at_mapUpdate; refine wpList_mapUpdate_own _ rfl _ _ _ 113 rfl 25 4 angLaw Try.underlying113 _ J M.length _ rfl (HI.out.mj.kept HM6.out.2 HbJ.out) HLm.out.2 _ _ _ rfl rfl HKA.out _ [] (plainElem_bool Try.underlying4 true) ?_; intro w7 hm7 hg7; have HM7 := Lib.hid (And.intro hm7 hg7); clear hm7 hg7))
                  · go_frame
                    rw [Exit.noGoto_exit]
                    go_wp2
                    go_roundg g
                    case measure => omega
                    case rel =>
                      have hcross : crossAny (n, d, m, c) (plOf L A N M) = false := crossAny_none (fun x hx => HNo.out x hx (hl0 _))
                      have hfit : fits L A N M k q = true := by unfold fits; rw [HCD.out, HP.out, hcross]; rfl
                      refine ⟨k + 1, M ++ [(k, q)], by omega, by go_num, by simp; omega, Lib.hid (HJ.out.snoc (by omega) hql HCC.out HCD.out), Lib.hid ?_, Lib.hid ?_⟩
                      · rw [← HE.out, allM_row hkl HCC.out, ← HR.out, rowM_yes hql hfit]
                      · refine HI.out.put (i := k) (k := q) ?_ HM6.out.2 ?_ HM7.out.2
                        · rw [HP.out]; exact HM6.out.1
                        · rw [HMC.out]; exact HM7.out.1
                  · have HI8 := Lib.hid ((HI.out.turn HX5.out.2.2.2 (fun r e => by have := Option.some.inj e; omega)).next (belowAlloc (Below.refl _ _) (.cells #[.int .i64 x.1.1, .int .i64 x.1.2.1, .int .i64 x.1.2.2.1, .int .i64 x.1.2.2.2] 52)))
                    have BX8 := Lib.hid (BX5.out.next (belowAlloc (Below.refl _ _) (.cells #[.int .i64 x.1.1, .int .i64 x.1.2.1, .int .i64 x.1.2.2.1, .int .i64 x.1.2.2.2] 52)))
                    have HG8 := Lib.hid (HX5.out.2.2.1.alloc (.cells #[.int .i64 x.1.1, .int .i64 x.1.2.1, .int .i64 x.1.2.2.1, .int .i64 x.1.2.2.2] 52))
                    refine (implPC n d m c x.1.1 x.1.2.1 x.1.2.2.1 x.1.2.2.2 _ HOK.out (HAP.out x HX5.out.1)).mono ?_
                    rintro e w8 ⟨rfl, hb8⟩
                    have HI9 := Lib.hid (HI8.out.next hb8)
                    have BX9 := Lib.hid (BX8.out.next hb8)
                    have HG9 := Lib.hid (HG8.out.kept (belowG hb8) (by simp) (by simp))
                    obtain ⟨cx, hcx⟩ : ∃ cx, crossB n d m c x.1.1 x.1.2.1 x.1.2.2.1 x.1.2.2.2 = cx := ⟨_, rfl⟩
                    rw [hcx]
                    have HCX : Hid (crossP (n, d, m, c) x.1 = cx) := Lib.hid hcx
                    clear hcx HI8 BX8 HG8 hb8 BX5
                    cases cx
                    · go_wp2
                      go_roundg cnt5
                      case measure => exact hlt5
                      case rel =>
                        refine ⟨fun z => left z && !z.sameKey (kp x.1), HG9, Lib.hid (fun y hy hf => ?_), HI9, BX9⟩
                        cases hly : left (kp y.1)
                        · exact HNo.out y hy hly
                        · have hf' : (left (kp y.1) && !(kp y.1).sameKey (kp x.1)) = false := hf
                          rw [hly] at hf'
                          have e2 : kp y.1 = kp x.1 := (WideAt.sameKey_iff (kp_key _)).1 (by simpa using hf')
                          rw [kp_inj (ok_wf (HAP.out y hy)) (ok_wf (HAP.out x HX5.out.1)) e2]
                          exact HCX.out
                    · go_wp2
                      go_roundg g2
                      case measure => omega
                      case rel => exact ⟨j + 1, by omega, by go_num, Lib.hid (by
                        rw [← HR.out, show k + 1 + (j + 1) = q + 1 by omega]
                        exact (rowM_next hql (by unfold fits; rw [HP.out, crossAny_mem HX5.out.1 HCX.out, Bool.not_true, Bool.and_false])).symm), HI9, by have := BX9.out.z; have := BX9.out.z7; omega, BX9.out.a0, BX9.out.a1⟩
              · go_roundg g2
                case measure => omega
                case rel => exact ⟨j + 1, by omega, by go_num, Lib.hid (by
                  rw [← HR.out, show k + 1 + (j + 1) = q + 1 by omega]
                  exact (rowM_next hql (by unfold fits; rw [HCD.out]; rfl)).symm), Lib.hid (HI.out.next (belowAlloc (Below.refl _ _) _)), by simp; omega, cellThru (belowAlloc (Below.refl _ _) _) z7 c70, cellThru (belowAlloc (Below.refl _ _) _) z7 c71⟩
      · go_frame
        rw [Exit.noGoto_exit]
        go_wp2
        go_roundg g
        case measure => omega
        case rel => exact ⟨k + 1, M, by omega, by go_num, by omega, Lib.hid HJ.out.mono, Lib.hid ((allM_skip hkl HCC.out).symm.trans HE.out), Lib.hid (HI.out.next (belowAlloc (Below.refl _ _) _))⟩

set_option maxRecDepth 100000 in
set_option maxHeartbeats 1000000 in
theorem implUpTo (n : Nat) (w : World) (h1 : 1 ≤ n) (h8 : n ≤ 8) :
    Calls Try.prog 80 #[.int .i64 n] w fun e w' => e = .returned (.map (some w.heap.size)) ∧ w'.ownsMap Try.prog 52 (plainElem Try.prog 2) w.heap.size (upK (n - 1)).length (pD (upK (n - 1))) ∧ Below w.heap.size w w' := by
  have hmm := @run_makeMap Try.prog
  go_enter Try.func80, Try.ntmps80
  go_wp2_with fail
  have HS : Hid ((w.alloc (.map #[] 0)).ownsMap Try.prog 52 (plainElem Try.prog 2) w.heap.size (upK 0).length (pD (upK 0))) := Lib.hid (World.ownsMap_made _ _ _ _)
  have HB : Hid (Below w.heap.size w (w.alloc (.map #[] 0))) := Lib.hid (belowAlloc (Below.refl _ _) _)
  have z0 : w.heap.size < (w.alloc (.map #[] 0)).heap.size := by simp
  clear hmm
  go_loopg [4] (n - 1) (fun g s4 wr => ∃ m : Nat, m + g = n - 1 ∧ s4 = .int .i64 ((m + 2 : Nat) : Int) ∧ Hid (wr.ownsMap Try.prog 52 (plainElem Try.prog 2) w.heap.size (upK m).length (pD (upK m))) ∧ Hid (Below w.heap.size w wr))
  case atStart => exact ⟨0, by omega, rfl, HS, HB⟩
  case round =>
    clear HS HB z0
    obtain ⟨m, hmg, rfl, HM, HB⟩ := hrel
    cases gk with
    | zero =>
      obtain rfl : m = n - 1 := by omega
      have n1 : ¬ (((n - 1 + 2 : Nat) : Int) ≤ (n : Int)) := by omega
      have n2 : (n : Int) < ((n - 1 + 2 : Nat) : Int) := by omega
      generalize ((n - 1 + 2 : Nat) : Int) = I at *
      go_wp2
      go_ret
      exact ⟨rfl, HM.out, HB.out⟩
    | succ g =>
      have HC := Lib.hid (implJoin (m + 2) w.heap.size (upK m) wr (by omega) (by omega) (upK_ok m (by omega)) (by have := upK_len m (by omega); omega) HM.out)
      have n1 : ((m + 2 : Nat) : Int) ≤ (n : Int) := by omega
      have e3 : ((m + 2 : Nat) : Int) + 1 = ((m + 1 + 2 : Nat) : Int) := by omega
      have b1 : ((m + 2 : Nat) : Int) ≤ 8 := by omega
      have b2 : 0 ≤ ((m + 2 : Nat) : Int) := by omega
      generalize ((m + 2 : Nat) : Int) = I at *
      go_wp2_with fail
      refine HC.out.mono ?_
      rintro e w1 ⟨rfl, hm1, hg1⟩
      have HM1 := Lib.hid hm1
      have HB1 := Lib.hid (HB.out.grown hg1 HB.out.size (fun j hj => by cases hj; exact Nat.le_refl _))
      clear hm1 hg1
      go_wp2
      go_roundg g
      case measure => omega
      case rel => exact ⟨m + 1, by omega, by first | rfl | exact congrArg (Value.int .i64) (by omega), HM1, HB1⟩

set_option maxHeartbeats 1000000 in
theorem implIsPP (n : Int) (w : World) :
    Calls Try.prog 72 #[.int .i64 n] w fun e w' => e = .returned (.bool (decide (2 ≤ n) && decide (n ≤ 8))) ∧ w = w' := by
  by_cases h1 : 2 ≤ n <;> by_cases h2 : n ≤ 8
  all_goals
    go_enter Try.func72, Try.ntmps72
    go_wp2
    go_ret
    exact ⟨by simp [h1, h2], rfl⟩

/-- The code and the period of an angle whose pair is asked. -/
def ppN (n d : Int) : Int := if isAng n d then (if 2 ≤ shortP d then (shortP d : Int) else 0) else 0
set_option maxHeartbeats 1000000 in
theorem implPer (n d : Int) (w : World) :
    Calls Try.prog 76 #[ang n d] w fun e w' => e = .returned (.tuple #[.int .i64 (ppN n d), .int .i64 (poC n d)]) ∧ Below w.heap.size w w' := by
  have HI := Lib.hid (fun w => implIs n d w)
  rcases po_cases n d with ⟨h1, h2, _⟩ | ⟨h1, h2, h3, _⟩ | ⟨h1, h2, h3, _⟩
  · have e1 : ppN n d = 0 := by unfold ppN; simp [h1]
    rw [h2, e1]
    rw [h1] at HI
    clear h1 h2 e1
    go_enter Try.func76, Try.ntmps76
    go_wp2_with fail
    refine (HI.out _).mono ?_
    rintro e w1 ⟨rfl, hb1⟩
    obtain ⟨hc1, hf1⟩ := bcell hb1
    have hz1_0 : w.heap.size < w1.heap.size := by have := hb1.size; first | omega | (simp at this; omega)
    go_wp2
    go_ret2
    refine ⟨rfl, ?_⟩
    (repeat' (first | (with_reducible exact Below.refl _ _) | (with_reducible assumption) | (with_reducible refine belowNext ?_ (by with_reducible assumption)) | (with_reducible refine belowAlloc ?_ _) | (with_reducible refine Below.drew ?_) | (with_reducible refine below_drewN ?_ _) | (with_reducible refine Below.setCell ?_ ?_ _) | go_size | (with_reducible refine sizeOf' ?_) | (with_reducible refine sizeAdd ?_) | (dsimp only; first | (with_reducible refine sizeOf' ?_) | (with_reducible refine sizeAdd ?_))))
  · have e1 : ppN n d = 0 := by unfold ppN; simp [h1]; omega
    rw [h3, e1]
    have HS := Lib.hid (fun w => implShortR n d w (isAng_yes h1).1 (isAng_yes h1).2.1)
    rw [h1] at HI
    generalize shortP d = sp at *
    have t : (decide ((2 : Int) ≤ (sp : Int)) && decide ((sp : Int) ≤ 8)) = false := by simp; omega
    clear h1 h2 h3 e1
    go_enter Try.func76, Try.ntmps76
    go_wp2_with fail
    refine (HI.out _).mono ?_
    rintro e w1 ⟨rfl, hb1⟩
    obtain ⟨hc1, hf1⟩ := bcell hb1
    have hz1_0 : w.heap.size < w1.heap.size := by have := hb1.size; first | omega | (simp at this; omega)
    go_wp2_with fail
    refine (HS.out _).mono ?_
    rintro e w2 ⟨rfl, hb2⟩
    obtain ⟨hc2, hf2⟩ := bcell hb2
    have hz2_0 : w.heap.size < w2.heap.size := by have := hb2.size; first | omega | (simp at this; omega)
    go_wp2_with fail
    refine (implIsPP _ _).mono ?_
    rintro e w3 ⟨rfl, rfl⟩
    rw [t]
    go_wp2
    go_ret2
    refine ⟨rfl, ?_⟩
    (repeat' (first | (with_reducible exact Below.refl _ _) | (with_reducible assumption) | (with_reducible refine belowNext ?_ (by with_reducible assumption)) | (with_reducible refine belowAlloc ?_ _) | (with_reducible refine Below.drew ?_) | (with_reducible refine below_drewN ?_ _) | (with_reducible refine Below.setCell ?_ ?_ _) | go_size | (with_reducible refine sizeOf' ?_) | (with_reducible refine sizeAdd ?_) | (dsimp only; first | (with_reducible refine sizeOf' ?_) | (with_reducible refine sizeAdd ?_))))
  · have e1 : ppN n d = (shortP d : Int) := by unfold ppN; simp [h1, h2]
    rw [h3, e1]
    have HS := Lib.hid (fun w => implShortR n d w (isAng_yes h1).1 (isAng_yes h1).2.1)
    have hle := shortP_le d
    rw [h1] at HI
    generalize shortP d = sp at *
    have t : (decide ((2 : Int) ≤ (sp : Int)) && decide ((sp : Int) ≤ 8)) = true := by simp; omega
    clear h1 h2 h3 e1
    go_enter Try.func76, Try.ntmps76
    go_wp2_with fail
    refine (HI.out _).mono ?_
    rintro e w1 ⟨rfl, hb1⟩
    obtain ⟨hc1, hf1⟩ := bcell hb1
    have hz1_0 : w.heap.size < w1.heap.size := by have := hb1.size; first | omega | (simp at this; omega)
    go_wp2_with fail
    refine (HS.out _).mono ?_
    rintro e w2 ⟨rfl, hb2⟩
    obtain ⟨hc2, hf2⟩ := bcell hb2
    have hz2_0 : w.heap.size < w2.heap.size := by have := hb2.size; first | omega | (simp at this; omega)
    go_wp2_with fail
    refine (implIsPP _ _).mono ?_
    rintro e w3 ⟨rfl, rfl⟩
    rw [t]
    go_wp2
    go_ret2
    refine ⟨rfl, ?_⟩
    (repeat' (first | (with_reducible exact Below.refl _ _) | (with_reducible assumption) | (with_reducible refine belowNext ?_ (by with_reducible assumption)) | (with_reducible refine belowAlloc ?_ _) | (with_reducible refine Below.drew ?_) | (with_reducible refine below_drewN ?_ _) | (with_reducible refine Below.setCell ?_ ?_ _) | go_size | (with_reducible refine sizeOf' ?_) | (with_reducible refine sizeAdd ?_) | (dsimp only; first | (with_reducible refine sizeOf' ?_) | (with_reducible refine sizeAdd ?_))))

theorem Cells4.turn {W W1 : World} {b o : Nat} {n d m c : Int} {row : Option Nat} (h : Cells4 W b o n d m c) (hg : W.grownBy W1 row) (hlt : b < W.heap.size) (hne : some b ≠ row) : Cells4 W1 b o n d m c :=
  ⟨cellG hg hlt hne h.c0, cellG hg hlt hne h.c1, cellG hg hlt hne h.c2, cellG hg hlt hne h.c3⟩
theorem Free4.turn {W W1 : World} {b o : Nat} {row : Option Nat} (h : Free4 W b o) (hg : W.grownBy W1 row) (hlt : b < W.heap.size) (hne : some b ≠ row) : Free4 W1 b o := by
  have e := hg.block b hlt hne
  exact ⟨(World.frozen?_of_block e).trans h.f0, (World.frozen?_of_block e).trans h.f1, (World.frozen?_of_block e).trans h.f2, (World.frozen?_of_block e).trans h.f3⟩

/-- What holds while the pair is looked for: the angle's box, the result's cell, what has been found. -/
structure PoI (w : World) (B6 : Nat) (n d : Int) (v : Lf4) (W : World) : Prop where
  B : Below w.heap.size w W
  z : B6 < W.heap.size
  zz : w.heap.size + 1 < B6
  x0 : W.cell? ⟨w.heap.size, 0, none⟩ = some (.int .i64 n)
  x1 : W.cell? ⟨w.heap.size, 1, none⟩ = some (.int .i64 d)
  r : Cells4 W (w.heap.size + 1) 0 0 0 0 0
  rf : Free4 W (w.heap.size + 1) 0
  o : Cells4 W B6 0 v.1 v.2.1 v.2.2.1 v.2.2.2
  fo : Free4 W B6 0
theorem PoI.turn {w W W1 : World} {B6 : Nat} {n d : Int} {v : Lf4} {row : Option Nat} (h : PoI w B6 n d v W) (hg : W.grownBy W1 row) (hr : ∀ r, row = some r → B6 < r) : PoI w B6 n d v W1 := by
  obtain ⟨hB, z, zz, x0, x1, r, rf, o, fo⟩ := h
  have ne : ∀ b, b ≤ B6 → some b ≠ row := fun b hb e => by have := hr b e.symm; omega
  exact ⟨hB.grown hg hB.size (fun j hj => by have := hr j hj; omega), Nat.lt_of_lt_of_le z hg.size, zz, cellG hg (by omega) (ne _ (by omega)) x0, cellG hg (by omega) (ne _ (by omega)) x1,
    r.turn hg (by omega) (ne _ (by omega)), rf.turn hg (by omega) (ne _ (by omega)), o.turn hg z (ne _ (by omega)), fo.turn hg z (ne _ (by omega))⟩
theorem PoI.next {w W W1 : World} {B6 : Nat} {n d : Int} {v : Lf4} (h : PoI w B6 n d v W) (hb : Below W.heap.size W W1) : PoI w B6 n d v W1 := h.turn (belowG hb) (fun r e => by cases e)
theorem PoI.put {w W : World} {B6 : Nat} {n d : Int} {v : Lf4} (h : PoI w B6 n d v W) (u : Lf4) : PoI w B6 n d u (set4 W B6 0 (.int .i64 u.1) (.int .i64 u.2.1) (.int .i64 u.2.2.1) (.int .i64 u.2.2.2)) := by
  obtain ⟨hB, z, zz, x0, x1, r, rf, o, fo⟩ := h
  have oth : ∀ (b i : Nat) (t : Value), b ≠ B6 → W.cell? ⟨b, i, none⟩ = some t → (set4 W B6 0 (.int .i64 u.1) (.int .i64 u.2.1) (.int .i64 u.2.2.1) (.int .i64 u.2.2.2)).cell? ⟨b, i, none⟩ = some t := by
    intro b i t hb ht
    unfold set4
    rw [World.cell?_setCell_other _ _ _ _ (fun e => hb (by injection e with h; exact h.symm)), World.cell?_setCell_other _ _ _ _ (fun e => hb (by injection e with h; exact h.symm)), World.cell?_setCell_other _ _ _ _ (fun e => hb (by injection e with h; exact h.symm)), World.cell?_setCell_other _ _ _ _ (fun e => hb (by injection e with h; exact h.symm))]
    exact ht
  obtain ⟨t0, t1, t2, t3⟩ := set4_got (x0 := .int .i64 u.1) (x1 := .int .i64 u.2.1) (x2 := .int .i64 u.2.2.1) (x3 := .int .i64 u.2.2.2) o.c0 o.c1 o.c2 o.c3
  refine ⟨(((hB.setCell (by dsimp only; omega) _).setCell (by dsimp only; omega) _).setCell (by dsimp only; omega) _).setCell (by dsimp only; omega) _, by simpa [set4] using z, zz, oth _ _ _ (by omega) x0, oth _ _ _ (by omega) x1,
    ⟨oth _ _ _ (by omega) r.c0, oth _ _ _ (by omega) r.c1, oth _ _ _ (by omega) r.c2, oth _ _ _ (by omega) r.c3⟩, ?_, ⟨t0, t1, t2, t3⟩, ?_⟩
  · exact ⟨by simpa [set4] using rf.f0, by simpa [set4] using rf.f1, by simpa [set4] using rf.f2, by simpa [set4] using rf.f3⟩
  · exact ⟨by simpa [set4] using fo.f0, by simpa [set4] using fo.f1, by simpa [set4] using fo.f2, by simpa [set4] using fo.f3⟩

theorem set4G (W : World) (b o : Nat) (x0 x1 x2 x3 : Value) : W.grownBy (set4 W b o x0 x1 x2 x3) (some b) := by
  refine ⟨rfl, rfl, rfl, by simp [set4, World.setCell], fun i _ hne => ?_⟩
  have h : i ≠ b := fun e => hne (by rw [e])
  unfold set4
  rw [Below.heap_setCell _ _ _ _ h, Below.heap_setCell _ _ _ _ h, Below.heap_setCell _ _ _ _ h, Below.heap_setCell _ _ _ _ h]
abbrev res5 (v : Lf4) (c : Int) : Value := .tuple #[leafV v.1 v.2.1 v.2.2.1 v.2.2.2, .int .i64 c]
set_option maxRecDepth 100000 in
set_option maxHeartbeats 1000000 in
theorem implPairOf (n d : Int) (w : World) :
    Calls Try.prog 45 #[ang n d] w fun e w' => e = .returned (res5 (poP n d) (poC n d)) ∧ Below w.heap.size w w' := by
  have HP := Lib.hid (fun w => implPer n d w)
  by_cases hc : poC n d = 0
  · have hcase : isAng n d = true ∧ 2 ≤ shortP d ∧ poP n d = findP (n, d) (upK (shortP d - 1)) := by
      rcases po_cases n d with ⟨h1, h2, h3⟩ | ⟨h1, h2, h3, h4⟩ | ⟨h1, h2, h3, h4⟩
      · omega
      · omega
      · exact ⟨h1, h2, h4⟩
    obtain ⟨h1, h2, h3⟩ := hcase
    have e1 : ppN n d = (shortP d : Int) := by unfold ppN; simp [h1, h2]
    have hle := shortP_le d
    rw [hc] at HP ⊢
    rw [e1] at HP
    have HX := Lib.hid h3
    generalize poP n d = V at *
    generalize shortP d = sp at *
    have HU := Lib.hid (fun w => implUpTo sp w (by omega) hle)
    have HOk := Lib.hid (upK_ok (sp - 1) (by omega))
    have HOne := Lib.hid (upK_one (sp - 1) (by omega) (n, d))
    have HF := Lib.hid (findP_spec (n, d) (upK (sp - 1)))
    generalize upK (sp - 1) = l at *
    clear hc h1 h2 h3 e1
    go_enter Try.func45, Try.ntmps45
    go_wp2_with fail
    refine (HP.out _).mono ?_
    rintro e w1 ⟨rfl, hb1⟩
    obtain ⟨hc1, hf1⟩ := bcell hb1
    have hz1_0 : w.heap.size < w1.heap.size := by have := hb1.size; first | omega | (simp at this; omega)
    have hz1_1 : w.heap.size + 1 < w1.heap.size := by have := hb1.size; first | omega | (simp at this; omega)
    have q1_1_0 : w1.cell? ⟨w.heap.size + 1, 0, none⟩ = some (.int .i64 0) := cellThru hb1 (by simp <;> omega) (by simp [go_sem])
    have q1_1_1 : w1.cell? ⟨w.heap.size + 1, 1, none⟩ = some (.int .i64 0) := cellThru hb1 (by simp <;> omega) (by simp [go_sem])
    have q1_1_2 : w1.cell? ⟨w.heap.size + 1, 2, none⟩ = some (.int .i64 0) := cellThru hb1 (by simp <;> omega) (by simp [go_sem])
    have q1_1_3 : w1.cell? ⟨w.heap.size + 1, 3, none⟩ = some (.int .i64 0) := cellThru hb1 (by simp <;> omega) (by simp [go_sem])
    have j1_1_0 : w1.frozen? ⟨w.heap.size + 1, 0, none⟩ = false := frozThru hb1 (by simp <;> omega) (by simp [go_sem])
    have j1_1_1 : w1.frozen? ⟨w.heap.size + 1, 1, none⟩ = false := frozThru hb1 (by simp <;> omega) (by simp [go_sem])
    have j1_1_2 : w1.frozen? ⟨w.heap.size + 1, 2, none⟩ = false := frozThru hb1 (by simp <;> omega) (by simp [go_sem])
    have j1_1_3 : w1.frozen? ⟨w.heap.size + 1, 3, none⟩ = false := frozThru hb1 (by simp <;> omega) (by simp [go_sem])
    have x0 : w1.cell? ⟨w.heap.size, 0, none⟩ = some (.int .i64 n) := cellThru hb1 (by simp <;> omega) (by simp [go_sem])
    have x1 : w1.cell? ⟨w.heap.size, 1, none⟩ = some (.int .i64 d) := cellThru hb1 (by simp <;> omega) (by simp [go_sem])
    have B1 : Below w.heap.size w w1 := by
      (repeat' (first | (with_reducible exact Below.refl _ _) | (with_reducible assumption) | (with_reducible refine belowNext ?_ (by with_reducible assumption)) | (with_reducible refine belowAlloc ?_ _) | (with_reducible refine Below.drew ?_) | (with_reducible refine below_drewN ?_ _) | (with_reducible refine Below.setCell ?_ ?_ _) | go_size | (with_reducible refine sizeOf' ?_) | (with_reducible refine sizeAdd ?_) | (dsimp only; first | (with_reducible refine sizeOf' ?_) | (with_reducible refine sizeAdd ?_))))
    have start : PoI w w1.heap.size n d (0, 0, 0, 0) (w1.alloc (.cells #[.int .i64 0, .int .i64 0, .int .i64 0, .int .i64 0] 52)) := by
      have up := belowAlloc (Below.refl _ w1) (.cells #[.int .i64 0, .int .i64 0, .int .i64 0, .int .i64 0] 52)
      refine ⟨belowAlloc B1 _, by simp, hz1_1, cellThru up hz1_0 x0, cellThru up hz1_0 x1, ?_, ?_, ?_, ?_⟩
      · exact ⟨cellThru up hz1_1 q1_1_0, cellThru up hz1_1 q1_1_1, cellThru up hz1_1 q1_1_2, cellThru up hz1_1 q1_1_3⟩
      · exact ⟨frozThru up hz1_1 j1_1_0, frozThru up hz1_1 j1_1_1, frozThru up hz1_1 j1_1_2, frozThru up hz1_1 j1_1_3⟩
      · exact ⟨by simp [go_sem], by simp [go_sem], by simp [go_sem], by simp [go_sem]⟩
      · exact ⟨by simp [go_sem], by simp [go_sem], by simp [go_sem], by simp [go_sem]⟩
    have HS := Lib.hid start
    clear start x0 x1 B1 q1_1_0 q1_1_1 q1_1_2 q1_1_3 j1_1_0 j1_1_1 j1_1_2 j1_1_3 hc1 hf1 hb1 hz1_0 hz1_1
    go_wp2_with fail
    obtain ⟨B6, hB6⟩ : ∃ B6, w1.heap.size = B6 := ⟨_, rfl⟩
    rw [hB6] at HS
    refine (HU.out _).mono ?_
    rintro e w2 ⟨rfl, hm2, hb2⟩
    have HS2 := Lib.hid (HS.out.next hb2)
    have HM2 := Lib.hid hm2
    clear hm2 hb2 HS
    have eB : (w1.alloc (.cells #[.int .i64 0, .int .i64 0, .int .i64 0, .int .i64 0] 52)).heap.size = B6 + 1 := by simp [hB6]
    rw [eB] at HM2 ⊢
    have hr6 : B6 < w2.heap.size := HS2.out.z
    clear eB
    go_wp2_with (at_range; refine wpList_range_own _ rfl _ 86 rfl 52 2 rpLaw Try.underlying86 _ (B6 + 1) l.length _ rfl HM2.out ?_; intro w0 hrg0 hg0 hs0)
    go_frame
    have HRG := Lib.hid hrg0
    have HS0 := Lib.hid (HS2.out.turn hg0 (fun r e => by cases e))
    clear hrg0 hg0 hs0 HS2 HM2 hB6
    generalize w2.heap.size = r at *
    go_loopg [20] (Maps.size (pD l)) (fun g s20 wr => ∃ (left : Lit → Bool) (v : Lf4), Hid (wr.ranges Try.prog 52 (plainElem Try.prog 2) (B6 + 1) r l.length (pD l) left g) ∧ Hid (∀ y ∈ l, left (kp y.1) = false → inP (n, d) y.1 = true → v = y.1) ∧ Hid (v = (0, 0, 0, 0) ∨ ∃ y ∈ l, inP (n, d) y.1 = true ∧ v = y.1) ∧ Hid (PoI w B6 n d v wr))
    case atStart => exact ⟨_, (0, 0, 0, 0), HRG, Lib.hid (fun y hy hf => by rw [pD_has.2 ⟨y, hy, rfl⟩] at hf; cases hf), Lib.hid (.inl rfl), HS0⟩
    case round =>
      clear HRG HS0
      obtain ⟨left, v, HRG, HNo, HOr, HS⟩ := hrel
      have hrg := HRG.out
      obtain ⟨hB, z, zz, x0, x1, r, rf, o, fo⟩ := HS.out
      have y0 : w.heap.size < wr.heap.size := by omega
      have y1 : w.heap.size + 1 < wr.heap.size := by omega
      obtain ⟨r0, r1, r2, r3⟩ := r
      obtain ⟨f0, f1, f2, f3⟩ := rf
      obtain ⟨o0, o1, o2, o3⟩ := o
      go_wp2_with (at_next; refine wpList_next_pairs _ rfl _ rfl (B6 + 1) _ l.length l HOk.out left _ rfl hrg ?_ ?_; intro hl0; rotate_left; intro x c5 w5 cnt5 hx hlx hat hrg5 hlt5 hg5 hs5 hen; have HS5 := Lib.hid (HS.out.turn hg5 (fun r e => by have := Option.some.inj e; omega)); have z5 : B6 < w5.heap.size := HS5.out.z; have d0 := HS5.out.x0; have d1 := HS5.out.x1; have d2 := HS5.out.o.c0; have d3 := HS5.out.o.c1; have d4 := HS5.out.o.c2; have d5 := HS5.out.o.c3; have e0 := HS5.out.fo.f0; have e1 := HS5.out.fo.f1; have e2 := HS5.out.fo.f2; have e3 := HS5.out.fo.f3; have y5 : w.heap.size < w5.heap.size := Nat.lt_trans (Nat.lt_trans (Nat.lt_succ_self _) HS5.out.zz) HS5.out.z; have HX5 := Lib.hid (And.intro hx (And.intro hlx (And.intro hrg5 hlt5))); clear hx hlx hat hrg5 hg5 hlt5; obtain ⟨t1, ht1⟩ : ∃ t, eqA x.1.1 x.1.2.1 n d = t := ⟨_, rfl⟩; obtain ⟨t2, ht2⟩ : ∃ t, eqA x.1.2.2.1 x.1.2.2.2 n d = t := ⟨_, rfl⟩; have Q1 := fun W => eqlAng x.1.1 x.1.2.1 n d W; have Q2 := fun W => eqlAng x.1.2.2.1 x.1.2.2.2 n d W; rw [ht1] at Q1; rw [ht2] at Q2; have HIn : Hid (inP (n, d) x.1 = (t1 || t2)) := Lib.hid (by unfold inP; rw [ht1, ht2]); clear ht1 ht2; cases t1 <;> cases t2)
      · go_roundg cnt5
        case measure => exact HX5.out.2.2.2
        case rel =>
          refine ⟨fun z => left z && !z.sameKey (kp x.1), v, Lib.hid (HX5.out.2.2.1.alloc _), Lib.hid (fun y hy hf hin => ?_), HOr, Lib.hid (HS5.out.next (belowAlloc (Below.refl _ _) _))⟩
          cases hly : left (kp y.1)
          · exact HNo.out y hy hly hin
          · have hf' : (left (kp y.1) && !(kp y.1).sameKey (kp x.1)) = false := hf
            rw [hly] at hf'
            have e2 : kp y.1 = kp x.1 := (WideAt.sameKey_iff (kp_key _)).1 (by simpa using hf')
            have e3 := kp_inj (ok_wf (HOk.out y hy)) (ok_wf (HOk.out x HX5.out.1)) e2
            rw [e3, HIn.out] at hin
            cases hin
      · go_roundg cnt5
        case measure => exact HX5.out.2.2.2
        case rel =>
          refine ⟨fun z => left z && !z.sameKey (kp x.1), x.1, Lib.hid ((HX5.out.2.2.1.kept (set4G w5 B6 0 (.int .i64 x.1.1) (.int .i64 x.1.2.1) (.int .i64 x.1.2.2.1) (.int .i64 x.1.2.2.2)) (fun e => by have := Option.some.inj e; omega) (fun e => by have := Option.some.inj e; omega)).alloc _), Lib.hid (fun y hy hf hin => HOne.out x y HX5.out.1 hy (by rw [HIn.out]; rfl) hin), Lib.hid (.inr ⟨x, HX5.out.1, by rw [HIn.out]; rfl, rfl⟩), Lib.hid ((HS5.out.put x.1).next (belowAlloc (Below.refl _ _) _))⟩
      · go_roundg cnt5
        case measure => exact HX5.out.2.2.2
        case rel =>
          refine ⟨fun z => left z && !z.sameKey (kp x.1), x.1, Lib.hid ((HX5.out.2.2.1.kept (set4G w5 B6 0 (.int .i64 x.1.1) (.int .i64 x.1.2.1) (.int .i64 x.1.2.2.1) (.int .i64 x.1.2.2.2)) (fun e => by have := Option.some.inj e; omega) (fun e => by have := Option.some.inj e; omega)).alloc _), Lib.hid (fun y hy hf hin => HOne.out x y HX5.out.1 hy (by rw [HIn.out]; rfl) hin), Lib.hid (.inr ⟨x, HX5.out.1, by rw [HIn.out]; rfl, rfl⟩), Lib.hid ((HS5.out.put x.1).next (belowAlloc (Below.refl _ _) _))⟩
      · go_roundg cnt5
        case measure => exact HX5.out.2.2.2
        case rel =>
          refine ⟨fun z => left z && !z.sameKey (kp x.1), x.1, Lib.hid ((HX5.out.2.2.1.kept (set4G w5 B6 0 (.int .i64 x.1.1) (.int .i64 x.1.2.1) (.int .i64 x.1.2.2.1) (.int .i64 x.1.2.2.2)) (fun e => by have := Option.some.inj e; omega) (fun e => by have := Option.some.inj e; omega)).alloc _), Lib.hid (fun y hy hf hin => HOne.out x y HX5.out.1 hy (by rw [HIn.out]; rfl) hin), Lib.hid (.inr ⟨x, HX5.out.1, by rw [HIn.out]; rfl, rfl⟩), Lib.hid ((HS5.out.put x.1).next (belowAlloc (Below.refl _ _) _))⟩
      · have hv : v = V := by
          rw [HX.out]
          rcases HF.out with ⟨h1, h2⟩ | ⟨q, hq, h1, h2⟩
          · rw [h1]
            rcases HOr.out with h | ⟨y, hy, hin, _⟩
            · exact h
            · rw [h2 y hy] at hin; cases hin
          · rw [h2]; exact HNo.out q hq (hl0 _) h1
        have r1' : wr.cell? ⟨w.heap.size + 1, 1, none⟩ = some (.int .i64 0) := r1
        have r2' : wr.cell? ⟨w.heap.size + 1, 2, none⟩ = some (.int .i64 0) := r2
        have r3' : wr.cell? ⟨w.heap.size + 1, 3, none⟩ = some (.int .i64 0) := r3
        refine bodyPost_ret (v := res5 v 0) (by simp [results, Try.results45, go_sem, r0, r1', r2', r3']) rfl ⟨by rw [hv], ?_⟩
        have hle1 : w.heap.size ≤ w.heap.size + 1 := Nat.le_succ _
        exact (((hB.setCell hle1 _).setCell hle1 _).setCell hle1 _).setCell hle1 _
  · have hcase : poP n d = (0, 0, 0, 0) := by
      rcases po_cases n d with ⟨h1, h2, h3⟩ | ⟨h1, h2, h3, h4⟩ | ⟨h1, h2, h3, h4⟩
      · exact h3
      · exact h4
      · exact absurd h3 hc
    rw [hcase]
    have hcb : (poC n d == 0) = false := beq_eq_false_iff_ne.2 hc
    generalize poC n d = c at *
    generalize ppN n d = N at *
    clear hcase
    go_enter Try.func45, Try.ntmps45
    go_wp2_with fail
    refine (HP.out _).mono ?_
    rintro e w1 ⟨rfl, hb1⟩
    obtain ⟨hc1, hf1⟩ := bcell hb1
    have hz1_0 : w.heap.size < w1.heap.size := by have := hb1.size; first | omega | (simp at this; omega)
    have hz1_1 : w.heap.size + 1 < w1.heap.size := by have := hb1.size; first | omega | (simp at this; omega)
    have q1_1_0 : w1.cell? ⟨w.heap.size + 1, 0, none⟩ = some (.int .i64 0) := cellThru hb1 (by simp <;> omega) (by simp [go_sem])
    have q1_1_1 : w1.cell? ⟨w.heap.size + 1, 1, none⟩ = some (.int .i64 0) := cellThru hb1 (by simp <;> omega) (by simp [go_sem])
    have q1_1_2 : w1.cell? ⟨w.heap.size + 1, 2, none⟩ = some (.int .i64 0) := cellThru hb1 (by simp <;> omega) (by simp [go_sem])
    have q1_1_3 : w1.cell? ⟨w.heap.size + 1, 3, none⟩ = some (.int .i64 0) := cellThru hb1 (by simp <;> omega) (by simp [go_sem])
    go_wp2
    refine bodyPost_ret (v := res5 (0, 0, 0, 0) c) (by simp [results, Try.results45, go_sem, q1_1_0, q1_1_1, q1_1_2, q1_1_3]) rfl ⟨rfl, ?_⟩
    (repeat' (first | (with_reducible exact Below.refl _ _) | (with_reducible assumption) | (with_reducible refine belowNext ?_ (by with_reducible assumption)) | (with_reducible refine belowAlloc ?_ _) | (with_reducible refine Below.drew ?_) | (with_reducible refine below_drewN ?_ _) | (with_reducible refine Below.setCell ?_ ?_ _) | go_size | (with_reducible refine sizeOf' ?_) | (with_reducible refine sizeAdd ?_) | (dsimp only; first | (with_reducible refine sizeOf' ?_) | (with_reducible refine sizeAdd ?_))))
end Go.Proofs.Ytnciiodgkanpjaa

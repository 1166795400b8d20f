/-
  Plain mathematics: the ray pairs of the periods up to one; each angle is in one of them. No program in sight.
-/
import Derived.Test.YtabddjfgbhnldaaR8
namespace Go.Proofs.Ytabddjfgbhnldaa
open Go.RowKit

theorem pow_lt8 {k : Nat} (h : k ≤ 8) : 2 ^ k ≤ 256 := Nat.le_trans (Nat.pow_le_pow_right (by omega) h) (by decide)
/-- The angles of the period m + 2. -/
def angsOf (m : Nat) : List (Int × Int) := angF (m + 2) (2 ^ (m + 2) - 1 : Nat) (2 ^ (m + 2) - 1)
theorem angsOf_Asc {m : Nat} (h : m ≤ 6) : Asc (m + 2) (angsOf m) := by
  have h2 := pow_lt8 (k := m + 2) (by omega)
  have h3 : 4 ≤ 2 ^ (m + 2) := by rw [Nat.pow_succ, Nat.pow_succ]; have := Nat.one_le_two_pow (n := m); omega
  exact angF_Asc (by omega) (by omega)
theorem angsOf_len {m : Nat} (h : m ≤ 6) : (angsOf m).length ≤ 255 := by
  have h2 := pow_lt8 (k := m + 2) (by omega)
  have := angF_len (m + 2) (2 ^ (m + 2) - 1 : Nat) (2 ^ (m + 2) - 1)
  unfold angsOf; omega
theorem upK_succ (m : Nat) : upK (m + 1) = plOf (upK m) (angsOf m) (m + 2) (joinM (upK m) (angsOf m) (m + 2)) := rfl
theorem rowM_len (L : List (Lf4 × Nat)) (A : List (Int × Int)) (N : Nat) (M : List (Nat × Nat)) (i : Nat) : ∀ f k, (rowM L A N M i f k).length ≤ M.length + 1
  | 0, _ => by simp [rowM]
  | f + 1, k => by
    simp only [rowM]
    split
    · simp
    · exact rowM_len L A N M i f (k + 1)
theorem allM_len (L : List (Lf4 × Nat)) (A : List (Int × Int)) (N : Nat) : ∀ f i M, (allM L A N f i M).length ≤ M.length + f
  | 0, _, _ => by simp [allM]
  | f + 1, i, M => by
    simp only [allM]
    refine Nat.le_trans (allM_len L A N f (i + 1) _) ?_
    split
    · omega
    · have := rowM_len L A N M i (A.length - (i + 1)) (i + 1); omega
theorem upK_len : ∀ m, m ≤ 7 → (upK m).length ≤ m * 255
  | 0, _ => by simp [upK]
  | m + 1, h => by
    have ih := upK_len m (by omega)
    have h1 := allM_len (upK m) (angsOf m) (m + 2) (angsOf m).length 0 []
    have h2 := angsOf_len (m := m) (by omega)
    rw [upK_succ]
    unfold plOf joinM
    simp only [List.length_append, List.length_map]
    simp at h1
    omega
theorem upK_ok : ∀ m, m ≤ 7 → allP (upK m)
  | 0, _ => by intro q hq; simp [upK] at hq
  | m + 1, h => by
    rw [upK_succ]
    exact allP_plOf (upK_ok m (by omega)) (angsOf_Asc (by omega)) (joinM_Joined _ _ _)

/-- An angle is one of a pair. -/
def inP (x : Int × Int) (p : Lf4) : Bool := eqA p.1 p.2.1 x.1 x.2 || eqA p.2.2.1 p.2.2.2 x.1 x.2
theorem inP_iff (x : Int × Int) (p : Lf4) : inP x p = true ↔ (p.1, p.2.1) = x ∨ (p.2.2.1, p.2.2.2) = x := by
  unfold inP
  rw [Bool.or_eq_true, eqA_iff3, eqA_iff3]
  constructor
  · rintro (⟨a, b⟩ | ⟨a, b⟩)
    · exact .inl (Prod.ext a b)
    · exact .inr (Prod.ext a b)
  · rintro (h | h)
    · exact .inl ⟨congrArg Prod.fst h, congrArg Prod.snd h⟩
    · exact .inr ⟨congrArg Prod.fst h, congrArg Prod.snd h⟩
/-- The period of each pair's angles is the one that is told with it. -/
theorem upK_per : ∀ m, m ≤ 7 → ∀ q ∈ upK m, q.2 ≤ m + 1 ∧ 2 ≤ q.2 ∧ shortP q.1.2.1 = q.2 ∧ shortP q.1.2.2.2 = q.2
  | 0, _ => by intro q hq; simp [upK] at hq
  | m + 1, h => by
    intro q hq
    rw [upK_succ] at hq
    unfold plOf at hq
    rw [List.mem_append] at hq
    rcases hq with hq | hq
    · have := upK_per m (by omega) q hq
      exact ⟨by omega, this.2⟩
    · rw [List.mem_map] at hq
      obtain ⟨j, hj, rfl⟩ := hq
      have hl := (joinM_Joined (upK m) (angsOf m) (m + 2)).lt j hj
      have hA := angsOf_Asc (m := m) (by omega)
      exact ⟨by dsimp only; omega, by dsimp only; omega, (hA.is j.1 _ (at_some (by omega))).2, (hA.is j.2 _ (at_some (by omega))).2⟩
/-- Each angle is in one pair at most. -/
theorem upK_one : ∀ m, m ≤ 7 → ∀ (x : Int × Int) (q r : Lf4 × Nat), q ∈ upK m → r ∈ upK m → inP x q.1 = true → inP x r.1 = true → q.1 = r.1
  | 0, _ => by intro x q r hq; simp [upK] at hq
  | m + 1, h => by
    intro x q r hq hr hxq hxr
    have pq := upK_per (m + 1) h q hq
    have pr := upK_per (m + 1) h r hr
    have sx : ∀ t : Lf4 × Nat, inP x t.1 = true → shortP t.1.2.1 = t.2 → shortP t.1.2.2.2 = t.2 → shortP x.2 = t.2 := by
      intro t ht e1 e2
      rcases (inP_iff x t.1).1 ht with e | e
      · rw [← e]; exact e1
      · rw [← e]; exact e2
    have tq := sx q hxq pq.2.2.1 pq.2.2.2
    have tr := sx r hxr pr.2.2.1 pr.2.2.2
    have split : ∀ t ∈ upK (m + 1), t ∈ upK m ∨ (t.2 = m + 2 ∧ ∃ j ∈ joinM (upK m) (angsOf m) (m + 2), t.1 = lfOf (at_ (angsOf m) j.1) (at_ (angsOf m) j.2)) := by
      intro t ht
      rw [upK_succ] at ht
      unfold plOf at ht
      rw [List.mem_append] at ht
      rcases ht with ht | ht
      · exact .inl ht
      · rw [List.mem_map] at ht
        obtain ⟨j, hj, rfl⟩ := ht
        exact .inr ⟨rfl, j, hj, rfl⟩
    rcases split q hq with hq' | ⟨tq', j, hj, ej⟩ <;> rcases split r hr with hr' | ⟨tr', i, hi, ei⟩
    · exact upK_one m (by omega) x q r hq' hr' hxq hxr
    · have := (upK_per m (by omega) q hq').1; omega
    · have := (upK_per m (by omega) r hr').1; omega
    · have hJ := joinM_Joined (upK m) (angsOf m) (m + 2)
      have hA := angsOf_Asc (m := m) (by omega)
      have l1 := hJ.lt j hj
      have l2 := hJ.lt i hi
      rw [ej] at hxq ⊢
      rw [ei] at hxr ⊢
      have hh : j.1 = i.1 ∨ j.1 = i.2 ∨ j.2 = i.1 ∨ j.2 = i.2 := by
        rcases (inP_iff _ _).1 hxq with e1 | e1 <;> rcases (inP_iff _ _).1 hxr with e2 | e2
        · exact .inl (hA.inj (by omega) (by omega) (e1.trans e2.symm))
        · exact .inr (.inl (hA.inj (by omega) (by omega) (e1.trans e2.symm)))
        · exact .inr (.inr (.inl (hA.inj (by omega) (by omega) (e1.trans e2.symm))))
        · exact .inr (.inr (.inr (hA.inj (by omega) (by omega) (e1.trans e2.symm))))
      rw [hJ.one hj hi hh]

/-- The pair of an angle among those of a list; its code. -/
def findP (x : Int × Int) : List (Lf4 × Nat) → Lf4
  | [] => (0, 0, 0, 0)
  | q :: l => if inP x q.1 then q.1 else findP x l
theorem findP_spec (x : Int × Int) : ∀ l : List (Lf4 × Nat), (findP x l = (0, 0, 0, 0) ∧ ∀ q ∈ l, inP x q.1 = false) ∨ ∃ q ∈ l, inP x q.1 = true ∧ findP x l = q.1
  | [] => .inl ⟨rfl, by simp⟩
  | q :: l => by
    cases h : inP x q.1
    · have e : findP x (q :: l) = findP x l := by simp [findP, h]
      rw [e]
      rcases findP_spec x l with ⟨h1, h2⟩ | ⟨r, h1, h2⟩
      · refine .inl ⟨h1, fun r hr => ?_⟩
        rw [List.mem_cons] at hr
        rcases hr with rfl | hr
        · exact h
        · exact h2 r hr
      · exact .inr ⟨r, List.mem_cons_of_mem _ h1, h2⟩
    · exact .inr ⟨q, List.mem_cons_self .., h, by simp [findP, h]⟩
def poC (n d : Int) : Int := if isAng n d then (if 2 ≤ shortP d then 0 else 2) else 1
def poP (n d : Int) : Lf4 := if isAng n d then (if 2 ≤ shortP d then findP (n, d) (upK (shortP d - 1)) else (0, 0, 0, 0)) else (0, 0, 0, 0)
theorem po_cases (n d : Int) : (isAng n d = false ∧ poC n d = 1 ∧ poP n d = (0, 0, 0, 0)) ∨ (isAng n d = true ∧ shortP d < 2 ∧ poC n d = 2 ∧ poP n d = (0, 0, 0, 0)) ∨ (isAng n d = true ∧ 2 ≤ shortP d ∧ poC n d = 0 ∧ poP n d = findP (n, d) (upK (shortP d - 1))) := by
  unfold poC poP
  cases isAng n d
  · simp
  · by_cases h : 2 ≤ shortP d
    · simp [h]
    · simp [h]; omega
end Go.Proofs.Ytabddjfgbhnldaa

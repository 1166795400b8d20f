/-
  Plain mathematics: the images of a leaf are leaves; which condition for a minor leaf fails.
-/
import Derived.Test.YtlmgpecfbpcgaaaM7
import Derived.Test.YtlmgpecfbpcgaaaM2
import Derived.Test.YtlmgpecfbpcgaaaV19
namespace Go.Proofs.Ytlmgpecfbpcgaaa
open Go.RowKit

theorem red_is {n m : Int} (hm : 0 < m) (h : redD n m ≤ 8191) : Red (redN n m, redD n m) := by
  obtain ⟨t1, t2, t3, t4⟩ := redBd n m hm
  refine ⟨t3, h, t1, t2, ?_⟩
  dsimp only
  unfold redN redD
  exact gcdI_div _ _ hm
theorem imF_pre : ∀ (f : Nat) (x : Lf4) (acc r : List Lf4), imF f x acc = some r → ∃ t, r = acc ++ t
  | 0, x, acc, r, h => by
    simp only [imF] at h
    split at h
    · injection h with h; exact ⟨[], by simp [h]⟩
    · cases h
  | f + 1, x, acc, r, h => by
    simp only [imF] at h
    split at h
    · injection h with h; exact ⟨[], by simp [h]⟩
    · split at h
      · injection h with h; exact ⟨[x], h.symm⟩
      · obtain ⟨t, ht⟩ := imF_pre f _ _ r h
        exact ⟨x :: t, by rw [ht]; simp⟩
theorem im_head {x : Lf4} {r : List Lf4} (h : imF 64 x [] = some r) : r[0]? = some x := by
  rw [imF_start] at h
  split at h
  · injection h with h; subst h; rfl
  · obtain ⟨t, ht⟩ := imF_pre _ _ _ _ h
    rw [ht]; rfl
theorem imL_lf {x : Lf4} (h : isLfX x = true) (hd : diaX x = false) : isLfX (imL x) = true := by
  have hr := redX_of h
  have r := imL_red hr
  have p1 := dbl_red hr.1
  have p2 := dbl_red hr.2
  obtain ⟨a, b, c, d⟩ := x
  have hn := ne_of_red p1 p2 hd
  unfold isLfX isLf
  rw [Bool.and_eq_true, Bool.and_eq_true]
  refine ⟨⟨angOf r.1, angOf r.2⟩, ?_⟩
  show ltA (lfA (redN (2 * a) b) (redD (2 * a) b) (redN (2 * c) d) (redD (2 * c) d)) (lfB (redN (2 * a) b) (redD (2 * a) b) (redN (2 * c) d) (redD (2 * c) d)) (lfC (redN (2 * a) b) (redD (2 * a) b) (redN (2 * c) d) (redD (2 * c) d)) (lfD (redN (2 * a) b) (redD (2 * a) b) (redN (2 * c) d) (redD (2 * c) d)) = true
  clear r p1 p2 hr h hd
  generalize redN (2 * a) b = x at *
  generalize redD (2 * a) b = y at *
  generalize redN (2 * c) d = x' at *
  generalize redD (2 * c) d = y' at *
  cases hq : ltA x y x' y'
  · obtain ⟨d1, d2, d3, d4⟩ := lf_no hq
    rw [d1, d2, d3, d4]
    unfold ltA at *
    have := of_decide_eq_false hq
    exact decide_eq_true (by omega)
  · obtain ⟨d1, d2, d3, d4⟩ := lf_yes hq
    rw [d1, d2, d3, d4]
    exact hq
theorem allLf_app {l : List Lf4} {x : Lf4} (h : allLf l = true) (hx : isLfX x = true) : allLf (l ++ [x]) = true := by
  unfold allLf at *
  rw [List.all_append, h]
  simp
  exact hx
theorem imF_lf : ∀ (f : Nat) (x : Lf4) (acc r : List Lf4), isLfX x = true → allLf acc = true → imF f x acc = some r → allLf r = true
  | 0, x, acc, r, hx, ha, h => by
    simp only [imF] at h
    split at h
    · injection h with h; rw [← h]; exact ha
    · cases h
  | f + 1, x, acc, r, hx, ha, h => by
    simp only [imF] at h
    split at h
    · injection h with h; rw [← h]; exact ha
    · split at h
      · injection h with h; rw [← h]; exact allLf_app ha hx
      · rename_i hd
        exact imF_lf f _ _ r (imL_lf hx (by simpa using hd)) (allLf_app ha hx) h

/-- One of a list is so. -/
def AnyL (l : List Lf4) (P : Lf4 → Prop) : Prop := ∃ (k : Nat) (y : Lf4), l[k]? = some y ∧ P y
/-- Which condition behind the first one fails: r the images, J the majors. -/
def FailIs (x : Lf4) (r J : List Lf4) (v : Int) : Prop :=
  (¬ NoCross r ∧ v = 2) ∨ (NoCross r ∧ AnyL r (fun y => lngB y x = true) ∧ v = 3) ∨ (NoCross r ∧ ¬ AnyL r (fun y => lngB y x = true) ∧ AnyL r (fun y => CrossOne y J) ∧ v = 4) ∨
    (NoCross r ∧ ¬ AnyL r (fun y => lngB y x = true) ∧ ¬ AnyL r (fun y => CrossOne y J) ∧ v = 0)
theorem fail_one {x : Lf4} {r J : List Lf4} {v v' : Int} (h : FailIs x r J v) (h' : FailIs x r J v') : v = v' := by
  rcases h with ⟨a, rfl⟩ | ⟨a, b, rfl⟩ | ⟨a, b, c, rfl⟩ | ⟨a, b, c, rfl⟩ <;> rcases h' with ⟨a', rfl⟩ | ⟨a', b', rfl⟩ | ⟨a', b', c', rfl⟩ | ⟨a', b', c', rfl⟩ <;> first | rfl | contradiction
def wayXX (x : Lf4) : List Lf4 := wayX x.1 x.2.1 x.2.2.1 x.2.2.2
def shortX (x : Lf4) : Bool := shortB x.1 x.2.1 x.2.2.1 x.2.2.2
def halX (x : Lf4) : Bool := pbHal x.1 x.2.1 x.2.2.1 x.2.2.2
/-- What ConditionThatFails answers. -/
def CfIs (x : Lf4) (v c : Int) : Prop :=
  (isLfX x = false ∧ v = 0 ∧ c = 1) ∨ (isLfX x = true ∧ shortX x = false ∧ v = 1 ∧ c = 0) ∨ (isLfX x = true ∧ shortX x = true ∧ (imF 64 x [] = none ∨ halX x = false) ∧ v = 0 ∧ c = 3) ∨
    (isLfX x = true ∧ shortX x = true ∧ halX x = true ∧ (∃ r, imF 64 x [] = some r ∧ FailIs x r (wayXX x) v) ∧ c = 0)
theorem cf_one {x : Lf4} {v c v' c' : Int} (h : CfIs x v c) (h' : CfIs x v' c') : v = v' ∧ c = c' := by
  rcases h with ⟨a, rfl, rfl⟩ | ⟨a, b, rfl, rfl⟩ | ⟨a, b, d, rfl, rfl⟩ | ⟨a, b, d, ⟨r, e, f⟩, rfl⟩ <;> rcases h' with ⟨a', rfl, rfl⟩ | ⟨a', b', rfl, rfl⟩ | ⟨a', b', d', rfl, rfl⟩ | ⟨a', b', d', ⟨r', e', f'⟩, rfl⟩
  all_goals first
    | exact ⟨rfl, rfl⟩
    | (rw [a] at a'; cases a'; done)
    | (rw [b] at b'; cases b'; done)
    | (rcases d with d | d <;> first | (rw [d] at e'; cases e'; done) | (rw [d] at d'; cases d'; done))
    | (rcases d' with d' | d' <;> first | (rw [d'] at e; cases e; done) | (rw [d] at d'; cases d'; done))
    | (rw [e] at e'; injection e' with e'; subst e'; exact ⟨fail_one f f', rfl⟩)
end Go.Proofs.Ytlmgpecfbpcgaaa

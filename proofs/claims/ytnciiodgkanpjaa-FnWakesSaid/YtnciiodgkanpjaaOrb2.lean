/-
  Plain mathematics: the orbit as it is gathered: all different, till one is met again. The map of the places.
-/
import Derived.Test.YtnciiodgkanpjaaW15
import Derived.Maps.Views
namespace Go.Proofs.Ytnciiodgkanpjaa
open Go.RowKit

def apart (p : Int × Int) (k : Nat) : Prop := ∀ i j, i < j → j < k → orb p i ≠ orb p j
theorem eqA_iffO (a b : Int × Int) : eqA a.1 a.2 b.1 b.2 = true ↔ a = b := by
  obtain ⟨a1, a2⟩ := a
  obtain ⟨b1, b2⟩ := b
  unfold eqA
  simp
theorem hit_iff (p : Int × Int) (k : Nat) : hit p k = true ↔ pre p < k ∧ orb p k = orb p (pre p) := by
  unfold hit
  rw [Bool.and_eq_true, decide_eq_true_eq, eqA_iffO]
theorem apart_no {p : Int × Int} {k : Nat} (h : apart p k) : ∀ j, j < k → hit p j = false := by
  intro j hj
  rw [Bool.eq_false_iff]
  intro e
  obtain ⟨h1, h2⟩ := (hit_iff p j).1 e
  exact h _ _ h1 hj h2.symm
theorem find_none (p : Int × Int) : ∀ (f j : Nat), (∀ i, j ≤ i → i < j + f → hit p i = false) → findOrb p f j = none
  | 0, _, _ => rfl
  | f + 1, j, h => by
    simp only [findOrb]
    rw [h j (by omega) (by omega)]
    simp only [Bool.false_eq_true, if_false]
    exact find_none p f (j + 1) fun i h1 h2 => h i (by omega) (by omega)
theorem find_some (p : Int × Int) {k : Nat} (hk : hit p k = true) : ∀ (f j : Nat), j ≤ k → k < j + f → (∀ i, j ≤ i → i < k → hit p i = false) → findOrb p f j = some k
  | 0, j, h1, h2, _ => by omega
  | f + 1, j, h1, h2, h => by
    simp only [findOrb]
    by_cases e : j = k
    · subst e; rw [hk]; simp
    · rw [h j (by omega) (by omega)]
      simp only [Bool.false_eq_true, if_false]
      exact find_some p hk f (j + 1) (by omega) (by omega) fun i h3 h4 => h i (by omega) h4
theorem met_again {p : Int × Int} (hp : Red p) {i k : Nat} (hik : i < k) (e : orb p i = orb p k) (ha : apart p k) (hk : k ≤ 64) : i = pre p ∧ findOrb p 65 0 = some k := by
  have h1 := first_repeat hp hik e ha
  refine ⟨h1, find_some p ?_ 65 0 (by omega) (by omega) fun j _ hj => apart_no ha j hj⟩
  rw [hit_iff, ← h1]
  exact ⟨hik, e.symm⟩
theorem apart_next {p : Int × Int} {k : Nat} (ha : apart p k) (hn : ¬ ∃ i, i < k ∧ orb p i = orb p k) : apart p (k + 1) := by
  intro i j hij hj e
  by_cases h : j = k
  · subst h; exact hn ⟨i, hij, e⟩
  · exact ha i j hij (by omega) e
theorem apart_far {p : Int × Int} (ha : apart p 65) : findOrb p 65 0 = none := find_none p 65 0 fun i _ hi => apart_no ha i (by omega)

/-- The key of an angle in a map. -/
def kl (o : Int × Int) : Lit := .string (keyBytes [.int .i64 o.1, .int .i64 o.2])
theorem kl_key (o : Int × Int) : WideAt.IsKeyLit (kl o) := trivial
theorem i64_wf {a : Int} (h0 : -9223372036854775808 ≤ a) (h1 : a ≤ 9223372036854775807) : (Lit.int .i64 a).wf = true := by
  simp only [Lit.wf, IntKind.min, IntKind.max, IntKind.signed, IntKind.bits, Bool.and_eq_true, decide_eq_true_eq]
  first | exact ⟨h0, h1⟩ | (constructor <;> simp <;> omega)

/-- The places of the first k angles. -/
def mapD (p : Int × Int) : Nat → DataW Unit
  | 0 => .map []
  | k + 1 => (mapD p k).put (kl (orb p k)) (.lit (.int .i64 (k : Int)))
theorem mapD_is (p : Int × Int) : ∀ k, Maps.IsMap (mapD p k)
  | 0 => Maps.isMap_empty
  | k + 1 => (mapD_is p k).put _ _
theorem mapD_no {p : Int × Int} {o : Int × Int} (hi : ∀ i, kl (orb p i) = kl o → orb p i = o) : ∀ k, (∀ i, i < k → orb p i ≠ o) → Maps.has (mapD p k) (kl o) = false
  | 0, _ => by simp [mapD, Maps.has_eq]
  | k + 1, h => by
    simp only [mapD]
    rw [Maps.has_put_other (fun e => h k (by omega) (hi k e.symm))]
    exact mapD_no hi k fun i hk => h i (by omega)
theorem mapD_yes {p : Int × Int} {o : Int × Int} (hi : ∀ i, kl (orb p i) = kl o → orb p i = o) {i : Nat} (hio : orb p i = o) : ∀ k, i < k → (∀ j, j < k → orb p j = o → j = i) →
    Maps.has (mapD p k) (kl o) = true ∧ ∀ z, (mapD p k).atKey (kl o) z = .lit (.int .i64 (i : Int))
  | 0, h, _ => by omega
  | k + 1, h, hu => by
    simp only [mapD]
    by_cases e : i = k
    · subst e
      rw [hio]
      exact ⟨Maps.has_put_same (mapD_is p i) (kl_key o) _, fun z => Maps.atKey_put_same (mapD_is p i) (kl_key o) _ z⟩
    · have hne : kl o ≠ kl (orb p k) := fun e2 => e (hu k (by omega) (hi k e2.symm)).symm
      obtain ⟨h1, h2⟩ := mapD_yes hi hio k (by omega) fun j hj => hu j (by omega)
      exact ⟨by rw [Maps.has_put_other hne]; exact h1, fun z => by rw [Maps.atKey_put_other hne]; exact h2 z⟩
end Go.Proofs.Ytnciiodgkanpjaa

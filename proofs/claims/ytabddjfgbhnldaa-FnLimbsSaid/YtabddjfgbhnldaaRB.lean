/-
  Plain mathematics: no two ray pairs cross, so a wake has both angles of a pair or none; the parent and the depth of a pair as lists tell them. No program in sight.
  Contracts: the wakes around a pair, as the model gathers them.
  Contracts: the parent and the depth of a pair, as the program tells them.
  Contracts: the parent and the depth of a pair, as the model tells them; the walks of both laws.
  Contracts: the depth of a pair, as the model tells it; the walk of the law.
-/
import Derived.Test.YtabddjfgbhnldaaR20
import Derived.Test.YtabddjfgbhnldaaR31
import Derived.Test.YtabddjfgbhnldaaR33
import Derived.Test.YtabddjfgbhnldaaR34
import Derived.Test.YtabddjfgbhnldaaRQ
namespace Go.Proofs.Ytabddjfgbhnldaa
open Go.RowKit

/-- No two pairs of a list cross. -/
def NoX (l : List (Lf4 × Nat)) : Prop := ∀ q ∈ l, ∀ r ∈ l, crossP q.1 r.1 = false
theorem crossP_sym {p q : Lf4} (hp : okP p = true) (hq : okP q = true) : crossP p q = crossP q p := by
  rw [← crossF_eq hp hq, ← crossF_eq hq hp]
  unfold crossF
  exact Bool.or_comm _ _
theorem crossP_self {p : Lf4} (hp : okP p = true) : crossP p p = false := by
  rw [← crossF_eq hp hp]
  unfold crossF
  simp [ltA_irr]
theorem NoX.snoc {l : List (Lf4 × Nat)} {p : Lf4 × Nat} (h : NoX l) (hok : allP (l ++ [p])) (hc : crossAny p.1 l = false) : NoX (l ++ [p]) := by
  have hn : ∀ q ∈ l, crossP p.1 q.1 = false := fun q hq => by
    cases e : crossP p.1 q.1
    · rfl
    · rw [crossAny_mem hq e] at hc; cases hc
  have hp := hok p (by simp)
  intro q hq r hr
  rw [List.mem_append, List.mem_singleton] at hq hr
  rcases hq with hq | rfl <;> rcases hr with hr | rfl
  · exact h q hq r hr
  · rw [crossP_sym (hok q (by simp [hq])) hp]; exact hn q hq
  · exact hn r hr
  · exact crossP_self hp
theorem rowM_NoX {L : List (Lf4 × Nat)} {A : List (Int × Int)} {N i : Nat} {M : List (Nat × Nat)} (hL : allP L) (hA : Asc N A) (hJ : Joined A.length i M) (hi : (upOf M).contains i = false) (h : NoX (plOf L A N M)) : ∀ f k, i < k → k + f ≤ A.length → NoX (plOf L A N (rowM L A N M i f k))
  | 0, _, _, _ => h
  | f + 1, k, hk, hf => by
    simp only [rowM]
    split
    · next hh =>
      unfold fits at hh
      simp only [Bool.and_eq_true, Bool.not_eq_true'] at hh
      have hp := allP_plOf hL hA (hJ.snoc hk (by omega) hi hh.1)
      rw [plOf_snoc] at hp ⊢
      exact h.snoc hp hh.2
    · exact rowM_NoX hL hA hJ hi h f (k + 1) (by omega) (by omega)
theorem allM_NoX {L : List (Lf4 × Nat)} {A : List (Int × Int)} {N : Nat} (hL : allP L) (hA : Asc N A) : ∀ (f i : Nat) (M : List (Nat × Nat)), Joined A.length i M → i + f = A.length → NoX (plOf L A N M) → NoX (plOf L A N (allM L A N f i M))
  | 0, _, _, _, _, h => h
  | f + 1, i, M, hJ, e, h => by
    simp only [allM]
    split
    · exact allM_NoX hL hA f (i + 1) _ hJ.mono (by omega) h
    · next hc =>
      have hc' : (upOf M).contains i = false := by simpa using hc
      exact allM_NoX hL hA f (i + 1) _ (rowM_Joined hJ hc' _ _ (by omega) (by omega)) (by omega) (rowM_NoX hL hA hJ hc' h _ _ (by omega) (by omega))
/-- No two ray pairs cross. -/
theorem upK_free : ∀ m, m ≤ 7 → NoX (upK m)
  | 0, _ => by intro q hq; simp [upK] at hq
  | m + 1, h => by
    rw [upK_succ]
    refine allM_NoX (upK_ok m (by omega)) (angsOf_Asc (by omega)) _ 0 [] (Joined.nil _) (by omega) ?_
    have e : plOf (upK m) (angsOf m) (m + 2) [] = upK m := by simp [plOf]
    rw [e]
    exact upK_free m (by omega)
/-- A wake has both angles of a pair or none. -/
theorem ins_same {m : Nat} (h : m ≤ 7) {q r : Lf4 × Nat} (hq : q ∈ upK m) (hr : r ∈ upK m) : insX (q.1.1, q.1.2.1) r.1 = insX (q.1.2.2.1, q.1.2.2.2) r.1 := by
  have hc := upK_free m h r hr q hq
  have hl := (isLf_yes (upK_ok m h q hq)).2.2
  have hl2 := ltA_asymm hl
  have same : ∀ x : Int × Int, inP x r.1 = true → inP x q.1 = true → insX (q.1.1, q.1.2.1) r.1 = insX (q.1.2.2.1, q.1.2.2.2) r.1 := fun x h1 h2 => by
    rw [upK_one m h x r q hr hq h1 h2]
    unfold insX arcB
    rw [hl]
    simp [ltA_irr]
  obtain ⟨⟨a, b, c, d⟩, k⟩ := q
  obtain ⟨⟨e, f, g, i⟩, j⟩ := r
  unfold crossP crossB at hc
  dsimp only at hc hl hl2 same ⊢
  have eqs : ∀ {a b c d : Int}, eqA a b c d = true → a = c ∧ b = d := fun h => (eqA_iff3 _ _ _ _).1 h
  rcases share_cases e f g i a b c d with ⟨s, e1⟩ | ⟨s, _, e1⟩ | ⟨s, _, _, e1⟩ | ⟨s, _, _, _, e1⟩ | ⟨s, _⟩
  · obtain ⟨rfl, rfl⟩ := eqs e1
    exact same (e, f) ((inP_iff _ _).2 (.inl rfl)) ((inP_iff _ _).2 (.inl rfl))
  · obtain ⟨rfl, rfl⟩ := eqs e1
    exact same (e, f) ((inP_iff _ _).2 (.inl rfl)) ((inP_iff _ _).2 (.inr rfl))
  · obtain ⟨rfl, rfl⟩ := eqs e1
    exact same (g, i) ((inP_iff _ _).2 (.inr rfl)) ((inP_iff _ _).2 (.inl rfl))
  · obtain ⟨rfl, rfl⟩ := eqs e1
    exact same (g, i) ((inP_iff _ _).2 (.inr rfl)) ((inP_iff _ _).2 (.inr rfl))
  · rw [s] at hc
    unfold insX
    simpa using hc
theorem wkOf_same {x y : Int × Int} : ∀ (l out : List Lf4), (∀ p ∈ l, insX x p = insX y p) → wkOf x out l = wkOf y out l
  | [], _, _ => rfl
  | p :: l, out, h => by
    simp only [wkOf]
    rw [h p (List.mem_cons_self ..)]
    exact wkOf_same l _ fun q hq => h q (List.mem_cons_of_mem _ hq)
theorem wkOf_ins {x : Int × Int} {l : List Lf4} {p : Lf4} (h : p ∈ wkOf x [] l) : insX x p = true := by
  have := (wkOf_perm x l []).mem_iff.1 h
  exact (List.mem_filter.1 this).2
/-- The wakes around a pair: those around its lower angle that have the upper one. -/
def arndL (p : Lf4) (l : List Lf4) : List Lf4 := (wkOf (p.1, p.2.1) [] l).filter (insX (p.2.2.1, p.2.2.2))
theorem arnd_all {m : Nat} (h : m ≤ 7) {q : Lf4 × Nat} (hq : q ∈ upK m) : arndL q.1 ((upK m).map (·.1)) = wkL (q.1.1, q.1.2.1) m := by
  unfold arndL wkL
  rw [List.filter_eq_self]
  intro r hr
  have hr2 := wkOf_mem hr
  rw [List.mem_map] at hr2
  obtain ⟨r', h1, rfl⟩ := hr2
  rw [← ins_same h hq h1]
  exact wkOf_ins hr
/-- Around both angles of a pair are the same wakes. -/
theorem wkL_either {m : Nat} (h : m ≤ 7) {q : Lf4 × Nat} (hq : q ∈ upK m) {x : Int × Int} (hx : inP x q.1 = true) : wkL (q.1.1, q.1.2.1) m = wkL x m := by
  rcases (inP_iff x q.1).1 hx with e | e
  · rw [e]
  · rw [← e]
    refine wkOf_same _ _ fun p hp => ?_
    rw [List.mem_map] at hp
    obtain ⟨r, hr, rfl⟩ := hp
    exact ins_same h hq hr
theorem upK_more : ∀ {m k : Nat}, m ≤ k → ∀ {q}, q ∈ upK m → q ∈ upK k
  | m, 0, h, q, hq => by
    have : m = 0 := by omega
    subst this; exact hq
  | m, k + 1, h, q, hq => by
    by_cases e : m = k + 1
    · subst e; exact hq
    · rw [upK_succ]
      unfold plOf
      exact List.mem_append_left _ (upK_more (by omega) hq)
/-- The wakes around the pair of an angle are those around the angle. -/
theorem po_around {n d : Int} (h : isAng n d = true) (h2 : 2 ≤ shortP d) {m : Nat} (hm : shortP d - 1 ≤ m) (h7 : m ≤ 7) : arndL (poP n d) ((upK m).map (·.1)) = wkL (n, d) m := by
  obtain ⟨q, hq, hi, e, _⟩ := po_good h h2
  have hq' := upK_more hm hq
  rw [e, arnd_all h7 hq', wkL_either h7 hq' hi]

theorem take_no {f : Lf4 → Bool} {K : List Lf4} {k : Nat} {p : Lf4} (hq : K[k]? = some p) (h : f p = false) : (K.take (k + 1)).filter f = (K.take k).filter f := by
  rw [List.take_add_one, hq]
  simp [h]
theorem take_yes {f : Lf4 → Bool} {K : List Lf4} {k : Nat} {p : Lf4} (hq : K[k]? = some p) (h : f p = true) : (K.take (k + 1)).filter f = (K.take k).filter f ++ [p] := by
  rw [List.take_add_one, hq]
  simp [h]

/-- What ParentOf answers. -/
def prP (n d : Int) : Lf4 := if poC n d = 0 then ((wkL (n, d) 7)[(wkL (n, d) 7).length - 1]?).getD (0, 0, 0, 0) else (0, 0, 0, 0)
def prC (n d : Int) : Int := if poC n d = 0 then (if (wkL (n, d) 7).length = 0 then 4 else 0) else poC n d
theorem pr_cases (n d : Int) : (poC n d ≠ 0 ∧ prP n d = (0, 0, 0, 0) ∧ prC n d = poC n d) ∨ (poC n d = 0 ∧ (wkL (n, d) 7).length = 0 ∧ prP n d = (0, 0, 0, 0) ∧ prC n d = 4) ∨ (poC n d = 0 ∧ ∃ k, (wkL (n, d) 7).length = k + 1 ∧ (wkL (n, d) 7)[k]? = some (prP n d) ∧ prC n d = 0) := by
  unfold prP prC
  by_cases h : poC n d = 0
  · generalize wkL (n, d) 7 = K
    simp only [h, if_true]
    cases K with
    | nil => exact .inr (.inl ⟨trivial, rfl, rfl, rfl⟩)
    | cons p K =>
      refine .inr (.inr ⟨trivial, K.length, rfl, ?_, by simp⟩)
      have e := List.getElem?_eq_getElem (l := p :: K) (i := K.length) (by simp)
      simp only [List.length_cons, Nat.add_sub_cancel]
      rw [e]
      rfl
  · exact .inl ⟨h, by simp [h], by simp [h]⟩
theorem po_arnd {n d : Int} (hc : poC n d = 0) : isAng n d = true ∧ 2 ≤ shortP d ∧ shortP d ≤ 8 ∧ okP (poP n d) = true := by
  have h8 := shortP_le d
  rcases po_cases n d with ⟨h1, h2, h3⟩ | ⟨h1, h2, h3, h4⟩ | ⟨h1, h2, h3, h4⟩
  · omega
  · omega
  · obtain ⟨q, _, _, e, ok, _⟩ := po_good h1 h2
    exact ⟨h1, h2, h8, by rw [e]; exact ok⟩
theorem implWakes8 (n d : Int) (w : World) (ha : isAng n d = true) :
    Calls Try.prog 27 #[ang n d, .int .i64 8] w fun e w' => ∃ A cap, e = .returned (.slice A (wkL (n, d) 7).length cap) ∧ w'.ownsRow w.heap.size 28 4 (.slice A (wkL (n, d) 7).length cap) (wkL (n, d) 7).length (flatP (wkL (n, d) 7)) ∧ Below w.heap.size w w' := implWakes n d 8 w ha (by omega) (by omega)

/-- What DepthOf answers. -/
def dpN (n d : Int) : Int := if poC n d = 0 then ((wkL (n, d) (shortP d - 1)).length : Int) else 0
theorem pairs_at (m : Nat) (z : Int) (h : m ≤ 7) (hz : ((m + 1 : Nat) : Int) = z) (w : World) :
    Calls Try.prog 47 #[.int .i64 z] w fun e w' => ∃ A cap, e = .returned (.slice A (upK m).length cap) ∧ w'.ownsRow w.heap.size 28 4 (.slice A (upK m).length cap) (upK m).length (flatP ((upK m).map (·.1))) ∧ Below w.heap.size w w' := by
  subst hz
  exact specPairs (m + 1) w (by omega) (by omega)

end Go.Proofs.Ytabddjfgbhnldaa

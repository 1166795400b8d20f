/-
  Leaves in order, none twice: the list is told by its members (plain mathematics).
-/
import Derived.Test.YtkpgfafmaoaefaaV28
import Derived.Test.YtkpgfafmaoaefaaExp
namespace Go.Proofs.Ytkpgfafmaoaefaa
open Go.RowKit

theorem lessX_asym {x y : Lf4} (hx : posX x) (hy : posX y) (h : lessX x y = true) : lessX y x = false := by
  cases e : lessX y x
  · rfl
  · have := lessX_tr hx hy hx h e
    rw [lessX_self] at this; cases this
theorem lessX_tot {x y : Lf4} (hx : isLfX x = true) (hy : isLfX y = true) (h : lessX x y = false) : x = y ∨ lessX y x = true := by
  obtain ⟨a, b, c, d⟩ := x
  obtain ⟨e, f, g, k⟩ := y
  obtain ⟨r1, r2, -⟩ := isLf_yes hx
  obtain ⟨r3, r4, -⟩ := isLf_yes hy
  by_cases e1 : a * f = e * b
  · have q1 := redEq r1 r3 e1
    simp only [Prod.mk.injEq] at q1
    obtain ⟨rfl, rfl⟩ := q1
    by_cases e2 : c * k = g * d
    · have q2 := redEq r2 r4 e2
      simp only [Prod.mk.injEq] at q2
      obtain ⟨rfl, rfl⟩ := q2
      exact .inl rfl
    · refine .inr ?_
      have he : eqA a b a b = true := (eqA_iff _ _ _ _).2 ⟨rfl, rfl⟩
      unfold lessX at *
      dsimp only at *
      rw [he] at h ⊢
      unfold ltA at *
      have h := of_decide_eq_false h
      exact decide_eq_true (by omega)
  · refine .inr ?_
    have he : eqA a b e f = false := by
      cases q : eqA a b e f
      · rfl
      · obtain ⟨rfl, rfl⟩ := (eqA_iff _ _ _ _).1 q
        exact absurd rfl e1
    have he2 : eqA e f a b = false := by rw [eqA_comm]; exact he
    unfold lessX at *
    dsimp only at *
    rw [he] at h
    rw [he2]
    unfold ltA at *
    have h := of_decide_eq_false h
    exact decide_eq_true (by omega)
/-- Strictly in order. -/
def AscL (l : List Lf4) : Prop := l.Pairwise fun x y => lessX x y = true
theorem allLf_mem {l : List Lf4} (h : allLf l = true) {q : Lf4} (hq : q ∈ l) : isLfX q = true := by
  unfold allLf at h
  rw [List.all_eq_true] at h
  exact h q hq
theorem ascL_uniq : ∀ (l m : List Lf4), (∀ q ∈ l, isLfX q = true) → AscL l → AscL m → (∀ q, q ∈ l ↔ q ∈ m) → l = m
  | [], [], _, _, _, _ => rfl
  | [], b :: m, _, _, _, h => absurd ((h b).2 List.mem_cons_self) (by simp)
  | a :: l, [], _, _, _, h => absurd ((h a).1 List.mem_cons_self) (by simp)
  | a :: l, b :: m, ha, hl, hm, h => by
    obtain ⟨la, ll⟩ := List.pairwise_cons.1 hl
    obtain ⟨mb, mm⟩ := List.pairwise_cons.1 hm
    have pa := lf_pos (ha a List.mem_cons_self)
    have pb := lf_pos (ha b ((h b).2 List.mem_cons_self))
    have e : a = b := by
      rcases List.mem_cons.1 ((h a).1 List.mem_cons_self) with e | e
      · exact e
      · rcases List.mem_cons.1 ((h b).2 List.mem_cons_self) with e2 | e2
        · exact e2.symm
        · have p := lessX_asym pb pa (mb a e)
          rw [la b e2] at p; cases p
    subst e
    have : l = m := ascL_uniq l m (fun q hq => ha q (List.mem_cons_of_mem _ hq)) ll mm fun q => by
      constructor
      · intro hq
        rcases List.mem_cons.1 ((h q).1 (List.mem_cons_of_mem _ hq)) with e | e
        · subst e
          have := la q hq
          rw [lessX_self] at this; cases this
        · exact e
      · intro hq
        rcases List.mem_cons.1 ((h q).2 (List.mem_cons_of_mem _ hq)) with e | e
        · subst e
          have := mb q hq
          rw [lessX_self] at this; cases this
        · exact e
    rw [this]
theorem insL_mem {out : List Lf4} {p q : Lf4} : q ∈ insL out p ↔ q = p ∨ q ∈ out := by
  by_cases h : out[lessNL out p]? = some p
  · rw [insL_old h]
    have := List.mem_of_getElem? h
    constructor
    · exact fun x => .inr x
    · rintro (rfl | x)
      · exact this
      · exact x
  · rw [insL_new h]
    have e : q ∈ out ↔ q ∈ out.take (lessNL out p) ∨ q ∈ out.drop (lessNL out p) := by
      rw [← List.mem_append, List.take_append_drop]
    rw [List.mem_append, List.mem_cons, e]
    constructor
    · rintro (h | h | h)
      · exact .inr (.inl h)
      · exact .inl h
      · exact .inr (.inr h)
    · rintro (h | h | h)
      · exact .inr (.inl h)
      · exact .inl h
      · exact .inr (.inr h)
theorem insL_asc {out : List Lf4} {p : Lf4} (h : AscL out) (ha : allLf out = true) (hp : isLfX p = true) : AscL (insL out p) := by
  by_cases hn : out[lessNL out p]? = some p
  · rw [insL_old hn]; exact h
  · rw [insL_new hn]
    unfold AscL at *
    have h0 := h
    rw [← List.take_append_drop (lessNL out p) out] at h0
    obtain ⟨h1, h2, h3⟩ := List.pairwise_append.1 h0
    have hT : ∀ x ∈ out.take (lessNL out p), lessX x p = true := by
      intro x hx
      obtain ⟨i, hi, e⟩ := List.getElem_of_mem hx
      have hi2 : i < lessNL out p := by rw [List.length_take] at hi; omega
      refine lessNL_lt hi2 ?_
      rw [List.getElem_take] at e
      rw [← e]
      exact List.getElem?_eq_getElem _
    have hD : ∀ x ∈ out.drop (lessNL out p), lessX p x = true := by
      intro x hx
      rcases Nat.lt_or_ge (lessNL out p) out.length with hk | hk
      · have e := List.getElem?_eq_getElem hk
        have f := lessNL_at e
        have hm : out[lessNL out p] ∈ out := List.getElem_mem hk
        have hy := allLf_mem ha hm
        have hlt : lessX p out[lessNL out p] = true := by
          rcases lessX_tot hy hp f with g | g
          · rw [g] at e; exact absurd e hn
          · exact g
        rw [List.drop_eq_getElem_cons hk] at hx h2
        rcases List.mem_cons.1 hx with g | g
        · rw [g]; exact hlt
        · exact lessX_tr (lf_pos hp) (lf_pos hy) (lf_pos (allLf_mem ha (List.mem_of_mem_drop g))) hlt ((List.pairwise_cons.1 h2).1 x g)
      · rw [List.drop_eq_nil_of_le hk] at hx; cases hx
    refine List.pairwise_append.2 ⟨h1, List.pairwise_cons.2 ⟨hD, h2⟩, ?_⟩
    intro x hx y hy
    rcases List.mem_cons.1 hy with g | g
    · rw [g]; exact hT x hx
    · exact h3 x hx y g
theorem allLf_ins {out : List Lf4} {p : Lf4} (ha : allLf out = true) (hp : isLfX p = true) : allLf (insL out p) = true := by
  unfold allLf
  rw [List.all_eq_true]
  intro x hx
  rcases insL_mem.1 hx with e | e
  · rw [e]; exact hp
  · exact allLf_mem ha e
/-- All of a list put in their places. -/
def insAllL (l : List Lf4) : List Lf4 := l.foldl insL []
theorem insAllL_snoc (l : List Lf4) (p : Lf4) : insAllL (l ++ [p]) = insL (insAllL l) p := by
  unfold insAllL
  rw [List.foldl_append]
  rfl
theorem foldL_all : ∀ (l o : List Lf4), (∀ q ∈ l, isLfX q = true) → AscL o → allLf o = true → AscL (l.foldl insL o) ∧ allLf (l.foldl insL o) = true ∧ (∀ q, q ∈ l.foldl insL o ↔ q ∈ l ∨ q ∈ o) ∧ (l.foldl insL o).length ≤ o.length + l.length
  | [], o, _, h, ho => ⟨h, ho, by simp, by simp⟩
  | p :: l, o, ha, h, ho => by
    have hp := ha p List.mem_cons_self
    obtain ⟨h1, h2, h3, h4⟩ := foldL_all l (insL o p) (fun q hq => ha q (List.mem_cons_of_mem _ hq)) (insL_asc h ho hp) (allLf_ins ho hp)
    refine ⟨h1, h2, fun q => ?_, ?_⟩
    · rw [List.foldl_cons, h3, insL_mem, List.mem_cons]
      constructor
      · rintro (h | h | h)
        · exact .inl (.inr h)
        · exact .inl (.inl h)
        · exact .inr h
      · rintro ((h | h) | h)
        · exact .inr (.inl h)
        · exact .inl h
        · exact .inr (.inr h)
    · have hl : (insL o p).length ≤ o.length + 1 := by
        by_cases hn : o[lessNL o p]? = some p
        · rw [insL_old hn]; omega
        · rw [insL_len hn]; omega
      rw [List.foldl_cons, List.length_cons]
      omega
theorem insAllL_all {l : List Lf4} (ha : ∀ q ∈ l, isLfX q = true) : AscL (insAllL l) ∧ allLf (insAllL l) = true ∧ (∀ q, q ∈ insAllL l ↔ q ∈ l) ∧ (insAllL l).length ≤ l.length := by
  obtain ⟨h1, h2, h3, h4⟩ := foldL_all l [] ha List.Pairwise.nil rfl
  exact ⟨h1, h2, fun q => (h3 q).trans (by simp), by simpa [insAllL] using h4⟩
/-- What is in order, none twice, with the members of l, is the model's list. -/
theorem sort_sameL {l r : List Lf4} (ha : ∀ q ∈ l, isLfX q = true) (hm : ∀ q, q ∈ r ↔ q ∈ l) (hn : r.Nodup) (hs : r.Pairwise fun x y => lessX y x = false) : r = insAllL l := by
  obtain ⟨h1, h2, h3, -⟩ := insAllL_all ha
  refine ascL_uniq r (insAllL l) (fun q hq => ha q ((hm q).1 hq)) ?_ h1 (fun q => (hm q).trans (h3 q).symm)
  refine List.pairwise_iff_getElem.2 fun i j hi hj hij => ?_
  have g := (List.pairwise_iff_getElem.1 hs) i j hi hj hij
  rcases lessX_tot (ha _ ((hm _).1 (List.getElem_mem hj))) (ha _ ((hm _).1 (List.getElem_mem hi))) g with e | e
  · exact absurd e.symm ((List.pairwise_iff_getElem.1 hn) i j hi hj hij)
  · exact e
end Go.Proofs.Ytkpgfafmaoaefaa

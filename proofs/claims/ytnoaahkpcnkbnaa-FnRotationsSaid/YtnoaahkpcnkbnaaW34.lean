/-
  Angles in order, none twice: the list is told by its members (plain mathematics).
-/
import Derived.Test.YtnoaahkpcnkbnaaWI
import Derived.Test.YtnoaahkpcnkbnaaExp
namespace Go.Proofs.Ytnoaahkpcnkbnaa
open Go.RowKit

/-- Strictly in order. -/
def AscA (l : List (Int × Int)) : Prop := l.Pairwise fun x y => lessA x y = true
theorem lessA_asym {x y : Int × Int} (h : lessA x y = true) : lessA y x = false := by
  unfold lessA ltA at *
  have h := of_decide_eq_true h
  exact decide_eq_false (by omega)
theorem lessA_self (x : Int × Int) : lessA x x = false := by
  unfold lessA ltA
  exact decide_eq_false (by omega)
theorem ltA_trA {a b c d e f : Int} (hb : 0 < b) (hd : 0 < d) (hf : 0 < f) (h1 : ltA a b c d = true) (h2 : ltA c d e f = true) : ltA a b e f = true := by
  unfold ltA at *
  have h1 := of_decide_eq_true h1
  have h2 := of_decide_eq_true h2
  refine decide_eq_true (Int.lt_of_mul_lt_mul_right (a := d) ?_ (by omega))
  have p1 := Int.mul_lt_mul_of_pos_right h1 hf
  have p2 := Int.mul_lt_mul_of_pos_right h2 hb
  have e1 : a * d * f = a * f * d := by rw [Int.mul_assoc, Int.mul_comm d f, ← Int.mul_assoc]
  have e2 : c * b * f = c * f * b := by rw [Int.mul_assoc, Int.mul_comm b f, ← Int.mul_assoc]
  have e3 : e * d * b = e * b * d := by rw [Int.mul_assoc, Int.mul_comm d b, ← Int.mul_assoc]
  omega
theorem lessA_tr {x y z : Int × Int} (hx : isAng x.1 x.2 = true) (hy : isAng y.1 y.2 = true) (hz : isAng z.1 z.2 = true) (h1 : lessA x y = true) (h2 : lessA y z = true) : lessA x z = true := by
  have a := (isAng_yes hx).1
  have b := (isAng_yes hy).1
  have c := (isAng_yes hz).1
  exact ltA_trA (by omega) (by omega) (by omega) h1 h2
theorem lessA_tot {x y : Int × Int} (hx : isAng x.1 x.2 = true) (hy : isAng y.1 y.2 = true) (h : lessA x y = false) : x = y ∨ lessA y x = true := by
  by_cases e : x.1 * y.2 = y.1 * x.2
  · exact .inl (red_eq (isAng_yes hx) (isAng_yes hy) e)
  · refine .inr ?_
    unfold lessA ltA at *
    have h := of_decide_eq_false h
    exact decide_eq_true (by omega)
/-- Two lists in order with the same members are one. -/
theorem ascA_uniq : ∀ (l m : List (Int × Int)), AscA l → AscA m → (∀ q, q ∈ l ↔ q ∈ m) → l = m
  | [], [], _, _, _ => rfl
  | [], b :: m, _, _, h => absurd ((h b).2 List.mem_cons_self) (by simp)
  | a :: l, [], _, _, h => absurd ((h a).1 List.mem_cons_self) (by simp)
  | a :: l, b :: m, hl, hm, h => by
    obtain ⟨la, ll⟩ := List.pairwise_cons.1 hl
    obtain ⟨mb, mm⟩ := List.pairwise_cons.1 hm
    have e : a = b := by
      rcases List.mem_cons.1 ((h a).1 List.mem_cons_self) with e | e
      · exact e
      · rcases List.mem_cons.1 ((h b).2 List.mem_cons_self) with e2 | e2
        · exact e2.symm
        · have p := lessA_asym (mb a e)
          rw [la b e2] at p; cases p
    subst e
    have : l = m := ascA_uniq l m ll mm fun q => by
      constructor
      · intro hq
        rcases List.mem_cons.1 ((h q).1 (List.mem_cons_of_mem _ hq)) with e | e
        · subst e
          have := la q hq
          rw [lessA_self] at this; cases this
        · exact e
      · intro hq
        rcases List.mem_cons.1 ((h q).2 (List.mem_cons_of_mem _ hq)) with e | e
        · subst e
          have := mb q hq
          rw [lessA_self] at this; cases this
        · exact e
    rw [this]
theorem allAng_mem {l : List (Int × Int)} (h : allAng l = true) {q : Int × Int} (hq : q ∈ l) : isAng q.1 q.2 = true := by
  unfold allAng at h
  rw [List.all_eq_true] at h
  exact h q hq
theorem insA_asc {out : List (Int × Int)} {p : Int × Int} (h : AscA out) (ha : allAng out = true) (hp : isAng p.1 p.2 = true) : AscA (insA out p) := by
  by_cases hn : out[lessNA out p]? = some p
  · rw [insA_old hn]; exact h
  · rw [insA_new hn]
    unfold AscA at *
    have h0 := h
    rw [← List.take_append_drop (lessNA out p) out] at h0
    obtain ⟨h1, h2, h3⟩ := List.pairwise_append.1 h0
    have hT : ∀ x ∈ out.take (lessNA out p), lessA x p = true := by
      intro x hx
      obtain ⟨i, hi, e⟩ := List.getElem_of_mem hx
      have hi2 : i < lessNA out p := by rw [List.length_take] at hi; omega
      refine lessNA_lt hi2 ?_
      rw [List.getElem_take] at e
      rw [← e]
      exact List.getElem?_eq_getElem _
    have hD : ∀ x ∈ out.drop (lessNA out p), lessA p x = true := by
      intro x hx
      rcases Nat.lt_or_ge (lessNA out p) out.length with hk | hk
      · have e := List.getElem?_eq_getElem hk
        have f := lessNA_at e
        have hm : out[lessNA out p] ∈ out := List.getElem_mem hk
        have hy := allAng_mem ha hm
        have hlt : lessA p out[lessNA out p] = true := by
          rcases lessA_tot hy hp f with g | g
          · rw [g] at e; exact absurd e hn
          · exact g
        rw [List.drop_eq_getElem_cons hk] at hx h2
        rcases List.mem_cons.1 hx with g | g
        · rw [g]; exact hlt
        · exact lessA_tr hp hy (allAng_mem ha (List.mem_of_mem_drop g)) hlt ((List.pairwise_cons.1 h2).1 x g)
      · rw [List.drop_eq_nil_of_le hk] at hx; cases hx
    refine List.pairwise_append.2 ⟨h1, List.pairwise_cons.2 ⟨hD, h2⟩, ?_⟩
    intro x hx y hy
    rcases List.mem_cons.1 hy with g | g
    · rw [g]; exact hT x hx
    · exact h3 x hx y g
theorem allAng_insA {out : List (Int × Int)} {p : Int × Int} (ha : allAng out = true) (hp : isAng p.1 p.2 = true) : allAng (insA out p) = true := by
  have g : ∀ x ∈ insA out p, isAng x.1 x.2 = true := by
    intro x hx
    rcases insA_mem.1 hx with e | e
    · rw [e]; exact hp
    · exact allAng_mem ha e
  unfold allAng
  rw [List.all_eq_true]
  exact g
theorem foldA_asc : ∀ (l o : List (Int × Int)), allAng l = true → AscA o → allAng o = true → AscA (l.foldl insA o)
  | [], o, _, h, _ => h
  | p :: l, o, ha, h, ho => by
    have hp := allAng_mem ha (q := p) List.mem_cons_self
    have hl : allAng l = true := by unfold allAng at *; rw [List.all_cons, Bool.and_eq_true] at ha; exact ha.2
    rw [List.foldl_cons]
    exact foldA_asc l (insA o p) hl (insA_asc h ho hp) (allAng_insA ho hp)
theorem insAll_asc {l : List (Int × Int)} (h : allAng l = true) : AscA (insAll l) := foldA_asc l [] h List.Pairwise.nil rfl
/-- What is in order, none twice, with the members of l, is the model's list. -/
theorem sort_same {l r : List (Int × Int)} (h : allAng l = true) (hm : ∀ q, q ∈ r ↔ q ∈ l) (hn : r.Nodup) (hs : ∀ (i j : Nat) (x y : Int × Int), i < j → r[i]? = some x → r[j]? = some y → lessA y x = false) : r = insAll l := by
  refine ascA_uniq r (insAll l) ?_ (insAll_asc h) fun q => (hm q).trans (insAll_mem l q).symm
  refine List.pairwise_iff_getElem.2 fun i j hi hj hij => ?_
  have e1 := List.getElem?_eq_getElem hi
  have e2 := List.getElem?_eq_getElem hj
  rcases lessA_tot (allAng_mem h ((hm _).1 (List.getElem_mem hj))) (allAng_mem h ((hm _).1 (List.getElem_mem hi))) (hs i j _ _ hij e1 e2) with g | g
  · exact absurd g.symm ((List.pairwise_iff_getElem.1 hn) i j hi hj hij)
  · exact g
end Go.Proofs.Ytnoaahkpcnkbnaa

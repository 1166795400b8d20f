/-
  Plain mathematics: pairs in the order of their lower angles; pairs that are gathered in whatever order. No program in sight.
-/
import Derived.Test.YtnciiodgkanpjaaR13
namespace Go.Proofs.Ytnciiodgkanpjaa
open Go.RowKit

/-- The lower angle of the first pair is less. -/
def lowLt (p q : Lf4) : Bool := ltA p.1 p.2.1 q.1 q.2.1
theorem cancel_lt {a c d : Int} (hd : 0 < d) (h : a * d < c * d) : a < c := Int.lt_of_mul_lt_mul_right h (by omega)
theorem cancel_le {a c d : Int} (hd : 0 < d) (h : a * d ≤ c * d) : a ≤ c := Int.le_of_mul_le_mul_right h hd
theorem ltA_tr {a b c d e f : Int} (hb : 0 < b) (hd : 0 < d) (hf : 0 < f) (h1 : ltA a b c d = true) (h2 : ltA c d e f = true) : ltA a b e f = true := by
  unfold ltA at *
  have h1 := of_decide_eq_true h1
  have h2 := of_decide_eq_true h2
  refine decide_eq_true (cancel_lt hd ?_)
  have p1 := Int.mul_lt_mul_of_pos_right h1 hf
  have p2 := Int.mul_lt_mul_of_pos_right h2 hb
  have e1 : a * d * f = a * f * d := by rw [Int.mul_assoc, Int.mul_comm d f, ← Int.mul_assoc]
  have e2 : c * b * f = c * f * b := by rw [Int.mul_assoc, Int.mul_comm b f, ← Int.mul_assoc]
  have e3 : e * d * b = e * b * d := by rw [Int.mul_assoc, Int.mul_comm d b, ← Int.mul_assoc]
  omega
theorem ltA_ntr {a b c d e f : Int} (hb : 0 < b) (hd : 0 < d) (hf : 0 < f) (h1 : ltA a b c d = false) (h2 : ltA c d e f = false) : ltA a b e f = false := by
  unfold ltA at *
  have h1 := of_decide_eq_false h1
  have h2 := of_decide_eq_false h2
  refine decide_eq_false (Int.not_lt.2 (cancel_le hd ?_))
  have p1 := Int.mul_le_mul_of_nonneg_right (Int.not_lt.1 h1) (Int.le_of_lt hf)
  have p2 := Int.mul_le_mul_of_nonneg_right (Int.not_lt.1 h2) (Int.le_of_lt hb)
  have e1 : a * d * f = a * f * d := by rw [Int.mul_assoc, Int.mul_comm d f, ← Int.mul_assoc]
  have e2 : c * b * f = c * f * b := by rw [Int.mul_assoc, Int.mul_comm b f, ← Int.mul_assoc]
  have e3 : e * d * b = e * b * d := by rw [Int.mul_assoc, Int.mul_comm d b, ← Int.mul_assoc]
  omega

theorem ok_pos {p : Lf4} (h : okP p = true) : 0 < p.2.1 := by
  have := (isLf_yes h).1.1
  dsimp only at this
  omega
theorem ok_low {p : Lf4} (h : okP p = true) : angOk p.1 p.2.1 := by
  obtain ⟨h1, h2, h3, h4, _⟩ := (isLf_yes h).1
  exact ⟨h1, h2, h3, h4⟩
theorem low_irr (p : Lf4) : lowLt p p = false := ltA_irr _ _
theorem low_tr {p q r : Lf4} (hp : okP p = true) (hq : okP q = true) (hr : okP r = true) : lowLt p q = true → lowLt q r = true → lowLt p r = true := ltA_tr (ok_pos hp) (ok_pos hq) (ok_pos hr)
theorem low_ntr {p q r : Lf4} (hp : okP p = true) (hq : okP q = true) (hr : okP r = true) : lowLt p q = false → lowLt q r = false → lowLt p r = false := ltA_ntr (ok_pos hp) (ok_pos hq) (ok_pos hr)
/-- Neither lower angle is less: they are one. -/
theorem low_eq {p q : Lf4} (hp : okP p = true) (hq : okP q = true) (h1 : lowLt p q = false) (h2 : lowLt q p = false) : (p.1, p.2.1) = (q.1, q.2.1) := by
  have a := of_decide_eq_false h1
  have b := of_decide_eq_false h2
  exact redEq (isLf_yes hp).1 (isLf_yes hq).1 (by dsimp only; omega)

/-- Pairs in order, none of whose lower angles is another's: what has the same pairs in order is the same list. -/
theorem sort_unique {l m : List Lf4} (hok : ∀ p ∈ m, okP p = true) (hone : ∀ p ∈ m, ∀ q ∈ m, (p.1, p.2.1) = (q.1, q.2.1) → p = q)
    (hl : l.Pairwise fun x y => lowLt y x = false) (hm : m.Pairwise fun x y => lowLt y x = false) (hp : l.Perm m) : l = m := by
  refine List.Perm.eq_of_pairwise (le := fun x y => lowLt y x = false) (fun a b ha hb h1 h2 => ?_) hl hm hp
  have ha' := hp.mem_iff.1 ha
  exact hone a ha' b hb (low_eq (hok a ha') (hok b hb) h2 h1)

/-- What holds while pairs that meet a condition are gathered: 'left' tells which are still to come. -/
structure Gath (l : List (Lf4 × Nat)) (c : Lf4 × Nat → Bool) (left : Lit → Bool) (acc : List Lf4) : Prop where
  nd : acc.Nodup
  sub : ∀ p ∈ acc, left (kp p) = false ∧ ∃ y ∈ l, y.1 = p ∧ c y = true
  all : ∀ y ∈ l, left (kp y.1) = false → c y = true → y.1 ∈ acc
theorem Gath.start {l : List (Lf4 × Nat)} {c : Lf4 × Nat → Bool} {left : Lit → Bool} (h : ∀ y ∈ l, left (kp y.1) = true) : Gath l c left [] :=
  ⟨List.nodup_nil, by simp, fun y hy hf => by rw [h y hy] at hf; cases hf⟩
theorem kp_self (p : Lf4) : (kp p).sameKey (kp p) = true := (WideAt.sameKey_iff (kp_key _)).2 rfl
theorem left_false {left : Lit → Bool} {k : Lit} {p : Lf4} (h : (left k && !k.sameKey (kp p)) = false) (_hk : WideAt.IsKeyLit k) : left k = false ∨ k = kp p := by
  cases hl : left k
  · exact .inl rfl
  · rw [hl] at h
    exact .inr ((WideAt.sameKey_iff (kp_key _)).1 (by simpa using h))
theorem Gath.yes {l : List (Lf4 × Nat)} {c : Lf4 × Nat → Bool} {left : Lit → Bool} {acc : List Lf4} (h : Gath l c left acc) (hok : allP l) {x : Lf4 × Nat} (hx : x ∈ l) (hl : left (kp x.1) = true) (hc : c x = true) :
    Gath l c (fun z => left z && !z.sameKey (kp x.1)) (acc ++ [x.1]) := by
  refine ⟨?_, fun p hp => ?_, fun y hy hf hcy => ?_⟩
  · rw [List.nodup_append]
    refine ⟨h.nd, by simp, fun a ha b hb e => ?_⟩
    simp at hb
    subst hb
    have := (h.sub a ha).1
    rw [e, hl] at this; cases this
  · rw [List.mem_append] at hp
    rcases hp with hp | hp
    · obtain ⟨h1, h2⟩ := h.sub p hp
      exact ⟨by rw [h1]; rfl, h2⟩
    · simp at hp
      subst hp
      exact ⟨by rw [kp_self]; simp, x, hx, rfl, hc⟩
  · rw [List.mem_append]
    rcases left_false hf (kp_key _) with h1 | h1
    · exact .inl (h.all y hy h1 hcy)
    · exact .inr (by rw [kp_inj (ok_wf (hok y hy)) (ok_wf (hok x hx)) h1]; simp)
theorem Gath.no {l : List (Lf4 × Nat)} {c : Lf4 × Nat → Bool} {left : Lit → Bool} {acc : List Lf4} (h : Gath l c left acc) (hok : allP l) {x : Lf4 × Nat} (hx : x ∈ l) (hc : ∀ y ∈ l, y.1 = x.1 → c y = false) :
    Gath l c (fun z => left z && !z.sameKey (kp x.1)) acc := by
  refine ⟨h.nd, fun p hp => ?_, fun y hy hf hcy => ?_⟩
  · obtain ⟨h1, h2⟩ := h.sub p hp
    exact ⟨by rw [h1]; rfl, h2⟩
  · rcases left_false hf (kp_key _) with h1 | h1
    · exact h.all y hy h1 hcy
    · have := hc y hy (kp_inj (ok_wf (hok y hy)) (ok_wf (hok x hx)) h1)
      rw [this] at hcy; cases hcy
theorem Gath.done {l : List (Lf4 × Nat)} {c : Lf4 × Nat → Bool} {left : Lit → Bool} {acc : List Lf4} (h : Gath l c left acc) (h0 : ∀ k, left k = false) (hn : (l.map (·.1)).Nodup) : acc.Perm ((l.filter c).map (·.1)) := by
  refine (List.perm_ext_iff_of_nodup h.nd (List.Nodup.sublist (List.Sublist.map _ List.filter_sublist) hn)).2 fun p => ?_
  constructor
  · intro hp
    obtain ⟨_, y, hy, e, hc⟩ := h.sub p hp
    exact e ▸ List.mem_map_of_mem (f := (·.1)) (List.mem_filter.2 ⟨hy, hc⟩)
  · intro hp
    rw [List.mem_map] at hp
    obtain ⟨y, hy, rfl⟩ := hp
    obtain ⟨h1, h2⟩ := List.mem_filter.1 hy
    exact h.all y h1 (h0 _) h2
theorem Gath.ok {l : List (Lf4 × Nat)} {c : Lf4 × Nat → Bool} {left : Lit → Bool} {acc : List Lf4} (h : Gath l c left acc) (hok : allP l) : ∀ p ∈ acc, okP p = true := fun p hp => by
  obtain ⟨_, y, hy, rfl, _⟩ := h.sub p hp
  exact hok y hy
theorem Gath.len {l : List (Lf4 × Nat)} {c : Lf4 × Nat → Bool} {left : Lit → Bool} {acc : List Lf4} (h : Gath l c left acc) : acc.length ≤ l.length := by
  have h1 : acc ⊆ l.map (·.1) := fun p hp => by
    obtain ⟨_, y, hy, rfl, _⟩ := h.sub p hp
    exact List.mem_map_of_mem (f := (·.1)) hy
  have h2 := List.Nodup.length_le_of_subset h.nd h1
  simpa using h2

/-- The period that a map of pairs tells. -/
theorem putP_at (k : Lit) (z : DataW Unit) : ∀ (l : List (Lf4 × Nat)) (m : DataW Unit), Maps.IsMap m → (∃ x ∈ l, kp x.1 = k ∧ (l.foldl putP m).atKey k z = .lit (.int .i64 (x.2 : Int))) ∨ ((l.foldl putP m).atKey k z = m.atKey k z ∧ ∀ x ∈ l, kp x.1 ≠ k)
  | [], m, _ => .inr ⟨rfl, by simp⟩
  | x :: l, m, hm => by
    rw [List.foldl_cons]
    rcases putP_at k z l (putP m x) (hm.put _ _) with ⟨y, hy, h1, h2⟩ | ⟨h1, h2⟩
    · exact .inl ⟨y, List.mem_cons_of_mem _ hy, h1, h2⟩
    · by_cases e : kp x.1 = k
      · refine .inl ⟨x, List.mem_cons_self .., e, ?_⟩
        rw [h1]
        unfold putP
        rw [e]
        exact Maps.atKey_put_same hm (e ▸ kp_key _) _ z
      · refine .inr ⟨?_, fun y hy => ?_⟩
        · rw [h1]
          unfold putP
          exact Maps.atKey_put_other (fun h => e h.symm) _ z
        · rw [List.mem_cons] at hy
          rcases hy with rfl | hy
          · exact e
          · exact h2 y hy
theorem pD_at {l : List (Lf4 × Nat)} (hok : allP l) {x : Lf4 × Nat} (hx : x ∈ l) (z : DataW Unit) : ∃ y ∈ l, y.1 = x.1 ∧ (pD l).atKey (kp x.1) z = .lit (.int .i64 (y.2 : Int)) := by
  rcases putP_at (kp x.1) z l _ Maps.isMap_empty with ⟨y, hy, h1, h2⟩ | ⟨_, h2⟩
  · exact ⟨y, hy, kp_inj (ok_wf (hok y hy)) (ok_wf (hok x hx)) h1, h2⟩
  · exact absurd rfl (h2 x hx)

/-- The pairs of the period m + 2, in order. -/
def newP (m : Nat) : List Lf4 := (joinM (upK m) (angsOf m) (m + 2)).map fun j => lfOf (at_ (angsOf m) j.1) (at_ (angsOf m) j.2)
theorem upK_new (m : Nat) : upK (m + 1) = upK m ++ (newP m).map fun p => (p, m + 2) := by
  rw [upK_succ]
  unfold plOf newP
  rw [List.map_map]
  rfl
theorem newP_low {m : Nat} (h : m ≤ 6) : (newP m).Pairwise fun x y => lowLt x y = true := by
  have hA := angsOf_Asc (m := m) h
  have hJ := joinM_Joined (upK m) (angsOf m) (m + 2)
  unfold newP
  rw [List.pairwise_map]
  refine List.Pairwise.imp_of_mem ?_ hJ.apart
  intro a b ha hb hab
  have la := hJ.lt a ha
  have lb := hJ.lt b hb
  exact hA.lt a.1 b.1 _ _ hab.1 (at_some (by omega)) (at_some (by omega))
theorem low_asym {p q : Lf4} (h : lowLt p q = true) : lowLt q p = false := by
  have := of_decide_eq_true h
  exact decide_eq_false (by omega)
theorem newP_sorted {m : Nat} (h : m ≤ 6) : (newP m).Pairwise fun x y => lowLt y x = false := (newP_low h).imp low_asym
theorem newP_mem {m : Nat} {p : Lf4} (h : p ∈ newP m) : (p, m + 2) ∈ upK (m + 1) := by
  rw [upK_new]
  exact List.mem_append.2 (.inr (List.mem_map_of_mem (f := fun p => (p, m + 2)) h))
theorem newP_nd {m : Nat} (h : m ≤ 6) : (newP m).Nodup := (newP_low h).imp fun {a b} hab e => by rw [e, low_irr] at hab; cases hab
theorem upK_map (m : Nat) : (upK (m + 1)).map (·.1) = (upK m).map (·.1) ++ newP m := by
  rw [upK_new, List.map_append, List.map_map]
  congr 1
  exact (List.map_congr_left (fun _ _ => rfl)).trans (List.map_id _)
theorem upK_nd : ∀ m, m ≤ 7 → ((upK m).map (·.1)).Nodup
  | 0, _ => by simp [upK]
  | m + 1, h => by
    rw [upK_map, List.nodup_append]
    refine ⟨upK_nd m (by omega), newP_nd (by omega), fun a ha b hb e => ?_⟩
    subst e
    rw [List.mem_map] at ha
    obtain ⟨q, hq, rfl⟩ := ha
    have h1 := upK_per m (by omega) q hq
    have h2 := upK_per (m + 1) h _ (newP_mem hb)
    dsimp only at h2
    omega
theorem upK_filter {m : Nat} (h : m ≤ 6) : ((upK (m + 1)).filter fun y => y.2 == m + 2).map (·.1) = newP m := by
  rw [upK_new, List.filter_append]
  have e1 : (upK m).filter (fun y => y.2 == m + 2) = [] := by
    rw [List.filter_eq_nil_iff]
    intro q hq
    have := (upK_per m (by omega) q hq).1
    simp; omega
  have e2 : ((newP m).map fun p => (p, m + 2)).filter (fun y => y.2 == m + 2) = (newP m).map fun p => (p, m + 2) := by
    rw [List.filter_eq_self]
    intro q hq
    rw [List.mem_map] at hq
    obtain ⟨p, _, rfl⟩ := hq
    simp
  rw [e1, e2, List.nil_append, List.map_map]
  exact (List.map_congr_left (fun _ _ => rfl)).trans (List.map_id _)
/-- Among the pairs of the periods up to one the lower angle tells the pair; the pair tells the period. -/
theorem upK_low {m : Nat} (h : m ≤ 7) : ∀ p ∈ (upK m).map (·.1), ∀ q ∈ (upK m).map (·.1), (p.1, p.2.1) = (q.1, q.2.1) → p = q := by
  intro p hp q hq e
  rw [List.mem_map] at hp hq
  obtain ⟨x, hx, rfl⟩ := hp
  obtain ⟨y, hy, rfl⟩ := hq
  exact upK_one m h (x.1.1, x.1.2.1) x y hx hy ((inP_iff _ _).2 (.inl rfl)) ((inP_iff _ _).2 (.inl e.symm))
theorem upK_same {m : Nat} (h : m ≤ 7) {x y : Lf4 × Nat} (hx : x ∈ upK m) (hy : y ∈ upK m) (e : y.1 = x.1) : y.2 = x.2 := by
  have h1 := (upK_per m h x hx).2.2.1
  have h2 := (upK_per m h y hy).2.2.1
  rw [e] at h2
  omega
theorem newP_sub {m : Nat} {p : Lf4} (h : p ∈ newP m) : p ∈ (upK (m + 1)).map (·.1) := by rw [upK_map]; exact List.mem_append.2 (.inr h)
theorem mapOk {m : Nat} (h : m ≤ 7) : ∀ p ∈ (upK m).map (·.1), okP p = true := fun p hp => by
  rw [List.mem_map] at hp
  obtain ⟨q, hq, rfl⟩ := hp
  exact upK_ok m h q hq
theorem newP_len {m : Nat} (h : m ≤ 6) : (newP m).length ≤ 3000 := by
  have h1 := upK_len (m + 1) (by omega)
  have h2 := congrArg List.length (upK_map m)
  simp only [List.length_append, List.length_map] at h2
  omega
end Go.Proofs.Ytnciiodgkanpjaa

/-
  What hangs together by joins (plain mathematics): the classes of a list of joins, told by a map of
  least members (impl's way) and by sets that are joined one after another (spec's way).
  Maps of angles to angles: what they hold; looked up, written.
  A map of angles to angles, ranged over.
  impl.leastOfClasses: the least of the ends that hang together, as a map.
  A row of slices of angles that a call owns, and to which it appends.
  Joins that doubling leads to joins (plain mathematics): classes as sorted lists, their doubles, where they come again.
-/
import Derived.Test.YtdmppdfncbljoaaW34
import Derived.Test.YtdmppdfncbljoaaW38
import Derived.Test.YtdmppdfncbljoaaV4
import Derived.Still
import Derived.StillTactics
import Derived.StillTailTactics
import Derived.Maps.RangeWalk
import Derived.Test.YtdmppdfncbljoaaV2
namespace Go.Proofs.Ytdmppdfncbljoaa
open Go.RowKit

/-- x and y hang together by the joins L. -/
inductive Tied (L : List ((Int × Int) × (Int × Int))) : Int × Int → Int × Int → Prop where
  | mem {x y : Int × Int} (h : (x, y) ∈ L) : Tied L x y
  | refl (x : Int × Int) : Tied L x x
  | symm {x y : Int × Int} (h : Tied L x y) : Tied L y x
  | trans {x y z : Int × Int} (h : Tied L x y) (k : Tied L y z) : Tied L x z
theorem tied_closed {L : List ((Int × Int) × (Int × Int))} {C : Int × Int → Prop} (h : ∀ x y, (x, y) ∈ L → (C x ↔ C y)) {x y : Int × Int} (t : Tied L x y) : C x ↔ C y := by
  induction t with
  | mem m => exact h _ _ m
  | refl => exact Iff.rfl
  | symm _ ih => exact ih.symm
  | trans _ _ i1 i2 => exact i1.trans i2
theorem tied_mono {L M : List ((Int × Int) × (Int × Int))} (h : ∀ p ∈ L, p ∈ M) {x y : Int × Int} (t : Tied L x y) : Tied M x y := by
  induction t with
  | mem m => exact .mem (h _ m)
  | refl => exact .refl _
  | symm _ ih => exact .symm ih
  | trans _ _ i1 i2 => exact .trans i1 i2
theorem tied_map {L : List ((Int × Int) × (Int × Int))} {D : Int × Int → Int × Int} (h : ∀ x y, (x, y) ∈ L → Tied L (D x) (D y)) {x y : Int × Int} (t : Tied L x y) : Tied L (D x) (D y) := by
  induction t with
  | mem m => exact h _ _ m
  | refl => exact .refl _
  | symm _ ih => exact .symm ih
  | trans _ _ i1 i2 => exact .trans i1 i2
/-- Joins that are tied by others. -/
theorem tied_to {L M : List ((Int × Int) × (Int × Int))} (h : ∀ x y, (x, y) ∈ L → Tied M x y) {x y : Int × Int} (t : Tied L x y) : Tied M x y := by
  induction t with
  | mem m => exact h _ _ m
  | refl => exact .refl _
  | symm _ ih => exact .symm ih
  | trans _ _ i1 i2 => exact .trans i1 i2
theorem tied_iff {L : List ((Int × Int) × (Int × Int))} {f : Int × Int → Int × Int} (hc : ∀ x y, (x, y) ∈ L → f x = f y) {x y : Int × Int} (hx : Tied L x (f x)) (hy : Tied L y (f y)) : f x = f y ↔ Tied L x y := by
  constructor
  · intro e
    rw [e] at hx
    exact .trans hx (.symm hy)
  · intro t
    exact (tied_closed (C := fun z => f z = f y) (fun a b m => by show f a = f y ↔ f b = f y; rw [hc a b m]) t).mpr rfl

/-- The ends of joins. -/
def endsJ (L : List ((Int × Int) × (Int × Int))) : List (Int × Int) := L.flatMap fun p => [p.1, p.2]
theorem endsJ_mem {L : List ((Int × Int) × (Int × Int))} {x : Int × Int} : x ∈ endsJ L ↔ ∃ p ∈ L, x = p.1 ∨ x = p.2 := by
  unfold endsJ
  simp

/-- A map with another value at p. -/
def updJ (f : Int × Int → Int × Int) (p v : Int × Int) : Int × Int → Int × Int := fun q => if q = p then v else f q
def lesserJ (a b : Int × Int) : Int × Int := if lessA a b = true then a else b
theorem countP_ltJ {α : Type} {p q : α → Bool} : ∀ {l : List α}, (∀ x ∈ l, p x = true → q x = true) → (∃ x ∈ l, q x = true ∧ p x = false) → l.countP p < l.countP q
  | [], _, h => by obtain ⟨x, hx, _⟩ := h; cases hx
  | a :: l, hm, h => by
    have hle : l.countP p ≤ l.countP q := List.countP_mono_left (fun x hx => hm x (List.mem_cons_of_mem _ hx))
    rw [List.countP_cons, List.countP_cons]
    obtain ⟨x, hx, hq, hp⟩ := h
    rcases List.mem_cons.mp hx with rfl | hx
    · rw [if_pos hq, if_neg (by rw [hp]; simp)]; omega
    · have := countP_ltJ (fun x hx => hm x (List.mem_cons_of_mem _ hx)) ⟨x, hx, hq, hp⟩
      have h2 := hm a (List.mem_cons_self ..)
      cases hpa : p a
      · cases q a <;> simp <;> omega
      · rw [h2 hpa]; simp; omega
theorem sum_ltJ {α : Type} {g h : α → Nat} : ∀ {l : List α}, (∀ x ∈ l, g x ≤ h x) → (∃ x ∈ l, g x < h x) → (l.map g).sum < (l.map h).sum
  | [], _, e => by obtain ⟨x, hx, _⟩ := e; cases hx
  | a :: l, hm, e => by
    have hle : ∀ {m : List α}, (∀ x ∈ m, g x ≤ h x) → (m.map g).sum ≤ (m.map h).sum := by
      intro m
      induction m with
      | nil => intro _; simp
      | cons b m ih =>
        intro hb
        have := ih (fun x hx => hb x (List.mem_cons_of_mem _ hx))
        have := hb b (List.mem_cons_self ..)
        simp only [List.map_cons, List.sum_cons]; omega
    have h1 := hle (fun x hx => hm x (List.mem_cons_of_mem _ hx))
    have h0 := hm a (List.mem_cons_self ..)
    simp only [List.map_cons, List.sum_cons]
    obtain ⟨x, hx, hg⟩ := e
    rcases List.mem_cons.mp hx with rfl | hx
    · omega
    · have := sum_ltJ (fun x hx => hm x (List.mem_cons_of_mem _ hx)) ⟨x, hx, hg⟩
      omega

/-- How many ends lie below z. -/
def rankJ (E : List (Int × Int)) (z : Int × Int) : Nat := E.countP fun e => lessA e z
theorem rankJ_lt {E : List (Int × Int)} (hE : ∀ q ∈ E, isAng q.1 q.2 = true) {x y : Int × Int} (hx : x ∈ E) (hy : y ∈ E) (h : lessA x y = true) : rankJ E x < rankJ E y := by
  unfold rankJ
  exact countP_ltJ (fun z hz h1 => lessA_tr (hE z hz) (hE x hx) (hE y hy) h1 h) ⟨x, hx, h, lessA_self x⟩
/-- What falls with every change of the map of least members. -/
def msrJ (E : List (Int × Int)) (f : Int × Int → Int × Int) : Nat := (E.map fun e => rankJ E (f e)).sum

theorem msrJ_le (E : List (Int × Int)) (f : Int × Int → Int × Int) : msrJ E f ≤ E.length * E.length := by
  unfold msrJ
  have h : ∀ m : List (Int × Int), (m.map fun e => rankJ E (f e)).sum ≤ m.length * E.length := by
    intro m
    induction m with
    | nil => simp
    | cons a m ih =>
      have : rankJ E (f a) ≤ E.length := List.countP_le_length
      simp only [List.map_cons, List.sum_cons, List.length_cons, Nat.succ_mul]
      omega
  exact h E
theorem endsJ_len (L : List ((Int × Int) × (Int × Int))) : (endsJ L).length = 2 * L.length := by
  unfold endsJ
  induction L with
  | nil => rfl
  | cons a L ih => simp only [List.flatMap_cons, List.length_append, ih, List.length_cons, List.length_nil]; omega
theorem endsJ_snoc (L : List ((Int × Int) × (Int × Int))) (p q : Int × Int) : endsJ (L ++ [(p, q)]) = endsJ L ++ [p] ++ [q] := by
  unfold endsJ
  simp

/-- Of the map of least members: each end hangs together with its value, an end. -/
def GoodJ (L : List ((Int × Int) × (Int × Int))) (f : Int × Int → Int × Int) : Prop := ∀ x ∈ endsJ L, Tied L x (f x) ∧ f x ∈ endsJ L
/-- One join of one sweep. -/
def sweepJ (f : Int × Int → Int × Int) (p q : Int × Int) : Int × Int → Int × Int := if f p = f q then f else updJ (updJ f p (lesserJ (f p) (f q))) q (lesserJ (f p) (f q))
theorem lesserJ_or (a b : Int × Int) : lesserJ a b = a ∨ lesserJ a b = b := by
  unfold lesserJ
  split
  · exact .inl rfl
  · exact .inr rfl
theorem updJ_two (f : Int × Int → Int × Int) (p q v x : Int × Int) : updJ (updJ f p v) q v x = if x = p ∨ x = q then v else f x := by
  unfold updJ
  by_cases h1 : x = q
  · rw [if_pos h1, if_pos (.inr h1)]
  · rw [if_neg h1]
    by_cases h2 : x = p
    · rw [if_pos h2, if_pos (.inl h2)]
    · rw [if_neg h2, if_neg (fun h => h.elim h2 h1)]
theorem sweepJ_good {L : List ((Int × Int) × (Int × Int))} {f : Int × Int → Int × Int} (hg : GoodJ L f) {p q : Int × Int} (hm : (p, q) ∈ L) : GoodJ L (sweepJ f p q) := by
  unfold sweepJ
  split
  · exact hg
  · intro x hx
    rw [updJ_two]
    have hp := hg p (endsJ_mem.mpr ⟨_, hm, .inl rfl⟩)
    have hq := hg q (endsJ_mem.mpr ⟨_, hm, .inr rfl⟩)
    have hpl : Tied L p (lesserJ (f p) (f q)) ∧ lesserJ (f p) (f q) ∈ endsJ L := by
      rcases lesserJ_or (f p) (f q) with e | e
      · rw [e]; exact hp
      · rw [e]; exact ⟨.trans (.mem hm) hq.1, hq.2⟩
    split
    · next h =>
      rcases h with rfl | rfl
      · exact hpl
      · exact ⟨.trans (.symm (.mem hm)) hpl.1, hpl.2⟩
    · exact hg x hx
theorem sweepJ_lt {L : List ((Int × Int) × (Int × Int))} {f : Int × Int → Int × Int} (hE : ∀ q ∈ endsJ L, isAng q.1 q.2 = true) (hg : GoodJ L f) {p q : Int × Int} (hm : (p, q) ∈ L) (hne : ¬ f p = f q) : msrJ (endsJ L) (sweepJ f p q) < msrJ (endsJ L) f := by
  have hpe : p ∈ endsJ L := endsJ_mem.mpr ⟨_, hm, .inl rfl⟩
  have hqe : q ∈ endsJ L := endsJ_mem.mpr ⟨_, hm, .inr rfl⟩
  have hp := hg p hpe
  have hq := hg q hqe
  unfold sweepJ msrJ
  rw [if_neg hne]
  have key : (rankJ (endsJ L) (lesserJ (f p) (f q)) ≤ rankJ (endsJ L) (f p) ∧ rankJ (endsJ L) (lesserJ (f p) (f q)) < rankJ (endsJ L) (f q)) ∨ (rankJ (endsJ L) (lesserJ (f p) (f q)) < rankJ (endsJ L) (f p) ∧ rankJ (endsJ L) (lesserJ (f p) (f q)) ≤ rankJ (endsJ L) (f q)) := by
    unfold lesserJ
    cases h : lessA (f p) (f q)
    · rw [if_neg (by simp)]
      rcases lessA_tot (hE _ hp.2) (hE _ hq.2) h with e | e
      · exact absurd e hne
      · exact .inr ⟨rankJ_lt hE hq.2 hp.2 e, Nat.le_refl _⟩
    · rw [if_pos rfl]
      exact .inl ⟨Nat.le_refl _, rankJ_lt hE hp.2 hq.2 h⟩
  refine sum_ltJ ?_ ?_
  · intro x hx
    rw [updJ_two]
    split
    · next h => rcases h with rfl | rfl <;> rcases key with k | k <;> omega
    · exact Nat.le_refl _
  · rcases key with k | k
    · exact ⟨q, hqe, by rw [updJ_two, if_pos (.inr rfl)]; exact k.2⟩
    · exact ⟨p, hpe, by rw [updJ_two, if_pos (.inl rfl)]; exact k.1⟩

/-- The sets of the joins L. -/
structure PartJ (L : List ((Int × Int) × (Int × Int))) (sets : List (List (Int × Int))) : Prop where
  cl : ∀ S ∈ sets, ∀ x ∈ S, ∀ y, y ∈ S ↔ Tied L x y
  en : ∀ p ∈ L, ∃ S ∈ sets, p.1 ∈ S
  ap : sets.Pairwise fun S T => ∀ x ∈ S, x ∉ T
  asc : ∀ S ∈ sets, AscA S ∧ allAng S = true ∧ S ≠ []
def hasJ (p q : Int × Int) (S : List (Int × Int)) : Bool := decide (p ∈ S ∨ q ∈ S)
def ownJ (sets : List (List (Int × Int))) (p q : Int × Int) : List (Int × Int) := (sets.filter (hasJ p q)).foldl (fun o S => S.foldl insA o) (insA (insA [] p) q)
def joinJ (sets : List (List (Int × Int))) (p q : Int × Int) : List (List (Int × Int)) := sets.filter (fun S => !hasJ p q S) ++ [ownJ sets p q]
theorem foldJ_mem : ∀ (sets : List (List (Int × Int))) (o : List (Int × Int)) (z : Int × Int), z ∈ sets.foldl (fun o S => S.foldl insA o) o ↔ z ∈ o ∨ ∃ S ∈ sets, z ∈ S
  | [], o, z => by simp
  | S :: sets, o, z => by
    rw [List.foldl_cons, foldJ_mem sets, foldA_mem]
    simp only [List.mem_cons, exists_eq_or_imp]
    constructor
    · rintro ((h | h) | h)
      · exact .inr (.inl h)
      · exact .inl h
      · exact .inr (.inr h)
    · rintro (h | h | h)
      · exact .inl (.inr h)
      · exact .inl (.inl h)
      · exact .inr h
theorem ownJ_mem {sets : List (List (Int × Int))} {p q z : Int × Int} : z ∈ ownJ sets p q ↔ (z = q ∨ z = p) ∨ ∃ S ∈ sets, (p ∈ S ∨ q ∈ S) ∧ z ∈ S := by
  unfold ownJ
  rw [foldJ_mem, insA_mem, insA_mem]
  simp only [List.not_mem_nil, or_false, List.mem_filter, hasJ, decide_eq_true_eq, and_assoc]
theorem foldJ_asc : ∀ (sets : List (List (Int × Int))) (o : List (Int × Int)), (∀ S ∈ sets, allAng S = true) → AscA o → allAng o = true → AscA (sets.foldl (fun o S => S.foldl insA o) o) ∧ allAng (sets.foldl (fun o S => S.foldl insA o) o) = true
  | [], _, _, h, k => ⟨h, k⟩
  | S :: sets, o, hs, h, k => by
    rw [List.foldl_cons]
    have hS := hs S (List.mem_cons_self ..)
    have hall : ∀ (l o : List (Int × Int)), allAng l = true → allAng o = true → allAng (l.foldl insA o) = true := by
      intro l
      induction l with
      | nil => intro o _ h; exact h
      | cons a l ih =>
        intro o h1 h2
        rw [List.foldl_cons]
        have ha := allAng_mem h1 (List.mem_cons_self ..)
        exact ih _ (by unfold allAng at h1 ⊢; simp only [List.all_cons, Bool.and_eq_true] at h1; exact h1.2) (allAng_insA h2 ha)
    exact foldJ_asc sets _ (fun T hT => hs T (List.mem_cons_of_mem _ hT)) (foldA_asc S o hS h k) (hall S o hS k)

theorem joinJ_part {L : List ((Int × Int) × (Int × Int))} {sets : List (List (Int × Int))} (H : PartJ L sets) {p q : Int × Int} (hp : isAng p.1 p.2 = true) (hq : isAng q.1 q.2 = true) : PartJ (L ++ [(p, q)]) (joinJ sets p q) := by
  have hsub : ∀ r ∈ L, r ∈ L ++ [(p, q)] := fun r hr => List.mem_append.mpr (.inl hr)
  have hnew : (p, q) ∈ L ++ [(p, q)] := List.mem_append.mpr (.inr (List.mem_singleton.mpr rfl))
  have hmem : ∀ S, S ∈ joinJ sets p q ↔ (S ∈ sets ∧ p ∉ S ∧ q ∉ S) ∨ S = ownJ sets p q := by
    intro S
    unfold joinJ
    simp only [List.mem_append, List.mem_filter, hasJ, List.mem_singleton, Bool.not_eq_true', decide_eq_false_iff_not, not_or]
  have hstep : ∀ S ∈ sets, ∀ a b, (a, b) ∈ L → (a ∈ S ↔ b ∈ S) := by
    intro S hS a b hab
    exact ⟨fun h => (H.cl S hS a h b).mpr (.mem hab), fun h => (H.cl S hS b h a).mpr (.symm (.mem hab))⟩
  have hown : ∀ z ∈ ownJ sets p q, Tied (L ++ [(p, q)]) z p := by
    intro z hz
    rcases ownJ_mem.mp hz with (rfl | rfl) | ⟨S, hS, hpq, hzS⟩
    · exact .symm (.mem hnew)
    · exact .refl _
    · rcases hpq with h | h
      · exact tied_mono hsub ((H.cl S hS z hzS p).mp h)
      · exact .trans (tied_mono hsub ((H.cl S hS z hzS q).mp h)) (.symm (.mem hnew))
  have hof : ∀ a b, (a, b) ∈ L → (a ∈ ownJ sets p q ↔ b ∈ ownJ sets p q) := by
    intro a b hab
    obtain ⟨S, hS, haS⟩ := H.en _ hab
    have hbS := (hstep S hS a b hab).mp haS
    constructor
    · intro h
      refine ownJ_mem.mpr (.inr ?_)
      rcases ownJ_mem.mp h with (e | e) | ⟨T, hT, hpq, haT⟩
      · exact ⟨S, hS, .inr (e ▸ haS), hbS⟩
      · exact ⟨S, hS, .inl (e ▸ haS), hbS⟩
      · exact ⟨T, hT, hpq, (hstep T hT a b hab).mp haT⟩
    · intro h
      refine ownJ_mem.mpr (.inr ?_)
      rcases ownJ_mem.mp h with (e | e) | ⟨T, hT, hpq, hbT⟩
      · exact ⟨S, hS, .inr (e ▸ hbS), haS⟩
      · exact ⟨S, hS, .inl (e ▸ hbS), haS⟩
      · exact ⟨T, hT, hpq, (hstep T hT a b hab).mpr hbT⟩
  have hpo : p ∈ ownJ sets p q := ownJ_mem.mpr (.inl (.inr rfl))
  have hqo : q ∈ ownJ sets p q := ownJ_mem.mpr (.inl (.inl rfl))
  constructor
  · intro S hS x hx y
    rcases (hmem S).mp hS with ⟨hS, hpS, hqS⟩ | rfl
    · constructor
      · exact fun hy => tied_mono hsub ((H.cl S hS x hx y).mp hy)
      · intro t
        refine (tied_closed (C := fun z => z ∈ S) ?_ t).mp hx
        intro a b hab
        rcases List.mem_append.mp hab with hab | hab
        · exact hstep S hS a b hab
        · have e := List.mem_singleton.mp hab
          injection e with e1 e2
          subst e1; subst e2
          exact ⟨fun h => absurd h hpS, fun h => absurd h hqS⟩
    · constructor
      · exact fun hy => .trans (hown x hx) (.symm (hown y hy))
      · intro t
        refine (tied_closed (C := fun z => z ∈ ownJ sets p q) ?_ t).mp hx
        intro a b hab
        rcases List.mem_append.mp hab with hab | hab
        · exact hof a b hab
        · have e := List.mem_singleton.mp hab
          injection e with e1 e2
          subst e1; subst e2
          exact ⟨fun _ => hqo, fun _ => hpo⟩
  · intro r hr
    rcases List.mem_append.mp hr with hr | hr
    · obtain ⟨S, hS, h⟩ := H.en r hr
      by_cases hpq : p ∈ S ∨ q ∈ S
      · exact ⟨_, (hmem _).mpr (.inr rfl), ownJ_mem.mpr (.inr ⟨S, hS, hpq, h⟩)⟩
      · exact ⟨S, (hmem _).mpr (.inl ⟨hS, fun h => hpq (.inl h), fun h => hpq (.inr h)⟩), h⟩
    · rw [List.mem_singleton.mp hr]
      exact ⟨_, (hmem _).mpr (.inr rfl), hpo⟩
  · unfold joinJ
    refine List.pairwise_append.mpr ⟨H.ap.filter _, List.pairwise_singleton .., ?_⟩
    intro S hS T hT x hx hxT
    rw [List.mem_singleton.mp hT] at hxT
    simp only [List.mem_filter, hasJ, Bool.not_eq_true', decide_eq_false_iff_not, not_or] at hS
    obtain ⟨hS, hpS, hqS⟩ := hS
    rcases ownJ_mem.mp hxT with (e | e) | ⟨U, hU, hpq, hxU⟩
    · exact hqS (e ▸ hx)
    · exact hpS (e ▸ hx)
    · rcases hpq with h | h
      · exact hpS ((H.cl S hS x hx p).mpr ((H.cl U hU x hxU p).mp h))
      · exact hqS ((H.cl S hS x hx q).mpr ((H.cl U hU x hxU q).mp h))
  · intro S hS
    rcases (hmem S).mp hS with ⟨hS, _, _⟩ | rfl
    · exact H.asc S hS
    · have e0 : allAng (insA [] p) = true := allAng_insA rfl hp
      have a0 : AscA (insA [] p) := insA_asc List.Pairwise.nil rfl hp
      have h := foldJ_asc (sets.filter (hasJ p q)) (insA (insA [] p) q) (fun T hT => (H.asc T (List.mem_filter.mp hT).1).2.1) (insA_asc a0 e0 hq) (allAng_insA e0 hq)
      refine ⟨h.1, h.2, ?_⟩
      intro e
      rw [e] at hpo
      cases hpo

/-- An angle in a map, as it reads. -/
def angElem (v : Value) : Option (DataW Unit × List MemPlace) :=
  match v with
  | .agg xs => (match xs.toList with | [.int .i64 a, .int .i64 b] => some (.agg [.lit (.int .i64 a), .lit (.int .i64 b)], []) | _ => none)
  | _ => none
def aJ (p : Int × Int) : DataW Unit := .agg [.lit (.int .i64 p.1), .lit (.int .i64 p.2)]
theorem angElem_inv {v : Value} {z : DataW Unit × List MemPlace} (h : angElem v = some z) : ∃ p : Int × Int, v = ang p.1 p.2 ∧ z = (aJ p, []) := by
  unfold angElem at h
  split at h
  · split at h
    · next xs _ a b e =>
      obtain ⟨l⟩ := xs
      simp only at e
      subst e
      exact ⟨(a, b), rfl, (Option.some.inj h).symm⟩
    · cases h
  · cases h
theorem aJ_inj {p q : Int × Int} (h : aJ p = aJ q) : p = q := by
  unfold aJ at h
  simp only [DataW.agg.injEq, List.cons.injEq, DataW.lit.injEq, Lit.int.injEq, true_and, and_true] at h
  exact Prod.ext h.1 h.2
theorem zeroAngJ (w : World) : (zeroValue 29).run Try.prog w = .ok (ang 0 0) w := by kernel_rfl

/-- The map reads as f on the keys C. -/
structure MapJ (D : DataW Unit) (C : List (Int × Int)) (f : Int × Int → Int × Int) : Prop where
  is : Maps.IsMap D
  has : ∀ k, Maps.has D k = true ↔ ∃ x ∈ C, kl x = k
  val : ∀ x ∈ C, ∀ z, D.atKey (kl x) z = aJ (f x)
theorem MapJ.empty (f : Int × Int → Int × Int) : MapJ (.map []) [] f := ⟨Maps.isMap_empty, fun k => by simp [Maps.has_eq], by simp⟩
theorem MapJ.put {D : DataW Unit} {C : List (Int × Int)} {f : Int × Int → Int × Int} (H : MapJ D C f) (hC : ∀ q ∈ C, isAng q.1 q.2 = true) {x : Int × Int} (hx : isAng x.1 x.2 = true) (v : Int × Int) : MapJ (D.put (kl x) (aJ v)) (C ++ [x]) (updJ f x v) := by
  refine ⟨H.is.put _ _, fun k => ?_, fun y hy z => ?_⟩
  · by_cases e : kl x = k
    · rw [← e, Maps.has_put_same H.is (kl_key _)]
      simp
    · rw [Maps.has_put_other (fun h => e h.symm), H.has]
      simp [e]
  · unfold updJ
    by_cases e : y = x
    · rw [if_pos e, e]
      exact Maps.atKey_put_same H.is (kl_key _) _ z
    · rw [if_neg e]
      have hyC : y ∈ C := (List.mem_append.mp hy).elim id (fun h => absurd (List.mem_singleton.mp h) e)
      rw [Maps.atKey_put_other (fun h => e (kl_injS (isAng_yes (hC y hyC)) (isAng_yes hx) h)) _ z]
      exact H.val y hyC z
/-- .. where the key is there already. -/
theorem MapJ.turn {D : DataW Unit} {C : List (Int × Int)} {f : Int × Int → Int × Int} (H : MapJ D C f) (hC : ∀ q ∈ C, isAng q.1 q.2 = true) {x : Int × Int} (hx : x ∈ C) (v : Int × Int) : MapJ (D.put (kl x) (aJ v)) C (updJ f x v) := by
  obtain ⟨h1, h2, h3⟩ := H.put hC (hC x hx) v
  refine ⟨h1, fun k => (h2 k).trans ⟨?_, ?_⟩, fun y hy z => h3 y (List.mem_append.mpr (.inl hy)) z⟩
  · rintro ⟨y, hy, e⟩
    rcases List.mem_append.mp hy with h | h
    · exact ⟨y, h, e⟩
    · exact ⟨x, hx, (List.mem_singleton.mp h) ▸ e⟩
  · rintro ⟨y, hy, e⟩
    exact ⟨y, List.mem_append.mpr (.inl hy), e⟩

/-- 'm[k]' in a map of angles to angles. -/
theorem wpList_lookup_angJ {P : Program} (w : World) {ops : Array Oper} {rest : List Oper} {o : Oper} {a : Act} {Q : Exit → Act → World → Prop}
    (hg : o.guard = none) (m x : Operand) (t : TypeId) (hop : o.op = Op.lookup t m x false)
    (k e : TypeId) (K : Maps.Keyed P k) (ht : P.underlying t = some (.map k e)) (hz : (zeroValue e).run P w = .ok (ang 0 0) w) (b n : Nat) (D : DataW Unit)
    (hm : a.eval m = .map (some b)) (hown : w.ownsMap P k angElem b n D) (key : Value) (kl : Lit) (hx : a.eval x = key) (hkey : keyOf P k key = some kl) (p1 p2 : Int) (hc : D.atKey kl (aJ (0, 0)) = aJ (p1, p2))
    (hK : wpList P ops Q rest (a.put o.dst (ang p1 p2)) w) :
    wpList P ops Q (o :: rest) a w := by
  refine wpList_plain hg fun K' hK' => ?_
  obtain ⟨v, ps, hrun, hv⟩ := hown.lookup K ht hz (zd := aJ (0, 0)) (zp := []) rfl hkey
  obtain ⟨c', rfl, hz'⟩ := angElem_inv hv
  simp only [Prod.mk.injEq] at hz'
  rw [hc] at hz'
  have hcc := aJ_inj hz'.1
  subst hcc
  unfold Oper.wp
  simp [execOp, hop, hm, hx, hrun, Result.andThen]
  exact hK' _ _ hK
/-- 'm[k] = v' and 'm[k]' as steps of a region whose order is drawn. -/
theorem step_putJ {P : Program} (w : World) {ops : Array Oper} {o : Oper} {a : Act} {K : Act → World → Prop} {Q : Exit → Act → World → Prop} {E : Prop} (hgd : o.guard = none) (m x v : Operand) (t : TypeId)
    (ho : o.op = Op.mapUpdate t m x v) (k e : TypeId) (K0 : Maps.Keyed P k) (ht : P.underlying t = some (.map k e)) (R : Value → Option (DataW Unit × List MemPlace)) (b n : Nat) (D : DataW Unit)
    (hm : a.eval m = .map (some b)) (hown : w.ownsMap P k R b n D) (hn : n < maxLen) (key val : Value) (kl : Lit) (hx : a.eval x = key) (hv : a.eval v = val) (hkey : keyOf P k key = some kl)
    (d : DataW Unit) (ps : List MemPlace) (hval : R val = some (d, ps))
    (h : ∀ w', w'.ownsMap P k R b (n + 1) (D.put kl d) → w.grownBy w' (some b) → K (a.put o.dst undef) w') :
    if Region.wanted o (yielded ops a.tmps) = true then Oper.wp P o a w K Q else E := by
  obtain ⟨w', hrun, r1, r2⟩ := hown.update K0 ht hn hkey hval
  have hw : Region.wanted o (yielded ops a.tmps) = true := by simp [Region.wanted, hgd]
  rw [if_pos hw]
  unfold Oper.wp
  simp [execOp, ho, hm, hx, hv, hrun, Result.andThen]
  exact h w' r1 r2
theorem step_lookJ {P : Program} (w : World) {ops : Array Oper} {o : Oper} {a : Act} {K : Act → World → Prop} {Q : Exit → Act → World → Prop} {E : Prop} (hgd : o.guard = none) (m x : Operand) (t : TypeId)
    (ho : o.op = Op.lookup t m x false) (k e : TypeId) (K0 : Maps.Keyed P k) (ht : P.underlying t = some (.map k e)) (hz : (zeroValue e).run P w = .ok (ang 0 0) w) (b n : Nat) (D : DataW Unit)
    (hm : a.eval m = .map (some b)) (hown : w.ownsMap P k angElem b n D) (key : Value) (kl : Lit) (hx : a.eval x = key) (hkey : keyOf P k key = some kl) (p1 p2 : Int) (hc : D.atKey kl (aJ (0, 0)) = aJ (p1, p2))
    (h : K (a.put o.dst (ang p1 p2)) w) :
    if Region.wanted o (yielded ops a.tmps) = true then Oper.wp P o a w K Q else E := by
  obtain ⟨v, ps, hrun, hv⟩ := hown.lookup K0 ht hz (zd := aJ (0, 0)) (zp := []) rfl hkey
  obtain ⟨c', rfl, hz'⟩ := angElem_inv hv
  simp only [Prod.mk.injEq] at hz'
  rw [hc] at hz'
  have hcc := aJ_inj hz'.1
  subst hcc
  have hw : Region.wanted o (yielded ops a.tmps) = true := by simp [Region.wanted, hgd]
  rw [if_pos hw]
  unfold Oper.wp
  simp [execOp, ho, hm, hx, hrun, Result.andThen]
  exact h

/-- The step of a range over a map of angles to angles: nothing is left; or one of the keys comes. -/
theorem wpList_next_angJ (w : World) {ops : Array Oper} {rest : List Oper} {o : Oper} {a : Act} {Q : Exit → Act → World → Prop} (hg : o.guard = none) (it : Operand) (hop : o.op = Op.next it false)
    (b r n : Nat) (D : DataW Unit) (C : List (Int × Int)) (f : Int × Int → Int × Int) (hM : MapJ D C f) (hC : ∀ q ∈ C, isAng q.1 q.2 = true) (left : Lit → Bool) (cnt : Nat)
    (hit : a.eval it = .pointer (some ⟨r, 0, none⟩)) (h : w.ranges Try.prog 29 angElem b r n D left cnt)
    (hDone : (∀ k, left k = false) → wpList Try.prog ops Q rest (a.put o.dst (.tuple #[.bool false])) w)
    (hMore : ∀ (x : Int × Int) (w' : World) (cnt' : Nat), x ∈ C → left (kl x) = true → w'.ranges Try.prog 29 angElem b r n D (fun z => left z && !z.sameKey (kl x)) cnt' → cnt' < cnt →
      w.grownBy w' (some r) → w'.heap.size = w.heap.size → (Instr.entry (.pointer (some ⟨r, 0, none⟩))).run Try.prog w' = .ok (.tuple #[ang x.1 x.2, ang (f x).1 (f x).2]) w' → wpList Try.prog ops Q rest (a.put o.dst (.tuple #[.bool true, ang x.1 x.2, ang (f x).1 (f x).2])) w') :
    wpList Try.prog ops Q (o :: rest) a w := by
  refine wpList_plain hg fun K' hK' => ?_
  unfold Oper.wp
  rcases h.next angLawS o.type with ⟨h0, hl0, hrun⟩ | ⟨key, v, kl0, y, w', cnt', hkey, hlk, hv, hat, hrun, hrg, hlt, hgr, hsz, hen⟩
  · simp [execOp, hop, hit, hrun, Result.andThen]
    exact hK' _ _ (hDone hl0)
  · have hhas := Maps.has_true_of_atKey hat
    obtain ⟨x, hx, rfl⟩ := (hM.has _).1 hhas
    have hr := isAng_yes (hC x hx)
    obtain rfl := angLawS.inj hkey (angKeyS x.1 x.2 (red_wfS hr).1 (red_wfS hr).2)
    obtain ⟨p, rfl, hy⟩ := angElem_inv hv
    have hp : p = f x := aJ_inj ((congrArg Prod.fst hy).symm.trans ((hat (aJ (0, 0))).symm.trans (hM.val x hx _)))
    subst hp
    simp [execOp, hop, hit, hrun, Result.andThen]
    exact hK' _ _ (hMore x w' cnt' hx hlk hrg hlt hgr hsz hen)

/-- A leaf as a join. -/
def pJ (q : Lf4) : (Int × Int) × (Int × Int) := ((q.1, q.2.1), (q.2.2.1, q.2.2.2))
def angsL (l : List Lf4) : Prop := ∀ q ∈ l, isAng q.1 q.2.1 = true ∧ isAng q.2.2.1 q.2.2.2 = true
theorem ends_ang {l : List Lf4} (h : angsL l) : ∀ q ∈ endsJ (l.map pJ), isAng q.1 q.2 = true := by
  intro q hq
  obtain ⟨p, hp, e⟩ := endsJ_mem.mp hq
  obtain ⟨x, hx, rfl⟩ := List.mem_map.mp hp
  rcases e with rfl | rfl
  · exact (h x hx).1
  · exact (h x hx).2
theorem angsL_take {l : List Lf4} (h : angsL l) (k : Nat) : angsL (l.take k) := fun q hq => h q (List.mem_of_mem_take hq)
theorem updJ_id (x : Int × Int) : updJ id x x = id := by
  funext q
  unfold updJ
  split
  · next h => exact h.symm
  · rfl

/-- The map, when k joins have laid down their ends. -/
structure LeastA (w : World) (J : Nat) (l : List Lf4) (k : Nat) (W : World) : Prop where
  mp : ∃ D, W.ownsMap Try.prog 29 angElem J (2 * k) D ∧ MapJ D (endsJ ((l.take k).map pJ)) id
  B : Below w.heap.size w W
  lo : w.heap.size ≤ J
/-- .. while the ends are led to lesser ones. -/
structure LeastB (w : World) (J : Nat) (l : List Lf4) (N0 : Nat) (f : Int × Int → Int × Int) (W : World) : Prop where
  mp : ∃ n D, W.ownsMap Try.prog 29 angElem J n D ∧ n + 2 * msrJ (endsJ (l.map pJ)) f ≤ N0 ∧ MapJ D (endsJ (l.map pJ)) f
  gd : GoodJ (l.map pJ) f
  B : Below w.heap.size w W
  lo : w.heap.size ≤ J
/-- What is known of a sweep that has come to the join j. -/
structure SweepJ (l : List Lf4) (f f' : Int × Int → Int × Int) (j : Nat) (ch : Bool) : Prop where
  no : ch = false → f' = f ∧ ∀ q ∈ l.take j, f (pJ q).1 = f (pJ q).2
  yes : ch = true → msrJ (endsJ (l.map pJ)) f' < msrJ (endsJ (l.map pJ)) f
theorem SweepJ.start (l : List Lf4) (f : Int × Int → Int × Int) : SweepJ l f f 0 false := ⟨fun _ => ⟨rfl, by simp⟩, by simp⟩
theorem SweepJ.keep {l : List Lf4} {f f' : Int × Int → Int × Int} {j : Nat} {ch : Bool} (H : SweepJ l f f' j ch) {q : Lf4} (hq : l[j]? = some q) (e : f' (pJ q).1 = f' (pJ q).2) : SweepJ l f f' (j + 1) ch := by
  refine ⟨fun h => ?_, H.yes⟩
  obtain ⟨rfl, h2⟩ := H.no h
  refine ⟨rfl, fun x hx => ?_⟩
  rw [List.take_add_one, hq, Option.toList_some, List.mem_append] at hx
  rcases hx with hx | hx
  · exact h2 x hx
  · rw [List.mem_singleton.mp hx]; exact e
theorem SweepJ.turn {l : List Lf4} (hl : angsL l) {f f' : Int × Int → Int × Int} {j : Nat} {ch : Bool} (H : SweepJ l f f' j ch) {q : Lf4} (hq : l[j]? = some q) (hg : GoodJ (l.map pJ) f') (e : ¬ f' (pJ q).1 = f' (pJ q).2) : msrJ (endsJ (l.map pJ)) (sweepJ f' (pJ q).1 (pJ q).2) < msrJ (endsJ (l.map pJ)) f' ∧ SweepJ l f (sweepJ f' (pJ q).1 (pJ q).2) (j + 1) true ∧ GoodJ (l.map pJ) (sweepJ f' (pJ q).1 (pJ q).2) := by
  have hm : ((pJ q).1, (pJ q).2) ∈ l.map pJ := List.mem_map.mpr ⟨q, List.mem_of_getElem? hq, rfl⟩
  have h1 := sweepJ_lt (ends_ang hl) hg hm e
  refine ⟨h1, ⟨by simp, fun _ => ?_⟩, sweepJ_good hg hm⟩
  cases ch
  · obtain ⟨rfl, -⟩ := H.no rfl
    exact h1
  · exact Nat.lt_trans h1 (H.yes rfl)
theorem lf_lesser (a b c d : Int) : (lfA a b c d, lfB a b c d) = lesserJ (a, b) (c, d) := by
  unfold lfA lfB lesserJ lessA
  split <;> simp_all

/-- What the map holds in the end. -/
def LeastIs (w : World) (l : List Lf4) (J : Nat) (f : Int × Int → Int × Int) (W : World) : Prop :=
  (∃ n D, W.ownsMap Try.prog 29 angElem J n D ∧ n ≤ 2 * l.length + 2 * (2 * l.length * (2 * l.length)) ∧ MapJ D (endsJ (l.map pJ)) f) ∧ GoodJ (l.map pJ) f ∧ (∀ q ∈ l, f (pJ q).1 = f (pJ q).2) ∧ Below w.heap.size w W ∧ w.heap.size ≤ J

theorem belowGJ {W W1 : World} (hb : Below W.heap.size W W1) : W.grownBy W1 none := ⟨hb.os, hb.tape, hb.output, hb.size, fun i hi _ => hb.block i hi⟩
theorem run_lookJ {W : World} {n0 : Nat} {J : Nat} {D : DataW Unit} (h : W.ownsMap Try.prog 29 angElem J n0 D) {a b x y : Int} (hk : keyOf Try.prog 29 (ang a b) = some (kl (a, b))) (hat : ∀ z, D.atKey (kl (a, b)) z = aJ (x, y)) : (Instr.lookup 71 (.map (some J)) (ang a b) false).run Try.prog W = .ok (ang x y) W := by
  obtain ⟨v, ps, hrun, hv⟩ := h.lookup angLawS (t := 71) Try.underlying71 (zeroAngJ W) (zd := aJ (0, 0)) (zp := []) rfl hk
  obtain ⟨c', rfl, hz'⟩ := angElem_inv hv
  have := aJ_inj ((congrArg Prod.fst hz').symm.trans (hat _))
  subst this
  exact hrun
theorem neqAngJ (a1 a2 b1 b2 : Int) (W : World) : (binOp .neq 29 (ang a1 a2) (ang b1 b2)).run Try.prog W = .ok (.bool (!decide ((a1, a2) = (b1, b2)))) W := by
  by_cases h1 : a1 = b1
  · by_cases h2 : a2 = b2
    · subst h1 h2
      simp [go_sem]
    · subst h1
      simp [go_sem, h2]
  · simp [go_sem, h1]
theorem field0J (a b c d : Int) (W : World) : (Instr.field 31 (leafV a b c d) 0).run Try.prog W = .ok (ang a b) W := by
  first | kernel_rfl | simp [go_sem, leafV]
/-- What is known behind the two look-ups. -/
structure CutJ (W2 : World) (F G : Nat) (x y u v : Int) (W : World) : Prop where
  zF : F < W.heap.size
  zG : G < W.heap.size
  f0 : W.cell? ⟨F, 0, none⟩ = some (.int .i64 x)
  f1 : W.cell? ⟨F, 1, none⟩ = some (.int .i64 y)
  g0 : W.cell? ⟨G, 0, none⟩ = some (.int .i64 u)
  g1 : W.cell? ⟨G, 1, none⟩ = some (.int .i64 v)
  B : Below W2.heap.size W2 W

set_option maxRecDepth 100000 in
set_option maxHeartbeats 4000000 in
theorem implLeast (A : Option Addr) (len cap : Nat) (l : List Lf4) (w : World) (hr : LfRow w w.heap.size A l) (hl : l.length = len) (hm : len ≤ 1000000) (ha : angsL l) :
    Calls Try.prog 42 #[.slice A len cap] w fun e w' => ∃ J f, e = .returned (.map (some J)) ∧ LeastIs w l J f w' := by
  have hmm := @run_makeMap Try.prog
  have HAll := Lib.hid ha
  have HR := Lib.hid hr
  have HL := Lib.hid hl
  have HLen := Lib.hid hm
  clear hr hl ha hm
  obtain ⟨J, hJ⟩ : ∃ J, w.heap.size = J := ⟨_, rfl⟩
  have HS : Hid (LeastA w J l 0 (w.alloc (.map #[] 0))) := Lib.hid ⟨⟨_, hJ ▸ World.ownsMap_made _ _ _ _, MapJ.empty _⟩, belowAlloc (Below.refl _ _) _, by omega⟩
  go_enter Try.func42, Try.ntmps42
  go_wp2_with fail
  clear hmm
  go_loopg [15] len (fun g s15 wr => ∃ k : Nat, k + g = len ∧ s15 = .int .i64 k ∧ Hid (LeastA w J l k wr))
  case atStart => exact ⟨0, by omega, rfl, HS⟩
  case round =>
    clear HS
    obtain ⟨k, hkg, rfl, HI⟩ := hrel
    cases gk with
    | succ g =>
      have hlt : k < len := by omega
      obtain ⟨⟨n, d, m, c⟩, hq⟩ : ∃ q, l[k]? = some q := ⟨_, List.getElem?_eq_getElem (by have := HL.out; omega)⟩
      obtain ⟨b0, off, rfl, hb0, hc⟩ := HR.out (by rintro rfl; cases hq)
      obtain ⟨x0, x1, x2, x3⟩ := hc k n d m c hq
      have y0 := cellThru HI.out.B hb0 x0
      have y1 := cellThru HI.out.B hb0 x1
      have y2 := cellThru HI.out.B hb0 x2
      have y3 := cellThru HI.out.B hb0 x3
      have hp := HAll.out _ (List.mem_of_getElem? hq)
      have HP := Lib.hid hp
      have HK1 := Lib.hid (angKeyS n d (red_wfS (o := ((n, d) : Int × Int)) (isAng_yes hp.1)).1 (red_wfS (o := ((n, d) : Int × Int)) (isAng_yes hp.1)).2)
      have HK2 := Lib.hid (angKeyS m c (red_wfS (o := ((m, c) : Int × Int)) (isAng_yes hp.2)).1 (red_wfS (o := ((m, c) : Int × Int)) (isAng_yes hp.2)).2)
      have HQ := Lib.hid hq
      have HLm : Hid (2 * k < maxLen ∧ 2 * k + 1 < maxLen) := Lib.hid (by have := HLen.out; unfold maxLen; omega)
      obtain ⟨D, hD, hM⟩ := HI.out.mp
      have HM := Lib.hid hM
      have hJw : J < wr.heap.size := hD.lt
      have hlo := HI.out.lo
      have HM1 := Lib.hid (hD.alloc (.cells #[.int .i64 n, .int .i64 d, .int .i64 m, .int .i64 c] 31))
      have HB1 := Lib.hid (belowAlloc HI.out.B (.cells #[.int .i64 n, .int .i64 d, .int .i64 m, .int .i64 c] 31))
      clear hq hc x0 x1 x2 x3 hp hD hM
      go_wp2_with fail
      have c0 : (wr.alloc (.cells #[.int .i64 n, .int .i64 d, .int .i64 m, .int .i64 c] 31)).cell? ⟨wr.heap.size, 0, none⟩ = some (.int .i64 n) := by simp [go_sem]
      have c1 : (wr.alloc (.cells #[.int .i64 n, .int .i64 d, .int .i64 m, .int .i64 c] 31)).cell? ⟨wr.heap.size, 1, none⟩ = some (.int .i64 d) := by simp [go_sem]
      have c2 : (wr.alloc (.cells #[.int .i64 n, .int .i64 d, .int .i64 m, .int .i64 c] 31)).cell? ⟨wr.heap.size, 2, none⟩ = some (.int .i64 m) := by simp [go_sem]
      have c3 : (wr.alloc (.cells #[.int .i64 n, .int .i64 d, .int .i64 m, .int .i64 c] 31)).cell? ⟨wr.heap.size, 3, none⟩ = some (.int .i64 c) := by simp [go_sem]
      have hsz : wr.heap.size < (wr.alloc (.cells #[.int .i64 n, .int .i64 d, .int .i64 m, .int .i64 c] 31)).heap.size := by simp
      have hsn : some wr.heap.size ≠ some J := fun e => by have := Option.some.inj e; omega
      clear y0 y1 y2 y3
      generalize wr.alloc (.cells #[.int .i64 n, .int .i64 d, .int .i64 m, .int .i64 c] 31) = W2 at *
      obtain ⟨w6, hrun6, hm6, hg6⟩ := HM1.out.drew.update angLawS (t := 71) Try.underlying71 HLm.out.1 HK1.out (val := ang n d) (d := aJ (n, d)) (ps := []) rfl
      have k0 : w6.cell? ⟨wr.heap.size, 0, none⟩ = some (.int .i64 n) := (cellGS hg6 hsz hsn c0)
      have k1 : w6.cell? ⟨wr.heap.size, 1, none⟩ = some (.int .i64 d) := (cellGS hg6 hsz hsn c1)
      have k2 : w6.cell? ⟨wr.heap.size, 2, none⟩ = some (.int .i64 m) := (cellGS hg6 hsz hsn c2)
      have k3 : w6.cell? ⟨wr.heap.size, 3, none⟩ = some (.int .i64 c) := (cellGS hg6 hsz hsn c3)
      obtain ⟨w7, hrun7, hm7, hg7⟩ := hm6.update angLawS (t := 71) Try.underlying71 HLm.out.2 HK2.out (val := ang m c) (d := aJ (m, c)) (ps := []) rfl
      have HM6 := Lib.hid (And.intro hm6 hg6)
      have HM7 := Lib.hid (And.intro hm7 hg7)
      clear hm6 hg6 hm7 hg7
      go_region
      all_goals
        have B6 : Below w.heap.size w w6 := HB1.out.drew.grown HM6.out.2 HB1.out.size (fun j hj => by have := Option.some.inj hj; omega)
        have B7 : Below w.heap.size w w7 := B6.grown HM7.out.2 B6.size (fun j hj => by have := Option.some.inj hj; omega)
        have HI7 : Hid (LeastA w J l (k + 1) w7) := Lib.hid ⟨⟨_, HM7.out.1, by
            have h1 := HM.out.put (ends_ang (angsL_take HAll.out k)) (x := ((n, d) : Int × Int)) HP.out.1 (n, d)
            have h2 := h1.put (fun q hq => (List.mem_append.mp hq).elim (ends_ang (angsL_take HAll.out k) q) (fun h => (List.mem_singleton.mp h) ▸ HP.out.1)) (x := ((m, c) : Int × Int)) HP.out.2 (m, c)
            rw [updJ_id, updJ_id] at h2
            rw [List.take_add_one, HQ.out, Option.toList_some, List.map_append]
            show MapJ _ (endsJ ((l.take k).map pJ ++ [((n, d), (m, c))])) id
            rw [endsJ_snoc]
            exact h2⟩, B7, hlo⟩
        clear B6 B7 HM6 HM7 HM1 HI HM HB1
        have hlen := HLen.out
        go_wp2
        go_roundg g
        case measure => omega
        case rel => exact ⟨k + 1, by omega, by go_num, HI7⟩
    | zero =>
      obtain rfl : k = len := by omega
      have e2 : l.take k = l := by rw [← HL.out, List.take_length]
      obtain ⟨N0, hN0⟩ : ∃ N, 2 * k + 2 * (2 * k * (2 * k)) = N := ⟨_, rfl⟩
      have HNm : Hid (N0 < maxLen) := Lib.hid (by
        have := HLen.out
        have : 2 * k * (2 * k) ≤ 2000000 * 2000000 := Nat.mul_le_mul (by omega) (by omega)
        unfold maxLen; omega)
      have HS2 : Hid (LeastB w J l N0 id wr) := Lib.hid (by
        obtain ⟨D, hD, hM⟩ := HI.out.mp
        rw [e2] at hM
        refine ⟨⟨2 * k, D, hD, ?_, hM⟩, fun x hx => ⟨.refl x, hx⟩, HI.out.B, HI.out.lo⟩
        have h1 := msrJ_le (endsJ (l.map pJ)) id
        rw [endsJ_len, List.length_map, HL.out] at h1
        omega)
      have HN0 := Lib.hid hN0
      have HT0 : Hid (true = false → ∀ q ∈ l, id (pJ q).1 = id (pJ q).2) := Lib.hid (fun h => by cases h)
      clear HI e2 hN0 hkg
      go_wp2_with fail
      go_loopg [6] (msrJ (endsJ (l.map pJ)) id + 1) (fun g s6 wr => ∃ (ch : Bool) (f : Int × Int → Int × Int), g = msrJ (endsJ (l.map pJ)) f + (if ch = true then 1 else 0) ∧ s6 = .bool ch ∧ Hid (LeastB w J l N0 f wr) ∧ Hid (ch = false → ∀ q ∈ l, f (pJ q).1 = f (pJ q).2))
      case atStart => exact ⟨true, id, rfl, rfl, HS2, HT0⟩
      case round =>
        clear HS2 HT0
        obtain ⟨ch, f, hgk, rfl, HI, HF⟩ := hrel
        cases ch
        · have hFin : LeastIs w l J f wr := by
            obtain ⟨n, D, hD, hn, hM⟩ := HI.out.mp
            refine ⟨⟨n, D, hD, ?_, hM⟩, HI.out.gd, HF.out rfl, HI.out.B, HI.out.lo⟩
            have := HN0.out
            rw [HL.out]
            omega
          have HFin := Lib.hid hFin
          clear hFin HI HF
          go_wp2
          first | go_ret2 | go_ret
          exact ⟨J, f, rfl, HFin.out⟩
        · have HS3 : Hid (SweepJ l f f 0 false) := Lib.hid (SweepJ.start l f)
          have HGk := Lib.hid hgk
          clear hgk HF
          go_wp2_with fail
          go_loopg [6, 33] k (fun g s6 s33 wx => ∃ (j : Nat) (ch : Bool) (f' : Int × Int → Int × Int), j + g = k ∧ s33 = .int .i64 j ∧ s6 = .bool ch ∧ Hid (LeastB w J l N0 f' wx) ∧ Hid (SweepJ l f f' j ch))
          case atStart => exact ⟨0, false, f, by omega, rfl, rfl, HI, HS3⟩
          case round =>
            clear HI HS3
            obtain ⟨j, ch, f', hjg, rfl, rfl, HI, HS⟩ := hrel
            cases gk with
            | zero =>
              obtain rfl : j = k := by omega
              have hlt : msrJ (endsJ (l.map pJ)) f' + (if ch = true then 1 else 0) < msrJ (endsJ (l.map pJ)) f + 1 := by
                cases ch
                · rw [(HS.out.no rfl).1]; simp
                · have := HS.out.yes rfl
                  simp; omega
              have hT : ch = false → ∀ q ∈ l, f' (pJ q).1 = f' (pJ q).2 := by
                intro h
                obtain ⟨rfl, h2⟩ := HS.out.no h
                intro q hq
                exact h2 q (by rw [← HL.out, List.take_length]; exact hq)
              have HT := Lib.hid hT
              have HLt := Lib.hid hlt
              clear hT hlt HS hjg
              go_wp2
              go_roundg (msrJ (endsJ (l.map pJ)) f' + (if ch = true then 1 else 0))
              case measure => have := HLt.out; have := HGk.out; simp at this; omega
              case rel => exact ⟨ch, f', rfl, rfl, HI, HT⟩
            | succ g =>
              have hlt : j < k := by omega
              have hlen := HLen.out
              obtain ⟨⟨n, d, m, c⟩, hq⟩ : ∃ q, l[j]? = some q := ⟨_, List.getElem?_eq_getElem (by have := HL.out; omega)⟩
              obtain ⟨b0, off, rfl, hb0, hc⟩ := HR.out (by rintro rfl; cases hq)
              obtain ⟨x0, x1, x2, x3⟩ := hc j n d m c hq
              have y0 := cellThru HI.out.B hb0 x0
              have y1 := cellThru HI.out.B hb0 x1
              have y2 := cellThru HI.out.B hb0 x2
              have y3 := cellThru HI.out.B hb0 x3
              have hp := HAll.out _ (List.mem_of_getElem? hq)
              have HE1 : Hid (((n, d) : Int × Int) ∈ endsJ (l.map pJ)) := Lib.hid (endsJ_mem.mpr ⟨_, List.mem_map.mpr ⟨_, List.mem_of_getElem? hq, rfl⟩, .inl rfl⟩)
              have HE2 : Hid (((m, c) : Int × Int) ∈ endsJ (l.map pJ)) := Lib.hid (endsJ_mem.mpr ⟨_, List.mem_map.mpr ⟨_, List.mem_of_getElem? hq, rfl⟩, .inr rfl⟩)
              have HK1 := Lib.hid (angKeyS n d (red_wfS (o := ((n, d) : Int × Int)) (isAng_yes hp.1)).1 (red_wfS (o := ((n, d) : Int × Int)) (isAng_yes hp.1)).2)
              have HK2 := Lib.hid (angKeyS m c (red_wfS (o := ((m, c) : Int × Int)) (isAng_yes hp.2)).1 (red_wfS (o := ((m, c) : Int × Int)) (isAng_yes hp.2)).2)
              have HQ := Lib.hid hq
              obtain ⟨n0, D, hD, hn0, hM⟩ := HI.out.mp
              have HM := Lib.hid hM
              have HN := Lib.hid hn0
              have hJw : J < wr.heap.size := hD.lt
              have hlo := HI.out.lo
              obtain ⟨⟨x, y⟩, hx⟩ : ∃ z, f' (n, d) = z := ⟨_, rfl⟩
              obtain ⟨⟨u, v⟩, hu⟩ : ∃ z, f' (m, c) = z := ⟨_, rfl⟩
              have hat1 : ∀ z, D.atKey (kl (n, d)) z = aJ (x, y) := fun z => hx ▸ hM.val _ HE1.out z
              have hat2 : ∀ z, D.atKey (kl (m, c)) z = aJ (u, v) := fun z => hu ▸ hM.val _ HE2.out z
              have okX : angOk x y := isAng_ok (by have := ends_ang HAll.out _ (HI.out.gd _ HE1.out).2; rw [hx] at this; exact this)
              have okU : angOk u v := isAng_ok (by have := ends_ang HAll.out _ (HI.out.gd _ HE2.out).2; rw [hu] at this; exact this)
              have HX := Lib.hid hx
              have HU := Lib.hid hu
              have HLB := Lib.hid (fun W => implLB x y u v W okX okU)
              have HM1 := Lib.hid (hD.alloc (.cells #[.int .i64 n, .int .i64 d, .int .i64 m, .int .i64 c] 31))
              have HB1 := Lib.hid (belowAlloc HI.out.B (.cells #[.int .i64 n, .int .i64 d, .int .i64 m, .int .i64 c] 31))
              have HJG := Lib.hid hjg
              clear hq hc x0 x1 x2 x3 hp hD hM hn0 hx hu okX okU hjg
              go_upto_region 13 with fail
              have c0 : (wr.alloc (.cells #[.int .i64 n, .int .i64 d, .int .i64 m, .int .i64 c] 31)).cell? ⟨wr.heap.size, 0, none⟩ = some (.int .i64 n) := by simp [go_sem]
              have c1 : (wr.alloc (.cells #[.int .i64 n, .int .i64 d, .int .i64 m, .int .i64 c] 31)).cell? ⟨wr.heap.size, 1, none⟩ = some (.int .i64 d) := by simp [go_sem]
              have c2 : (wr.alloc (.cells #[.int .i64 n, .int .i64 d, .int .i64 m, .int .i64 c] 31)).cell? ⟨wr.heap.size, 2, none⟩ = some (.int .i64 m) := by simp [go_sem]
              have c3 : (wr.alloc (.cells #[.int .i64 n, .int .i64 d, .int .i64 m, .int .i64 c] 31)).cell? ⟨wr.heap.size, 3, none⟩ = some (.int .i64 c) := by simp [go_sem]
              have hsz : wr.heap.size < (wr.alloc (.cells #[.int .i64 n, .int .i64 d, .int .i64 m, .int .i64 c] 31)).heap.size := by simp
              have hsn : some wr.heap.size ≠ some J := fun e => by have := Option.some.inj e; omega
              clear y0 y1 y2 y3
              generalize wr.alloc (.cells #[.int .i64 n, .int .i64 d, .int .i64 m, .int .i64 c] 31) = W2 at *
              have la1 := run_lookJ HM1.out.drew HK1.out hat1
              have la2 := run_lookJ HM1.out.drew HK2.out hat2
              have lb1 := fun (o : Obj) => run_lookJ (HM1.out.alloc o).drew HK1.out hat1
              have lb2 := fun (o : Obj) => run_lookJ (HM1.out.alloc o).drew HK2.out hat2
              have lc1 := fun (o o' : Obj) => run_lookJ ((HM1.out.alloc o).alloc o').drew HK1.out hat1
              have lc2 := fun (o o' : Obj) => run_lookJ ((HM1.out.alloc o).alloc o').drew HK2.out hat2
              have hsA : wr.heap.size < W2.heap.size + 1 := by omega
              have hsB : wr.heap.size < W2.heap.size + 1 + 1 := by omega
              go_cut [9, 10, 33] from 33 to 60 (fun s9 s10 s33 wy => ∃ F G, s9 = .pointer (some ⟨F, 0, none⟩) ∧ s10 = .pointer (some ⟨G, 0, none⟩) ∧ s33 = .int .i64 j ∧ Hid (CutJ W2 F G x y u v wy))
              case first =>
                go_region
                all_goals
                  go_wp2_with fail
                  go_meet
                  refine ⟨_, _, rfl, rfl, rfl, Lib.hid ⟨?_, ?_, ?_, ?_, ?_, ?_, ?_⟩⟩
                  all_goals first | (simp; done) | (simp; omega) | (simp [go_sem]; done) | ((repeat' (first | (with_reducible exact Below.refl _ _) | (with_reducible assumption) | (with_reducible refine belowNext ?_ (by with_reducible assumption)) | (with_reducible refine belowAlloc ?_ _) | (with_reducible refine Below.drew ?_) | (with_reducible refine below_drewN ?_ _) | (with_reducible refine Below.setCell ?_ ?_ _) | go_size | (with_reducible refine sizeOf' ?_) | (with_reducible refine sizeAdd ?_) | (dsimp only; first | (with_reducible refine sizeOf' ?_) | (with_reducible refine sizeAdd ?_)))))
              case rest =>
                obtain ⟨F, G, rfl, rfl, rfl, HC⟩ := hcut
                clear la1 la2 lb1 lb2 lc1 lc2 hsA hsB hat1 hat2
                have hBc := HC.out.B
                have hzF := HC.out.zF
                have hzG := HC.out.zG
                have f0 := HC.out.f0
                have f1 := HC.out.f1
                have g0 := HC.out.g0
                have g1 := HC.out.g1
                have c0 := cellThru hBc hsz c0
                have c1 := cellThru hBc hsz c1
                have c2 := cellThru hBc hsz c2
                have c3 := cellThru hBc hsz c3
                have hsz := Nat.lt_of_lt_of_le hsz hBc.size
                have HM2 := Lib.hid (HM1.out.kept (belowGJ hBc) (by simp))
                have HB2 := Lib.hid (HB1.out.trans (hBc.mono HB1.out.size))
                have Q := neqAngJ x y u v
                clear HM1 HB1 HC hBc
                by_cases e : ((x, y) : Int × Int) = (u, v)
                · have HS7 := Lib.hid (HS.out.keep HQ.out (show f' (n, d) = f' (m, c) by rw [HX.out, HU.out]; exact e))
                  have HI7 : Hid (LeastB w J l N0 f' wc) := Lib.hid ⟨⟨n0, D, HM2.out, HN.out, HM.out⟩, HI.out.gd, HB2.out, hlo⟩
                  rw [decide_eq_true e] at Q
                  clear e HI HS HM2 HB2
                  go_wp2_with fail
                  go_roundg g
                  case measure => omega
                  case rel => exact ⟨j + 1, ch, f', by have := HJG.out; omega, by go_num, rfl, HI7, HS7⟩
                · have hne : ¬ f' (pJ (n, d, m, c)).1 = f' (pJ (n, d, m, c)).2 := by
                    show ¬ f' (n, d) = f' (m, c)
                    rw [HX.out, HU.out]
                    exact e
                  obtain ⟨hlt2, hS7, hG7⟩ := HS.out.turn HAll.out HQ.out HI.out.gd hne
                  have hL := lf_lesser x y u v
                  rw [decide_eq_false e] at Q
                  have HLt2 := Lib.hid hlt2
                  have HS7 := Lib.hid hS7
                  have HG7 := Lib.hid hG7
                  obtain ⟨X, hX⟩ : ∃ X, lfA x y u v = X := ⟨_, rfl⟩
                  obtain ⟨Y, hY⟩ : ∃ Y, lfB x y u v = Y := ⟨_, rfl⟩
                  rw [hX, hY] at hL
                  rw [hX, hY] at HLB
                  have hsw : sweepJ f' (pJ (n, d, m, c)).1 (pJ (n, d, m, c)).2 = updJ (updJ f' (n, d) (X, Y)) (m, c) (X, Y) := by
                    unfold sweepJ
                    rw [if_neg hne]
                    show updJ (updJ f' (n, d) (lesserJ (f' (n, d)) (f' (m, c)))) (m, c) (lesserJ (f' (n, d)) (f' (m, c))) = _
                    rw [HX.out, HU.out, ← hL]
                  have HSw := Lib.hid hsw
                  have HLm : Hid (n0 < maxLen ∧ n0 + 1 < maxLen) := Lib.hid (by have := HN.out; have := HNm.out; omega)
                  generalize lfC x y u v = X3 at *
                  generalize lfD x y u v = Y3 at *
                  clear e hlt2 hS7 hG7 hX hY hsw hne hL HS
                  have hfl : ∀ W, (Instr.field 31 (leafV X Y X3 Y3) 0).run Try.prog W = .ok (ang X Y) W := fun W => field0J X Y X3 Y3 W
                  go_wp2_with fail
                  refine (HLB.out _).mono ?_
                  rintro e w5 ⟨rfl, hb5⟩
                  have hz5 := hb5.size
                  have c0 := cellThru hb5 hsz c0
                  have c1 := cellThru hb5 hsz c1
                  have c2 := cellThru hb5 hsz c2
                  have c3 := cellThru hb5 hsz c3
                  have hsz : wr.heap.size < w5.heap.size := by omega
                  have HM5 := Lib.hid ((HM2.out.kept (belowGJ hb5) (by simp)).alloc (.cells #[.int .i64 X, .int .i64 Y] 29))
                  have HB5 := Lib.hid (belowAlloc (HB2.out.trans (hb5.mono HB2.out.size)) (.cells #[.int .i64 X, .int .i64 Y] 29))
                  clear hb5 HM2 HB2 f0 f1 g0 g1 HLB
                  go_wp2_with fail
                  have e0 : (w5.alloc (.cells #[.int .i64 X, .int .i64 Y] 29)).cell? ⟨w5.heap.size, 0, none⟩ = some (.int .i64 X) := by simp [go_sem]
                  have e1 : (w5.alloc (.cells #[.int .i64 X, .int .i64 Y] 29)).cell? ⟨w5.heap.size, 1, none⟩ = some (.int .i64 Y) := by simp [go_sem]
                  have c0 : (w5.alloc (.cells #[.int .i64 X, .int .i64 Y] 29)).cell? ⟨wr.heap.size, 0, none⟩ = some (.int .i64 n) := by rw [World.cell?_alloc_past _ _ _ hsz]; exact c0
                  have c1 : (w5.alloc (.cells #[.int .i64 X, .int .i64 Y] 29)).cell? ⟨wr.heap.size, 1, none⟩ = some (.int .i64 d) := by rw [World.cell?_alloc_past _ _ _ hsz]; exact c1
                  have c2 : (w5.alloc (.cells #[.int .i64 X, .int .i64 Y] 29)).cell? ⟨wr.heap.size, 2, none⟩ = some (.int .i64 m) := by rw [World.cell?_alloc_past _ _ _ hsz]; exact c2
                  have c3 : (w5.alloc (.cells #[.int .i64 X, .int .i64 Y] 29)).cell? ⟨wr.heap.size, 3, none⟩ = some (.int .i64 c) := by rw [World.cell?_alloc_past _ _ _ hsz]; exact c3
                  have hsx : w5.heap.size < (w5.alloc (.cells #[.int .i64 X, .int .i64 Y] 29)).heap.size := by simp
                  have hsz : wr.heap.size < (w5.alloc (.cells #[.int .i64 X, .int .i64 Y] 29)).heap.size := by simp; omega
                  have hj5 : some w5.heap.size ≠ some J := fun e => by have := Option.some.inj e; omega
                  generalize w5.alloc (.cells #[.int .i64 X, .int .i64 Y] 29) = W5 at *
                  obtain ⟨w6, hrun6, hm6, hg6⟩ := HM5.out.drew.update angLawS (t := 71) Try.underlying71 HLm.out.1 HK1.out (val := ang X Y) (d := aJ (X, Y)) (ps := []) rfl
                  have k0 : w6.cell? ⟨wr.heap.size, 0, none⟩ = some (.int .i64 n) := (cellGS hg6 hsz hsn c0)
                  have k1 : w6.cell? ⟨wr.heap.size, 1, none⟩ = some (.int .i64 d) := (cellGS hg6 hsz hsn c1)
                  have k2 : w6.cell? ⟨wr.heap.size, 2, none⟩ = some (.int .i64 m) := (cellGS hg6 hsz hsn c2)
                  have k3 : w6.cell? ⟨wr.heap.size, 3, none⟩ = some (.int .i64 c) := (cellGS hg6 hsz hsn c3)
                  have k4 : w6.cell? ⟨w5.heap.size, 0, none⟩ = some (.int .i64 X) := (cellGS hg6 hsx hj5 e0)
                  have k5 : w6.cell? ⟨w5.heap.size, 1, none⟩ = some (.int .i64 Y) := (cellGS hg6 hsx hj5 e1)
                  obtain ⟨w7, hrun7, hm7, hg7⟩ := hm6.update angLawS (t := 71) Try.underlying71 HLm.out.2 HK2.out (val := ang X Y) (d := aJ (X, Y)) (ps := []) rfl
                  have B6 : Below w.heap.size w w6 := HB5.out.drew.grown hg6 HB5.out.size (fun j hj => by have := Option.some.inj hj; omega)
                  have B7 : Below w.heap.size w w7 := B6.grown hg7 B6.size (fun j hj => by have := Option.some.inj hj; omega)
                  have HI7 : Hid (LeastB w J l N0 (updJ (updJ f' (n, d) (X, Y)) (m, c) (X, Y)) w7) := Lib.hid ⟨⟨n0 + 1 + 1, _, hm7, by
                      have h1 := HLt2.out
                      rw [HSw.out] at h1
                      have h2 := HN.out
                      omega, (HM.out.turn (ends_ang HAll.out) HE1.out (X, Y)).turn (ends_ang HAll.out) HE2.out (X, Y)⟩, HSw.out ▸ HG7.out, B7, hlo⟩
                  have HS8 : Hid (SweepJ l f (updJ (updJ f' (n, d) (X, Y)) (m, c) (X, Y)) (j + 1) true) := Lib.hid (HSw.out ▸ HS7.out)
                  clear hm6 hg6 hm7 hg7 B6 B7 HM5 HB5 HI HM HN
                  go_region
                  all_goals
                    go_wp2_with fail
                    go_roundg g
                    case measure => omega
                    case rel => exact ⟨j + 1, true, _, by have := HJG.out; omega, by go_num, rfl, HI7, HS8⟩

/-- Angles in a block from lo on that is not the block g. -/
def InnerS (W : World) (lo : Nat) (g : Option Nat) (A : Option Addr) (l : List (Int × Int)) : Prop :=
  l ≠ [] → ∃ b off, A = some ⟨b, off, none⟩ ∧ lo ≤ b ∧ b < W.heap.size ∧ some b ≠ g ∧ ∀ i n d, l[i]? = some (n, d) →
    W.cell? ⟨b, off + i * 2, none⟩ = some (.int .i64 n) ∧ W.cell? ⟨b, off + i * 2 + 1, none⟩ = some (.int .i64 d) ∧ W.frozen? ⟨b, off + i * 2, none⟩ = false ∧ W.frozen? ⟨b, off + i * 2 + 1, none⟩ = false
theorem InnerS.own {W : World} {lo : Nat} {g : Option Nat} {A : Option Addr} {l : List (Int × Int)} (h : InnerS W lo g A l) : AngOwn W lo A l := by
  intro hl
  obtain ⟨b, off, e, h1, h2, _, hc⟩ := h hl
  exact ⟨b, off, e, h1, h2, hc⟩
theorem InnerS.next {W W' : World} {lo : Nat} {g : Option Nat} {A : Option Addr} {l : List (Int × Int)} (h : InnerS W lo g A l) (hb : Below W.heap.size W W') : InnerS W' lo g A l := by
  intro hl
  obtain ⟨b, off, e, h1, h2, h3, hc⟩ := h hl
  refine ⟨b, off, e, h1, Nat.lt_of_lt_of_le h2 hb.size, h3, fun i n d hi => ?_⟩
  obtain ⟨a1, a2, a3, a4⟩ := hc i n d hi
  exact ⟨(hb.cell (p := ⟨b, _, none⟩) h2).trans a1, (hb.cell (p := ⟨b, _, none⟩) h2).trans a2, (hb.frozen (p := ⟨b, _, none⟩) h2).trans a3, (hb.frozen (p := ⟨b, _, none⟩) h2).trans a4⟩
/-- What a callee has just made lies in no older block. -/
theorem InnerS.fresh {W : World} {lo lo' : Nat} {g : Option Nat} {A : Option Addr} {l : List (Int × Int)} (h : AngOwn W lo' A l) (hlo : lo ≤ lo') (hg : ∀ b, g = some b → b < lo') : InnerS W lo g A l := by
  intro hl
  obtain ⟨b, off, e, h1, h2, hc⟩ := h hl
  exact ⟨b, off, e, Nat.le_trans hlo h1, h2, fun e => by have := hg b e.symm; omega, hc⟩
theorem InnerS.turn {W W2 : World} {lo : Nat} {g g' : Option Nat} {A : Option Addr} {l : List (Int × Int)} (h : InnerS W lo g A l) (hg : W.grownBy W2 g) (hv : g' = g ∨ ∃ b, g' = some b ∧ W.heap.size ≤ b) : InnerS W2 lo g' A l := by
  intro hl
  obtain ⟨b, off, e, h1, h2, h3, hc⟩ := h hl
  have hne : some b ≠ g' := by
    rcases hv with rfl | ⟨c, rfl, hc⟩
    · exact h3
    · intro e
      have := Option.some.inj e
      omega
  refine ⟨b, off, e, h1, Nat.lt_of_lt_of_le h2 hg.size, hne, fun i n d hi => ?_⟩
  obtain ⟨a1, a2, a3, a4⟩ := hc i n d hi
  have hbk := hg.block b h2 h3
  exact ⟨(World.cell?_of_block (a := ⟨b, off + i * 2, none⟩) hbk).trans a1, (World.cell?_of_block (a := ⟨b, off + i * 2 + 1, none⟩) hbk).trans a2, (World.frozen?_of_block (a := ⟨b, off + i * 2, none⟩) hbk).trans a3, (World.frozen?_of_block (a := ⟨b, off + i * 2 + 1, none⟩) hbk).trans a4⟩

/-- A row of slices, owned, whose cells are xs, that hold the lists ls. -/
structure SetsAt (W : World) (lo : Nat) (v : Value) (ls : List (List (Int × Int))) (xs : List Value) : Prop where
  own : W.ownsRow lo 73 1 v ls.length xs
  got : ∀ (i : Nat) (l : List (Int × Int)), ls[i]? = some l → ∃ A cap, xs[i]? = some (.slice A l.length cap) ∧ InnerS W lo v.ownBlock A l
theorem SetsAt.nil {W : World} {lo : Nat} : SetsAt W lo (.slice none 0 0) [] [] := ⟨ownNone, by simp⟩
theorem SetsAt.next {W W' : World} {lo : Nat} {v : Value} {ls : List (List (Int × Int))} {xs : List Value} (h : SetsAt W lo v ls xs) (hb : Below W.heap.size W W') : SetsAt W' lo v ls xs :=
  ⟨ownTurnL h.own (belowGJ hb) (fun j e => by cases e), fun i l hi => by
    obtain ⟨A, cap, h1, h2⟩ := h.got i l hi
    exact ⟨A, cap, h1, h2.next hb⟩⟩
theorem SetsAt.push {W W2 : World} {lo : Nat} {v v' : Value} {ls : List (List (Int × Int))} {xs : List Value} (h : SetsAt W lo v ls xs) {A : Option Addr} {cap : Nat} {l : List (Int × Int)} (hA : InnerS W lo v.ownBlock A l)
    (hown : W2.ownsRow lo 73 1 v' (ls.length + 1) (xs ++ [.slice A l.length cap])) (hg : W.grownBy W2 v.ownBlock) (hv : v'.ownBlock = v.ownBlock ∨ ∃ b, v'.ownBlock = some b ∧ W.heap.size ≤ b) :
    SetsAt W2 lo v' (ls ++ [l]) (xs ++ [.slice A l.length cap]) := by
  have hl : xs.length = ls.length := by have := h.own.1; omega
  refine ⟨by simpa using hown, fun i m hi => ?_⟩
  by_cases e : i < ls.length
  · rw [List.getElem?_append_left e] at hi
    obtain ⟨B, c, h1, h2⟩ := h.got i m hi
    exact ⟨B, c, by rw [List.getElem?_append_left (by omega)]; exact h1, h2.turn hg hv⟩
  · have hil : i < (ls ++ [l]).length := (List.getElem?_eq_some_iff.1 hi).1
    simp at hil
    obtain rfl : i = ls.length := by omega
    rw [List.getElem?_append_right (Nat.le_refl _), Nat.sub_self] at hi
    simp at hi
    subst hi
    exact ⟨A, cap, by rw [List.getElem?_append_right (by omega), hl, Nat.sub_self]; rfl, hA.turn hg hv⟩
/-- Slices in blocks of their own, one after another. -/
def DisX (hi : Nat) (xs : List Value) : Prop := (∀ x ∈ xs, ∀ b, x.ownBlock = some b → b < hi) ∧ xs.Pairwise fun x y => ∀ b, x.ownBlock = some b → y.ownBlock ≠ some b
theorem DisX.one {hi : Nat} {x : Value} (h : ∀ b, x.ownBlock = some b → b < hi) : DisX hi [x] := ⟨by simpa using h, by simp⟩
theorem DisX.push {hi hi' : Nat} {xs : List Value} {x : Value} (h : DisX hi xs) (hh : hi ≤ hi') (hx : ∀ b, x.ownBlock = some b → hi ≤ b ∧ b < hi') : DisX hi' (xs ++ [x]) := by
  refine ⟨fun y hy b hb => ?_, List.pairwise_append.mpr ⟨h.2, by simp, fun y hy z hz b hb hc => ?_⟩⟩
  · rcases List.mem_append.mp hy with hy | hy
    · exact Nat.lt_of_lt_of_le (h.1 y hy b hb) hh
    · rw [List.mem_singleton.mp hy] at hb
      exact (hx b hb).2
  · rw [List.mem_singleton.mp hz] at hc
    have h1 := h.1 y hy b hb
    have h2 := (hx b hc).1
    omega
theorem InnerS.block {W : World} {lo : Nat} {g : Option Nat} {A : Option Addr} {l : List (Int × Int)} (h : InnerS W lo g A l) (hl : l ≠ []) {n c b : Nat} (hb : (Value.slice A n c).ownBlock = some b) : lo ≤ b ∧ b < W.heap.size := by
  obtain ⟨b', off, rfl, h1, h2, _⟩ := h hl
  have : b' = b := by simpa [Value.ownBlock] using hb
  omega
theorem AngOwn.block {W : World} {lo : Nat} {A : Option Addr} {l : List (Int × Int)} (h : AngOwn W lo A l) (hl : l ≠ []) {n c b : Nat} (hb : (Value.slice A n c).ownBlock = some b) : lo ≤ b ∧ b < W.heap.size := by
  obtain ⟨b', off, rfl, h1, h2, _⟩ := h hl
  have : b' = b := by simpa [Value.ownBlock] using hb
  omega

/-- A map, k times. -/
def itJ (D : Int × Int → Int × Int) : Nat → Int × Int → Int × Int
  | 0, x => x
  | k + 1, x => D (itJ D k x)
theorem itJ_in (D : Int × Int → Int × Int) : ∀ (k : Nat) (x : Int × Int), itJ D k (D x) = itJ D (k + 1) x
  | 0, _ => rfl
  | k + 1, x => by
    show D (itJ D k (D x)) = D (itJ D (k + 1) x)
    rw [itJ_in D k x]
theorem itJ_add (D : Int × Int → Int × Int) (i : Nat) : ∀ (k : Nat) (x : Int × Int), itJ D (k + i) x = itJ D k (itJ D i x)
  | 0, x => by rw [Nat.zero_add]; rfl
  | k + 1, x => by
    rw [Nat.add_right_comm]
    show D (itJ D (k + i) x) = D (itJ D k (itJ D i x))
    rw [itJ_add D i k x]

/-- D leads joins to joins, and each end comes again. -/
structure LedJ (L : List ((Int × Int) × (Int × Int))) (D : Int × Int → Int × Int) (n : Nat) : Prop where
  led : ∀ x y, (x, y) ∈ L → (D x, D y) ∈ L ∨ (D y, D x) ∈ L
  pos : 0 < n
  back : ∀ x ∈ endsJ L, itJ D n x = x
  ang : ∀ x ∈ endsJ L, isAng x.1 x.2 = true
theorem LedJ.tm {L : List ((Int × Int) × (Int × Int))} {D : Int × Int → Int × Int} {n : Nat} (H : LedJ L D n) : ∀ x y, (x, y) ∈ L → Tied L (D x) (D y) := fun x y m => (H.led x y m).elim .mem fun h => .symm (.mem h)
theorem LedJ.ends {L : List ((Int × Int) × (Int × Int))} {D : Int × Int → Int × Int} {n : Nat} (H : LedJ L D n) {x : Int × Int} (hx : x ∈ endsJ L) : D x ∈ endsJ L := by
  obtain ⟨⟨p, q⟩, hp, e⟩ := endsJ_mem.mp hx
  rcases e with rfl | rfl
  · exact (H.led _ _ hp).elim (fun h => endsJ_mem.mpr ⟨_, h, .inl rfl⟩) (fun h => endsJ_mem.mpr ⟨_, h, .inr rfl⟩)
  · exact (H.led _ _ hp).elim (fun h => endsJ_mem.mpr ⟨_, h, .inr rfl⟩) (fun h => endsJ_mem.mpr ⟨_, h, .inl rfl⟩)
theorem LedJ.itEnds {L : List ((Int × Int) × (Int × Int))} {D : Int × Int → Int × Int} {n : Nat} (H : LedJ L D n) {x : Int × Int} (hx : x ∈ endsJ L) : ∀ k, itJ D k x ∈ endsJ L
  | 0 => hx
  | k + 1 => H.ends (H.itEnds hx k)
theorem tied_ends {L : List ((Int × Int) × (Int × Int))} {x y : Int × Int} (t : Tied L x y) (hx : x ∈ endsJ L) : y ∈ endsJ L :=
  (tied_closed (C := fun z => z ∈ endsJ L) (fun _ _ m => ⟨fun _ => endsJ_mem.mpr ⟨_, m, .inr rfl⟩, fun _ => endsJ_mem.mpr ⟨_, m, .inl rfl⟩⟩) t).mp hx
theorem LedJ.tiedIt {L : List ((Int × Int) × (Int × Int))} {D : Int × Int → Int × Int} {n : Nat} (H : LedJ L D n) {x y : Int × Int} (t : Tied L x y) : ∀ k, Tied L (itJ D k x) (itJ D k y)
  | 0 => t
  | k + 1 => tied_map H.tm (H.tiedIt t k)
theorem LedJ.tiedBack {L : List ((Int × Int) × (Int × Int))} {D : Int × Int → Int × Int} {n : Nat} (H : LedJ L D n) {x y : Int × Int} (hx : x ∈ endsJ L) (hy : y ∈ endsJ L) (t : Tied L (D x) (D y)) : Tied L x y := by
  have h := H.tiedIt t (n - 1)
  have hn := H.pos
  rw [itJ_in, itJ_in, show n - 1 + 1 = n by omega, H.back x hx, H.back y hy] at h
  exact h
/-- What hangs together later hung together at the start. -/
theorem LedJ.tiedFirst {L : List ((Int × Int) × (Int × Int))} {D : Int × Int → Int × Int} {n : Nat} (H : LedJ L D n) {a : Int × Int} (ha : a ∈ endsJ L) (k : Nat) : ∀ i, Tied L (itJ D i a) (itJ D (k + i) a) → Tied L a (itJ D k a)
  | 0, t => t
  | i + 1, t => H.tiedFirst ha k i (H.tiedBack (H.itEnds ha i) (H.itEnds ha (k + i)) t)

/-- S: the class of x, sorted. -/
structure ClsJ (L : List ((Int × Int) × (Int × Int))) (x : Int × Int) (S : List (Int × Int)) : Prop where
  mem : ∀ y, y ∈ S ↔ Tied L x y
  asc : AscA S
  ang : allAng S = true
theorem ClsJ.uniq {L : List ((Int × Int) × (Int × Int))} {x : Int × Int} {S T : List (Int × Int)} (h : ClsJ L x S) (k : ClsJ L x T) : S = T := ascA_uniq S T h.asc k.asc fun q => (h.mem q).trans (k.mem q).symm
theorem ClsJ.tied {L : List ((Int × Int) × (Int × Int))} {x x' : Int × Int} {S : List (Int × Int)} (h : ClsJ L x S) (t : Tied L x x') : ClsJ L x' S := ⟨fun y => (h.mem y).trans ⟨fun u => .trans (.symm t) u, fun u => .trans t u⟩, h.asc, h.ang⟩
theorem ClsJ.same {L : List ((Int × Int) × (Int × Int))} {x x' : Int × Int} {S T : List (Int × Int)} (h : ClsJ L x S) (k : ClsJ L x' T) : S = T ↔ Tied L x x' := by
  constructor
  · rintro rfl
    exact (h.mem x').mp ((k.mem x').mpr (.refl _))
  · intro t
    exact (h.tied t).uniq k
theorem allAng_of {l : List (Int × Int)} (h : ∀ q ∈ l, isAng q.1 q.2 = true) : allAng l = true := by
  unfold allAng
  simp only [List.all_eq_true]
  exact fun q hq => h q hq
theorem LedJ.clsDouble {L : List ((Int × Int) × (Int × Int))} {D : Int × Int → Int × Int} {n : Nat} (H : LedJ L D n) {x : Int × Int} (hx : x ∈ endsJ L) {S : List (Int × Int)} (h : ClsJ L x S) : ClsJ L (D x) (insAll (S.map D)) := by
  have hall : allAng (S.map D) = true := allAng_of fun q hq => by
    obtain ⟨z, hz, rfl⟩ := List.mem_map.mp hq
    exact H.ang _ (H.ends (tied_ends ((h.mem z).mp hz) hx))
  refine ⟨fun y => ?_, insAll_asc hall, allAng_ins hall⟩
  rw [insAll_mem, List.mem_map]
  constructor
  · rintro ⟨z, hz, rfl⟩
    exact tied_map H.tm ((h.mem z).mp hz)
  · intro t
    have hy := tied_ends t (H.ends hx)
    have hn := H.pos
    refine ⟨itJ D (n - 1) y, (h.mem _).mpr ?_, ?_⟩
    · have := H.tiedIt t (n - 1)
      rw [itJ_in, show n - 1 + 1 = n by omega, H.back x hx] at this
      exact this
    · show itJ D (n - 1 + 1) y = y
      rw [show n - 1 + 1 = n by omega, H.back y hy]
theorem LedJ.clsIt {L : List ((Int × Int) × (Int × Int))} {D : Int × Int → Int × Int} {n : Nat} (H : LedJ L D n) {x : Int × Int} (hx : x ∈ endsJ L) {S : List (Int × Int)} (h : ClsJ L x S) : ∀ k, ∃ T, ClsJ L (itJ D k x) T
  | 0 => ⟨S, h⟩
  | k + 1 => by
    obtain ⟨T, hT⟩ := H.clsIt hx h k
    exact ⟨_, H.clsDouble (H.itEnds hx k) hT⟩

/-- The sorted class, told by a map of least members (impl's way). -/
theorem cls_least {L : List ((Int × Int) × (Int × Int))} {f : Int × Int → Int × Int} (hg : GoodJ L f) (hc : ∀ p ∈ L, f p.1 = f p.2) (hA : ∀ x ∈ endsJ L, isAng x.1 x.2 = true) {a : Int × Int} (ha : a ∈ endsJ L) {l : List (Int × Int)} (hl : ∀ y, y ∈ l ↔ y ∈ endsJ L ∧ f y = f a) : ClsJ L a (insAll l) := by
  have hall : allAng l = true := allAng_of fun q hq => hA q ((hl q).mp hq).1
  refine ⟨fun y => ?_, insAll_asc hall, allAng_ins hall⟩
  rw [insAll_mem, hl]
  constructor
  · rintro ⟨hy, e⟩
    exact (tied_iff (fun x y m => hc (x, y) m) (hg a ha).1 (hg y hy).1).mp e.symm
  · intro t
    have hy := tied_ends t ha
    exact ⟨hy, ((tied_iff (fun x y m => hc (x, y) m) (hg a ha).1 (hg y hy).1).mpr t).symm⟩
/-- .. and among the sets that are joined (spec's way): one of them has the end x, and it is its class. -/
theorem PartJ.cls {L : List ((Int × Int) × (Int × Int))} {sets : List (List (Int × Int))} (H : PartJ L sets) {x : Int × Int} (hx : x ∈ endsJ L) : ∃ S, sets.filter (fun S => decide (x ∈ S)) = [S] ∧ ClsJ L x S := by
  obtain ⟨p, hp, e⟩ := endsJ_mem.mp hx
  obtain ⟨S, hS, hpS⟩ := H.en p hp
  have hxS : x ∈ S := by
    rcases e with rfl | rfl
    · exact hpS
    · exact (H.cl S hS _ hpS _).mpr (.mem hp)
  refine ⟨S, ?_, fun y => H.cl S hS x hxS y, (H.asc S hS).1, (H.asc S hS).2.1⟩
  have hap := H.ap
  clear H
  induction sets with
  | nil => cases hS
  | cons T sets ih =>
    obtain ⟨h1, h2⟩ := List.pairwise_cons.mp hap
    rcases List.mem_cons.mp hS with rfl | hS
    · rw [List.filter_cons_of_pos (by simpa using hxS)]
      have : sets.filter (fun S => decide (x ∈ S)) = [] := by
        rw [List.filter_eq_nil_iff]
        intro U hU
        simpa using h1 U hU x hxS
      rw [this]
    · have hxT : x ∉ T := fun h => h1 S hS x h hxS
      rw [List.filter_cons_of_neg (by simpa using hxT)]
      exact ih hS h2
/-- The joins one after another make the sets. -/
theorem part_nil : PartJ [] [] := ⟨by simp, by simp, List.Pairwise.nil, by simp⟩

/-- The joins of two orbits, in the order in which they are met. -/
def pairJ (D : Int × Int → Int × Int) (a b : Int × Int) (n : Nat) : List ((Int × Int) × (Int × Int)) := (List.range n).map fun i => (itJ D i a, itJ D i b)
theorem pairJ_mem {D : Int × Int → Int × Int} {a b : Int × Int} {n : Nat} {p : (Int × Int) × (Int × Int)} : p ∈ pairJ D a b n ↔ ∃ i, i < n ∧ p = (itJ D i a, itJ D i b) := by
  unfold pairJ
  simp only [List.mem_map, List.mem_range]
  exact ⟨fun ⟨i, hi, e⟩ => ⟨i, hi, e.symm⟩, fun ⟨i, hi, e⟩ => ⟨i, hi, e.symm⟩⟩
theorem pairJ_next (D : Int × Int → Int × Int) (a b : Int × Int) (n : Nat) : pairJ D a b (n + 1) = pairJ D a b n ++ [(itJ D n a, itJ D n b)] := by
  unfold pairJ
  rw [List.range_succ, List.map_append]
  rfl
/-- Joins that are those of two orbits, one end first or the other. -/
theorem led_pairs {D : Int × Int → Int × Int} {a b : Int × Int} {n : Nat} (hn : 0 < n) (ha : itJ D n a = a) (hb : itJ D n b = b) (hA : ∀ i, i < n → isAng (itJ D i a).1 (itJ D i a).2 = true) (hB : ∀ i, i < n → isAng (itJ D i b).1 (itJ D i b).2 = true)
    {L : List ((Int × Int) × (Int × Int))} (h1 : ∀ x y, (x, y) ∈ L → (x, y) ∈ pairJ D a b n ∨ (y, x) ∈ pairJ D a b n) (h2 : ∀ i, i < n → (itJ D i a, itJ D i b) ∈ L ∨ (itJ D i b, itJ D i a) ∈ L) : LedJ L D n := by
  have hback : ∀ (c : Int × Int), itJ D n c = c → ∀ i, itJ D n (itJ D i c) = itJ D i c := by
    intro c hc i
    rw [← itJ_add, Nat.add_comm, itJ_add, hc]
  have hnext : ∀ i, i < n → (D (itJ D i a), D (itJ D i b)) ∈ L ∨ (D (itJ D i b), D (itJ D i a)) ∈ L := by
    intro i hi
    by_cases e : i + 1 < n
    · exact h2 (i + 1) e
    · have e2 : i + 1 = n := by omega
      have ea : D (itJ D i a) = a := by show itJ D (i + 1) a = a; rw [e2, ha]
      have eb : D (itJ D i b) = b := by show itJ D (i + 1) b = b; rw [e2, hb]
      rw [ea, eb]
      exact h2 0 hn
  have hend : ∀ x ∈ endsJ L, ∃ i, i < n ∧ (x = itJ D i a ∨ x = itJ D i b) := by
    intro x hx
    obtain ⟨⟨p, q⟩, hp, e⟩ := endsJ_mem.mp hx
    rcases h1 p q hp with h | h
    all_goals
      obtain ⟨i, hi, e3⟩ := pairJ_mem.mp h
      injection e3 with e4 e5
      subst e4
      subst e5
      refine ⟨i, hi, ?_⟩
      rcases e with e | e
    · exact .inl e
    · exact .inr e
    · exact .inr e
    · exact .inl e
  refine ⟨fun x y m => ?_, hn, fun x hx => ?_, fun x hx => ?_⟩
  · rcases h1 x y m with h | h
    all_goals
      obtain ⟨i, hi, e⟩ := pairJ_mem.mp h
      injection e with e1 e2
      subst e1
      subst e2
    · exact hnext i hi
    · exact (hnext i hi).symm
  · obtain ⟨i, hi, e | e⟩ := hend x hx
    · rw [e]; exact hback a ha i
    · rw [e]; exact hback b hb i
  · obtain ⟨i, hi, e | e⟩ := hend x hx
    · rw [e]; exact hA i hi
    · rw [e]; exact hB i hi
/-- The sets that follow a first one by doubling. -/
def tJ (D : Int × Int → Int × Int) (S : List (Int × Int)) : Nat → List (Int × Int)
  | 0 => S
  | k + 1 => insAll ((tJ D S k).map D)
theorem LedJ.tCls {L : List ((Int × Int) × (Int × Int))} {D : Int × Int → Int × Int} {n : Nat} (H : LedJ L D n) {a : Int × Int} (ha : a ∈ endsJ L) {S : List (Int × Int)} (h : ClsJ L a S) : ∀ k, ClsJ L (itJ D k a) (tJ D S k)
  | 0 => h
  | k + 1 => H.clsDouble (H.itEnds ha k) (H.tCls ha h k)
/-- The set after n doublings is the first one. -/
theorem LedJ.tBack {L : List ((Int × Int) × (Int × Int))} {D : Int × Int → Int × Int} {n : Nat} (H : LedJ L D n) {a : Int × Int} (ha : a ∈ endsJ L) {S : List (Int × Int)} (h : ClsJ L a S) : tJ D S n = S := by
  have h1 := H.tCls ha h n
  rw [H.back a ha] at h1
  exact h1.uniq h
/-- Where an angle of the orbit is met in an earlier set, a set as many doublings on is the first one. -/
theorem LedJ.seenFirst {L : List ((Int × Int) × (Int × Int))} {D : Int × Int → Int × Int} {n : Nat} (H : LedJ L D n) {a : Int × Int} (ha : a ∈ endsJ L) {S : List (Int × Int)} (h : ClsJ L a S) {i k : Nat} (hik : i < k) (hm : itJ D k a ∈ tJ D S i) : tJ D S (k - i) = S := by
  have t := ((H.tCls ha h i).mem _).mp hm
  have t2 := H.tiedFirst ha (k - i) i (by rw [show k - i + i = k by omega]; exact t)
  exact ((h.same (H.tCls ha h (k - i))).mpr t2).symm
theorem LedJ.seenAt {L : List ((Int × Int) × (Int × Int))} {D : Int × Int → Int × Int} {n : Nat} (H : LedJ L D n) {a : Int × Int} (ha : a ∈ endsJ L) {S : List (Int × Int)} (h : ClsJ L a S) {k : Nat} (e : tJ D S k = S) : itJ D k a ∈ S := by
  have h1 := (H.tCls ha h k).mem (itJ D k a)
  rw [e] at h1
  exact h1.mpr (.refl _)
/-- The number of the sets: both ways of stopping stop there. -/
structure StopJ (D : Int × Int → Int × Int) (S : List (Int × Int)) (k : Nat) : Prop where
  pos : 0 < k
  end_ : tJ D S k = S
  none : ∀ j, 0 < j → j < k → ¬ tJ D S j = S
theorem LedJ.stop {L : List ((Int × Int) × (Int × Int))} {D : Int × Int → Int × Int} {n : Nat} (H : LedJ L D n) {a : Int × Int} (ha : a ∈ endsJ L) {S : List (Int × Int)} (h : ClsJ L a S) : ∃ k, k ≤ n ∧ StopJ D S k := by
  have : ∀ m, 0 < m → tJ D S m = S → ∃ k, k ≤ m ∧ StopJ D S k := by
    intro m
    induction m using Nat.strongRecOn with
    | ind m ih =>
      intro hm e
      by_cases hj : ∃ j, 0 < j ∧ j < m ∧ tJ D S j = S
      · obtain ⟨j, h0, h1, h2⟩ := hj
        obtain ⟨k, hk, hs⟩ := ih j h1 h0 h2
        exact ⟨k, by omega, hs⟩
      · exact ⟨m, Nat.le_refl _, hm, e, fun j h0 h1 h2 => hj ⟨j, h0, h1, h2⟩⟩
  exact this n H.pos (H.tBack ha h)
/-- .. spec's: an angle of the orbit that lies in an earlier set. -/
theorem LedJ.stopSeen {L : List ((Int × Int) × (Int × Int))} {D : Int × Int → Int × Int} {n : Nat} (H : LedJ L D n) {a : Int × Int} (ha : a ∈ endsJ L) {S : List (Int × Int)} (h : ClsJ L a S) {k : Nat} (hs : StopJ D S k) {j : Nat} (hj : j ≤ k) : (∃ i, i < j ∧ itJ D j a ∈ tJ D S i) ↔ j = k := by
  constructor
  · rintro ⟨i, hi, hm⟩
    have e := H.seenFirst ha h hi hm
    by_cases hk : j - i < k
    · exact absurd e (hs.none (j - i) (by omega) hk)
    · omega
  · rintro rfl
    exact ⟨0, hs.pos, H.seenAt ha h hs.end_⟩
end Go.Proofs.Ytdmppdfncbljoaa

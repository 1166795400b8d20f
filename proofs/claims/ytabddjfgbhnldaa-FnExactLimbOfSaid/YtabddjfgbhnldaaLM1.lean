/-
  Plain mathematics: the limb of an angle, as the wakes around it tell it and as the least lower angle tells it. No program in sight.
-/
import Derived.Test.YtabddjfgbhnldaaRB
namespace Go.Proofs.Ytabddjfgbhnldaa
open Go.RowKit

/-- The angle belongs to the wake or is one of its ends. -/
def clsX (x : Int × Int) (p : Lf4) : Bool := insX x p || inP x p
/-- A step of the search for the pair with the least lower angle. -/
def limS (x : Int × Int) (s : Lf4 × Bool) (p : Lf4) : Lf4 × Bool := if clsX x p then (if !s.2 || lowLt p s.1 then (p, true) else s) else s
def limF (x : Int × Int) (l : List Lf4) : Lf4 × Bool := l.foldl (limS x) ((0, 0, 0, 0), false)
theorem limF_next {x : Int × Int} {l : List Lf4} {k : Nat} {p : Lf4} (h : l[k]? = some p) : limF x (l.take (k + 1)) = limS x (limF x (l.take k)) p := by
  unfold limF
  rw [List.take_add_one, h, List.foldl_append]
  rfl
theorem limF_none {x : Int × Int} : ∀ {l : List Lf4} {s : Lf4 × Bool}, (∀ p ∈ l, clsX x p = false) → l.foldl (limS x) s = s
  | [], _, _ => rfl
  | p :: l, s, h => by
    rw [List.foldl_cons, show limS x s p = s from by unfold limS; rw [h p (List.mem_cons_self ..)]; rfl]
    exact limF_none fun q hq => h q (List.mem_cons_of_mem _ hq)
theorem limF_min {x : Int × Int} {q : Lf4} (hq : clsX x q = true) : ∀ {l : List Lf4} {s : Lf4 × Bool}, (∀ p ∈ l, clsX x p = true → p = q ∨ lowLt q p = true) → (s.2 = false ∨ s = (q, true) ∨ lowLt q s.1 = true) → (s = (q, true) ∨ q ∈ l) → l.foldl (limS x) s = (q, true)
  | [], s, _, _, h => by
    rcases h with h | h
    · exact h
    · cases h
  | p :: l, s, hl, hs, h => by
    rw [List.foldl_cons]
    refine limF_min hq (fun r hr => hl r (List.mem_cons_of_mem _ hr)) ?_ ?_
    · cases hc : clsX x p
      · rw [show limS x s p = s from by unfold limS; rw [hc]; rfl]
        exact hs
      · cases hb : (!s.2 || lowLt p s.1)
        · rw [show limS x s p = s from by unfold limS; rw [hc, hb]; rfl]
          exact hs
        · rw [show limS x s p = (p, true) from by unfold limS; rw [hc, hb]; rfl]
          rcases hl p (List.mem_cons_self ..) hc with rfl | h2
          · exact .inr (.inl rfl)
          · exact .inr (.inr h2)
    · by_cases e : p = q
      · subst e
        refine .inl ?_
        rcases hs with h2 | rfl | h2
        · unfold limS; rw [hq, h2]; rfl
        · unfold limS; rw [hq, low_irr]; rfl
        · unfold limS; rw [hq, h2]; simp
      · rcases h with rfl | h
        · refine .inl ?_
          cases hc : clsX x p
          · unfold limS; rw [hc]; rfl
          · have h2 := (hl p (List.mem_cons_self ..) hc).resolve_left e
            unfold limS; rw [hc, low_asym h2]; rfl
        · rw [List.mem_cons] at h
          exact .inr (h.resolve_left fun e2 => e e2.symm)
/-- What LimbOf answers. -/
def lmP (n d : Int) : Lf4 := if isAng n d then (match wkL (n, d) 7 with | p :: _ => p | [] => if poC n d = 0 then poP n d else (0, 0, 0, 0)) else (0, 0, 0, 0)
def lmB (n d : Int) : Bool := isAng n d && (decide (0 < (wkL (n, d) 7).length) || decide (poC n d = 0))
def lmC (n d : Int) : Int := if isAng n d then (if lmB n d then 0 else 4) else 1
theorem lm_cases (n d : Int) : (isAng n d = false ∧ lmP n d = (0, 0, 0, 0) ∧ lmB n d = false ∧ lmC n d = 1) ∨
    (isAng n d = true ∧ (∃ k, (wkL (n, d) 7).length = k + 1) ∧ (wkL (n, d) 7)[0]? = some (lmP n d) ∧ lmB n d = true ∧ lmC n d = 0) ∨
    (isAng n d = true ∧ (wkL (n, d) 7).length = 0 ∧ poC n d = 0 ∧ lmP n d = poP n d ∧ lmB n d = true ∧ lmC n d = 0) ∨
    (isAng n d = true ∧ (wkL (n, d) 7).length = 0 ∧ poC n d ≠ 0 ∧ lmP n d = (0, 0, 0, 0) ∧ lmB n d = false ∧ lmC n d = 4) := by
  unfold lmC lmB lmP
  cases ha : isAng n d
  · exact .inl ⟨rfl, rfl, rfl, rfl⟩
  · generalize wkL (n, d) 7 = K
    cases K with
    | cons p K => exact .inr (.inl ⟨rfl, ⟨K.length, rfl⟩, rfl, by simp, by simp⟩)
    | nil =>
      by_cases h : poC n d = 0
      · exact .inr (.inr (.inl ⟨rfl, rfl, h, by simp [h], by simp [h], by simp [h]⟩))
      · exact .inr (.inr (.inr ⟨rfl, rfl, h, by simp [h], by simp [h], by simp [h]⟩))
theorem lm_zero {n d : Int} (hb : lmB n d = false) : lmP n d = (0, 0, 0, 0) := by
  rcases lm_cases n d with ⟨_, h, _⟩ | ⟨_, _, _, h4, _⟩ | ⟨_, _, _, _, h4, _⟩ | ⟨_, _, _, h, _⟩
  · exact h
  · rw [hb] at h4; cases h4
  · rw [hb] at h4; cases h4
  · exact h
theorem ins_low {p : Lf4} (hp : okP p = true) {x : Int × Int} (h : insX x p = true) : ltA p.1 p.2.1 x.1 x.2 = true ∧ ltA x.1 x.2 p.2.2.1 p.2.2.2 = true := by
  have hl := (isLf_yes hp).2.2
  unfold insX arcB at h
  rw [hl] at h
  simpa using h
/-- The limb is the pair with the least lower angle of those to whose wakes the angle belongs. -/
theorem lm_min {n d : Int} (hb : lmB n d = true) : lmP n d ∈ (upK 7).map (·.1) ∧ clsX (n, d) (lmP n d) = true ∧ ∀ p ∈ (upK 7).map (·.1), clsX (n, d) p = true → p = lmP n d ∨ lowLt (lmP n d) p = true := by
  have hf := wkL_facts (n, d) (m := 7) (by omega)
  rcases lm_cases n d with ⟨_, _, h1, _⟩ | ⟨_, ⟨k, h2⟩, h3, _⟩ | ⟨ha, h2, h3, h4, _⟩ | ⟨_, _, _, _, h5, _⟩
  · rw [hb] at h1; cases h1
  · have hm := List.mem_of_getElem? h3
    have hm2 := hf.1.mem_iff.1 hm
    rw [List.mem_map] at hm2
    obtain ⟨y, hy, ey⟩ := hm2
    rw [List.mem_filter] at hy
    obtain ⟨hy1, hy2⟩ := hy
    rw [ey] at hy2
    have hok := hf.2.2.1 _ hm
    refine ⟨by rw [← ey]; exact List.mem_map.2 ⟨y, hy1, rfl⟩, by unfold clsX; rw [hy2]; rfl, fun p hp hc => ?_⟩
    rw [List.mem_map] at hp
    obtain ⟨z, hz, rfl⟩ := hp
    unfold clsX at hc
    rw [Bool.or_eq_true] at hc
    rcases hc with hc | hc
    · have hz2 : z.1 ∈ wkL (n, d) 7 := hf.1.mem_iff.2 (List.mem_map.2 ⟨z, List.mem_filter.2 ⟨hz, hc⟩, rfl⟩)
      by_cases e : z.1 = lmP n d
      · exact .inl e
      · have hs : lowLt z.1 (lmP n d) = false := by
          obtain ⟨i, hi⟩ := List.mem_iff_getElem?.1 hz2
          have hi0 : i ≠ 0 := by rintro rfl; rw [h3] at hi; exact e (Option.some.inj hi).symm
          obtain ⟨a1, a2⟩ := List.getElem?_eq_some_iff.1 h3
          obtain ⟨b1, b2⟩ := List.getElem?_eq_some_iff.1 hi
          have := List.pairwise_iff_getElem.1 hf.2.1 0 i a1 b1 (by omega)
          rw [a2, b2] at this
          exact this
        right
        cases e2 : lowLt (lmP n d) z.1
        · exact absurd (hf.2.2.2.1 _ hz2 _ hm (low_eq (hf.2.2.1 _ hz2) hok hs e2)) e
        · rfl
    · right
      have hs := ins_same (m := 7) (by omega) hz hy1
      rw [ey] at hs
      have : insX (z.1.1, z.1.2.1) (lmP n d) = true := by
        rcases (inP_iff _ _).1 hc with e | e
        · rw [e]; exact hy2
        · rw [hs, e]; exact hy2
      exact (ins_low hok this).1
  · have hno : ∀ q ∈ upK 7, insX (n, d) q.1 = false := fun q hq => by
      cases e : insX (n, d) q.1
      · rfl
      · have : q.1 ∈ wkL (n, d) 7 := hf.1.mem_iff.2 (List.mem_map.2 ⟨q, List.mem_filter.2 ⟨hq, e⟩, rfl⟩)
        rw [List.length_eq_zero_iff.1 h2] at this
        cases this
    obtain ⟨_, g2, g8, _⟩ := po_arnd h3
    obtain ⟨q, hq, hi, e, _⟩ := po_good ha g2
    have hq7 := upK_more (show shortP d - 1 ≤ 7 by omega) hq
    rw [h4, e]
    refine ⟨List.mem_map.2 ⟨q, hq7, rfl⟩, by unfold clsX; rw [hi]; simp, fun p hp hc => ?_⟩
    rw [List.mem_map] at hp
    obtain ⟨z, hz, rfl⟩ := hp
    unfold clsX at hc
    rw [hno z hz, Bool.false_or] at hc
    exact .inl (upK_one 7 (by omega) (n, d) z q hz hq7 hc hi)
  · rw [hb] at h5; cases h5
theorem lm_none {n d : Int} (ha : isAng n d = true) (hb : lmB n d = false) : ∀ p ∈ (upK 7).map (·.1), clsX (n, d) p = false := by
  have hf := wkL_facts (n, d) (m := 7) (by omega)
  rcases lm_cases n d with ⟨h1, _⟩ | ⟨_, _, _, h4, _⟩ | ⟨_, _, _, _, h4, _⟩ | ⟨_, h2, h3, _, _, _⟩
  · rw [ha] at h1; cases h1
  · rw [hb] at h4; cases h4
  · rw [hb] at h4; cases h4
  · intro p hp
    rw [List.mem_map] at hp
    obtain ⟨z, hz, rfl⟩ := hp
    have hno : insX (n, d) z.1 = false := by
      cases e : insX (n, d) z.1
      · rfl
      · have : z.1 ∈ wkL (n, d) 7 := hf.1.mem_iff.2 (List.mem_map.2 ⟨z, List.mem_filter.2 ⟨hz, e⟩, rfl⟩)
        rw [List.length_eq_zero_iff.1 h2] at this
        cases this
    unfold clsX
    rw [hno, Bool.false_or]
    cases e : inP (n, d) z.1
    · rfl
    · exfalso
      obtain ⟨_, p2, p3, p4⟩ := upK_per 7 (by omega) z hz
      have hd : 2 ≤ shortP d := by
        rcases (inP_iff _ _).1 e with e | e
        · have := (Prod.mk.inj e).2; rw [← this]; omega
        · have := (Prod.mk.inj e).2; rw [← this]; omega
      rcases po_cases n d with ⟨c1, _⟩ | ⟨_, c1, _⟩ | ⟨_, _, c1, _⟩
      · rw [ha] at c1; cases c1
      · omega
      · exact h3 c1
/-- The limb told by the least lower angle is the one told by the wakes. -/
theorem lm_same {n d : Int} (ha : isAng n d = true) : limF (n, d) ((upK 7).map (·.1)) = (lmP n d, lmB n d) := by
  cases hb : lmB n d
  · rw [show lmP n d = (0, 0, 0, 0) from by
      rcases lm_cases n d with ⟨_, h, _⟩ | ⟨_, _, _, h4, _⟩ | ⟨_, _, _, _, h4, _⟩ | ⟨_, _, _, h, _⟩
      · exact h
      · rw [hb] at h4; cases h4
      · rw [hb] at h4; cases h4
      · exact h]
    unfold limF
    exact limF_none (lm_none ha hb)
  · obtain ⟨h1, h2, h3⟩ := lm_min hb
    unfold limF
    exact limF_min h2 h3 (.inl rfl) (.inr h1)
end Go.Proofs.Ytabddjfgbhnldaa

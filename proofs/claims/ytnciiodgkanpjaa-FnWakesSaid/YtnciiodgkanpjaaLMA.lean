/-
  Plain mathematics: the limb of an angle, as the wakes around it tell it and as the least lower angle tells it. No program in sight.
  Plain mathematics: turning an angle over turns its limb over; being obstructed does not depend on the order. No program in sight.
  Contracts: the limb of an angle, as the model searches for it; written by genLM3.py.
  Contracts: the limb of an angle and obstructed angles on both sides; the walks of the laws; written by genLM4.py.
-/
import Derived.Test.YtnciiodgkanpjaaRB
import Derived.Test.YtnciiodgkanpjaaW11
import Derived.Deep.DeepCutAuto
import Derived.Test.YtnciiodgkanpjaaOP
namespace Go.Proofs.Ytnciiodgkanpjaa
open Go.RowKit

/-- The angle belongs to the wake or is one of its ends. -/
def clsX (x : Int × Int) (p : Lf4) : Bool := insX x p || inP x p
/-- A step of the search for the pair with the least lower angle. -/
def limS (x : Int × Int) (s : Lf4 × Bool) (p : Lf4) : Lf4 × Bool := if clsX x p then (if !s.2 || lowLt p s.1 then (p, true) else s) else s
def limF (x : Int × Int) (l : List Lf4) : Lf4 × Bool := l.foldl (limS x) ((0, 0, 0, 0), false)
theorem limF_next {x : Int × Int} {l : List Lf4} {k : Nat} {p : Lf4} (h : l[k]? = some p) : limF x (l.take (k + 1)) = limS x (limF x (l.take k)) p := by
  unfold limF
  rw [List.take_add_one, h, List.foldl_append]
  rfl
theorem limF_none {x : Int × Int} : ∀ {l : List Lf4} {s : Lf4 × Bool}, (∀ p ∈ l, clsX x p = false) → l.foldl (limS x) s = s
  | [], _, _ => rfl
  | p :: l, s, h => by
    rw [List.foldl_cons, show limS x s p = s from by unfold limS; rw [h p (List.mem_cons_self ..)]; rfl]
    exact limF_none fun q hq => h q (List.mem_cons_of_mem _ hq)
theorem limF_min {x : Int × Int} {q : Lf4} (hq : clsX x q = true) : ∀ {l : List Lf4} {s : Lf4 × Bool}, (∀ p ∈ l, clsX x p = true → p = q ∨ lowLt q p = true) → (s.2 = false ∨ s = (q, true) ∨ lowLt q s.1 = true) → (s = (q, true) ∨ q ∈ l) → l.foldl (limS x) s = (q, true)
  | [], s, _, _, h => by
    rcases h with h | h
    · exact h
    · cases h
  | p :: l, s, hl, hs, h => by
    rw [List.foldl_cons]
    refine limF_min hq (fun r hr => hl r (List.mem_cons_of_mem _ hr)) ?_ ?_
    · cases hc : clsX x p
      · rw [show limS x s p = s from by unfold limS; rw [hc]; rfl]
        exact hs
      · cases hb : (!s.2 || lowLt p s.1)
        · rw [show limS x s p = s from by unfold limS; rw [hc, hb]; rfl]
          exact hs
        · rw [show limS x s p = (p, true) from by unfold limS; rw [hc, hb]; rfl]
          rcases hl p (List.mem_cons_self ..) hc with rfl | h2
          · exact .inr (.inl rfl)
          · exact .inr (.inr h2)
    · by_cases e : p = q
      · subst e
        refine .inl ?_
        rcases hs with h2 | rfl | h2
        · unfold limS; rw [hq, h2]; rfl
        · unfold limS; rw [hq, low_irr]; rfl
        · unfold limS; rw [hq, h2]; simp
      · rcases h with rfl | h
        · refine .inl ?_
          cases hc : clsX x p
          · unfold limS; rw [hc]; rfl
          · have h2 := (hl p (List.mem_cons_self ..) hc).resolve_left e
            unfold limS; rw [hc, low_asym h2]; rfl
        · rw [List.mem_cons] at h
          exact .inr (h.resolve_left fun e2 => e e2.symm)
/-- What LimbOf answers. -/
def lmP (n d : Int) : Lf4 := if isAng n d then (match wkL (n, d) 7 with | p :: _ => p | [] => if poC n d = 0 then poP n d else (0, 0, 0, 0)) else (0, 0, 0, 0)
def lmB (n d : Int) : Bool := isAng n d && (decide (0 < (wkL (n, d) 7).length) || decide (poC n d = 0))
def lmC (n d : Int) : Int := if isAng n d then (if lmB n d then 0 else 4) else 1
theorem lm_cases (n d : Int) : (isAng n d = false ∧ lmP n d = (0, 0, 0, 0) ∧ lmB n d = false ∧ lmC n d = 1) ∨
    (isAng n d = true ∧ (∃ k, (wkL (n, d) 7).length = k + 1) ∧ (wkL (n, d) 7)[0]? = some (lmP n d) ∧ lmB n d = true ∧ lmC n d = 0) ∨
    (isAng n d = true ∧ (wkL (n, d) 7).length = 0 ∧ poC n d = 0 ∧ lmP n d = poP n d ∧ lmB n d = true ∧ lmC n d = 0) ∨
    (isAng n d = true ∧ (wkL (n, d) 7).length = 0 ∧ poC n d ≠ 0 ∧ lmP n d = (0, 0, 0, 0) ∧ lmB n d = false ∧ lmC n d = 4) := by
  unfold lmC lmB lmP
  cases ha : isAng n d
  · exact .inl ⟨rfl, rfl, rfl, rfl⟩
  · generalize wkL (n, d) 7 = K
    cases K with
    | cons p K => exact .inr (.inl ⟨rfl, ⟨K.length, rfl⟩, rfl, by simp, by simp⟩)
    | nil =>
      by_cases h : poC n d = 0
      · exact .inr (.inr (.inl ⟨rfl, rfl, h, by simp [h], by simp [h], by simp [h]⟩))
      · exact .inr (.inr (.inr ⟨rfl, rfl, h, by simp [h], by simp [h], by simp [h]⟩))
theorem lm_zero {n d : Int} (hb : lmB n d = false) : lmP n d = (0, 0, 0, 0) := by
  rcases lm_cases n d with ⟨_, h, _⟩ | ⟨_, _, _, h4, _⟩ | ⟨_, _, _, _, h4, _⟩ | ⟨_, _, _, h, _⟩
  · exact h
  · rw [hb] at h4; cases h4
  · rw [hb] at h4; cases h4
  · exact h
theorem ins_low {p : Lf4} (hp : okP p = true) {x : Int × Int} (h : insX x p = true) : ltA p.1 p.2.1 x.1 x.2 = true ∧ ltA x.1 x.2 p.2.2.1 p.2.2.2 = true := by
  have hl := (isLf_yes hp).2.2
  unfold insX arcB at h
  rw [hl] at h
  simpa using h
/-- The limb is the pair with the least lower angle of those to whose wakes the angle belongs. -/
theorem lm_min {n d : Int} (hb : lmB n d = true) : lmP n d ∈ (upK 7).map (·.1) ∧ clsX (n, d) (lmP n d) = true ∧ ∀ p ∈ (upK 7).map (·.1), clsX (n, d) p = true → p = lmP n d ∨ lowLt (lmP n d) p = true := by
  have hf := wkL_facts (n, d) (m := 7) (by omega)
  rcases lm_cases n d with ⟨_, _, h1, _⟩ | ⟨_, ⟨k, h2⟩, h3, _⟩ | ⟨ha, h2, h3, h4, _⟩ | ⟨_, _, _, _, h5, _⟩
  · rw [hb] at h1; cases h1
  · have hm := List.mem_of_getElem? h3
    have hm2 := hf.1.mem_iff.1 hm
    rw [List.mem_map] at hm2
    obtain ⟨y, hy, ey⟩ := hm2
    rw [List.mem_filter] at hy
    obtain ⟨hy1, hy2⟩ := hy
    rw [ey] at hy2
    have hok := hf.2.2.1 _ hm
    refine ⟨by rw [← ey]; exact List.mem_map.2 ⟨y, hy1, rfl⟩, by unfold clsX; rw [hy2]; rfl, fun p hp hc => ?_⟩
    rw [List.mem_map] at hp
    obtain ⟨z, hz, rfl⟩ := hp
    unfold clsX at hc
    rw [Bool.or_eq_true] at hc
    rcases hc with hc | hc
    · have hz2 : z.1 ∈ wkL (n, d) 7 := hf.1.mem_iff.2 (List.mem_map.2 ⟨z, List.mem_filter.2 ⟨hz, hc⟩, rfl⟩)
      by_cases e : z.1 = lmP n d
      · exact .inl e
      · have hs : lowLt z.1 (lmP n d) = false := by
          obtain ⟨i, hi⟩ := List.mem_iff_getElem?.1 hz2
          have hi0 : i ≠ 0 := by rintro rfl; rw [h3] at hi; exact e (Option.some.inj hi).symm
          obtain ⟨a1, a2⟩ := List.getElem?_eq_some_iff.1 h3
          obtain ⟨b1, b2⟩ := List.getElem?_eq_some_iff.1 hi
          have := List.pairwise_iff_getElem.1 hf.2.1 0 i a1 b1 (by omega)
          rw [a2, b2] at this
          exact this
        right
        cases e2 : lowLt (lmP n d) z.1
        · exact absurd (hf.2.2.2.1 _ hz2 _ hm (low_eq (hf.2.2.1 _ hz2) hok hs e2)) e
        · rfl
    · right
      have hs := ins_same (m := 7) (by omega) hz hy1
      rw [ey] at hs
      have : insX (z.1.1, z.1.2.1) (lmP n d) = true := by
        rcases (inP_iff _ _).1 hc with e | e
        · rw [e]; exact hy2
        · rw [hs, e]; exact hy2
      exact (ins_low hok this).1
  · have hno : ∀ q ∈ upK 7, insX (n, d) q.1 = false := fun q hq => by
      cases e : insX (n, d) q.1
      · rfl
      · have : q.1 ∈ wkL (n, d) 7 := hf.1.mem_iff.2 (List.mem_map.2 ⟨q, List.mem_filter.2 ⟨hq, e⟩, rfl⟩)
        rw [List.length_eq_zero_iff.1 h2] at this
        cases this
    obtain ⟨_, g2, g8, _⟩ := po_arnd h3
    obtain ⟨q, hq, hi, e, _⟩ := po_good ha g2
    have hq7 := upK_more (show shortP d - 1 ≤ 7 by omega) hq
    rw [h4, e]
    refine ⟨List.mem_map.2 ⟨q, hq7, rfl⟩, by unfold clsX; rw [hi]; simp, fun p hp hc => ?_⟩
    rw [List.mem_map] at hp
    obtain ⟨z, hz, rfl⟩ := hp
    unfold clsX at hc
    rw [hno z hz, Bool.false_or] at hc
    exact .inl (upK_one 7 (by omega) (n, d) z q hz hq7 hc hi)
  · rw [hb] at h5; cases h5
theorem lm_none {n d : Int} (ha : isAng n d = true) (hb : lmB n d = false) : ∀ p ∈ (upK 7).map (·.1), clsX (n, d) p = false := by
  have hf := wkL_facts (n, d) (m := 7) (by omega)
  rcases lm_cases n d with ⟨h1, _⟩ | ⟨_, _, _, h4, _⟩ | ⟨_, _, _, _, h4, _⟩ | ⟨_, h2, h3, _, _, _⟩
  · rw [ha] at h1; cases h1
  · rw [hb] at h4; cases h4
  · rw [hb] at h4; cases h4
  · intro p hp
    rw [List.mem_map] at hp
    obtain ⟨z, hz, rfl⟩ := hp
    have hno : insX (n, d) z.1 = false := by
      cases e : insX (n, d) z.1
      · rfl
      · have : z.1 ∈ wkL (n, d) 7 := hf.1.mem_iff.2 (List.mem_map.2 ⟨z, List.mem_filter.2 ⟨hz, e⟩, rfl⟩)
        rw [List.length_eq_zero_iff.1 h2] at this
        cases this
    unfold clsX
    rw [hno, Bool.false_or]
    cases e : inP (n, d) z.1
    · rfl
    · exfalso
      obtain ⟨_, p2, p3, p4⟩ := upK_per 7 (by omega) z hz
      have hd : 2 ≤ shortP d := by
        rcases (inP_iff _ _).1 e with e | e
        · have := (Prod.mk.inj e).2; rw [← this]; omega
        · have := (Prod.mk.inj e).2; rw [← this]; omega
      rcases po_cases n d with ⟨c1, _⟩ | ⟨_, c1, _⟩ | ⟨_, _, c1, _⟩
      · rw [ha] at c1; cases c1
      · omega
      · exact h3 c1
/-- The limb told by the least lower angle is the one told by the wakes. -/
theorem lm_same {n d : Int} (ha : isAng n d = true) : limF (n, d) ((upK 7).map (·.1)) = (lmP n d, lmB n d) := by
  cases hb : lmB n d
  · rw [show lmP n d = (0, 0, 0, 0) from by
      rcases lm_cases n d with ⟨_, h, _⟩ | ⟨_, _, _, h4, _⟩ | ⟨_, _, _, _, h4, _⟩ | ⟨_, _, _, h, _⟩
      · exact h
      · rw [hb] at h4; cases h4
      · rw [hb] at h4; cases h4
      · exact h]
    unfold limF
    exact limF_none (lm_none ha hb)
  · obtain ⟨h1, h2, h3⟩ := lm_min hb
    unfold limF
    exact limF_min h2 h3 (.inl rfl) (.inr h1)

def pL9 : List Lf4 := [(1, 3, 2, 3), (1, 7, 2, 7), (3, 7, 4, 7), (5, 7, 6, 7), (1, 15, 2, 15), (1, 5, 4, 15), (2, 5, 3, 5), (7, 15, 8, 15), (11, 15, 4, 5), (13, 15, 14, 15), (1, 31, 2, 31), (3, 31, 4, 31), (5, 31, 6, 31), (7, 31, 8, 31), (9, 31, 10, 31), (11, 31, 12, 31), (13, 31, 18, 31), (14, 31, 17, 31), (15, 31, 16, 31), (19, 31, 20, 31), (21, 31, 22, 31), (23, 31, 24, 31), (25, 31, 26, 31), (27, 31, 28, 31), (29, 31, 30, 31), (1, 63, 2, 63), (1, 21, 4, 63), (5, 63, 2, 21), (1, 9, 8, 63), (10, 63, 17, 63), (11, 63, 4, 21), (13, 63, 2, 9), (5, 21, 16, 63), (19, 63, 20, 63), (22, 63, 25, 63), (23, 63, 8, 21), (26, 63, 37, 63), (4, 9, 5, 9), (29, 63, 34, 63), (10, 21, 11, 21), (31, 63, 32, 63), (38, 63, 41, 63), (13, 21, 40, 63), (43, 63, 44, 63), (46, 63, 53, 63), (47, 63, 16, 21), (7, 9, 50, 63), (17, 21, 52, 63), (55, 63, 8, 9), (19, 21, 58, 63), (59, 63, 20, 21), (61, 63, 62, 63), (1, 127, 2, 127), (3, 127, 4, 127), (5, 127, 6, 127), (7, 127, 8, 127), (9, 127, 10, 127), (11, 127, 12, 127), (13, 127, 14, 127), (15, 127, 16, 127), (17, 127, 18, 127), (19, 127, 20, 127), (21, 127, 22, 127), (23, 127, 24, 127), (25, 127, 34, 127), (26, 127, 33, 127), (27, 127, 28, 127), (29, 127, 30, 127), (31, 127, 32, 127), (35, 127, 36, 127), (37, 127, 38, 127), (39, 127, 40, 127), (41, 127, 42, 127), (43, 127, 44, 127), (45, 127, 50, 127), (46, 127, 49, 127), (47, 127, 48, 127), (51, 127, 52, 127), (53, 127, 74, 127), (54, 127, 73, 127), (55, 127, 56, 127), (57, 127, 70, 127), (58, 127, 69, 127), (59, 127, 68, 127), (60, 127, 67, 127), (61, 127, 66, 127), (62, 127, 65, 127), (63, 127, 64, 127), (71, 127, 72, 127), (75, 127, 76, 127), (77, 127, 82, 127), (78, 127, 81, 127), (79, 127, 80, 127), (83, 127, 84, 127), (85, 127, 86, 127), (87, 127, 88, 127), (89, 127, 90, 127), (91, 127, 92, 127), (93, 127, 102, 127), (94, 127, 101, 127), (95, 127, 96, 127), (97, 127, 98, 127), (99, 127, 100, 127), (103, 127, 104, 127), (105, 127, 106, 127), (107, 127, 108, 127), (109, 127, 110, 127), (111, 127, 112, 127), (113, 127, 114, 127), (115, 127, 116, 127), (117, 127, 118, 127), (119, 127, 120, 127), (121, 127, 122, 127), (123, 127, 124, 127), (125, 127, 126, 127), (1, 255, 2, 255), (1, 85, 4, 255), (1, 51, 2, 85), (7, 255, 8, 255), (3, 85, 2, 51), (11, 255, 4, 85), (13, 255, 14, 255), (1, 17, 16, 255), (6, 85, 11, 85), (19, 255, 4, 51), (7, 85, 22, 255), (23, 255, 8, 85), (5, 51, 26, 255), (9, 85, 28, 255), (29, 255, 2, 17), (31, 255, 32, 255), (7, 51, 12, 85), (37, 255, 38, 255), (13, 85, 8, 51), (41, 255, 10, 51), (14, 85, 49, 255), (43, 255, 44, 255), (3, 17, 46, 255), (47, 255, 16, 85), (52, 255, 67, 255), (53, 255, 18, 85), (11, 51, 56, 255), (19, 85, 22, 85), (58, 255, 13, 51), (59, 255, 4, 17), (61, 255, 62, 255), (21, 85, 64, 255), (23, 85, 14, 51), (71, 255, 24, 85), (73, 255, 74, 255), (5, 17, 76, 255), (77, 255, 26, 85), (79, 255, 16, 51), (27, 85, 82, 255), (83, 255, 28, 85), (86, 255, 89, 255), (29, 85, 88, 255), (6, 17, 101, 255), (91, 255, 92, 255), (31, 85, 98, 255), (94, 255, 97, 255), (19, 51, 32, 85), (33, 85, 20, 51), (103, 255, 104, 255), (7, 17, 10, 17), (106, 255, 149, 255), (107, 255, 36, 85), (109, 255, 146, 255), (22, 51, 113, 255), (37, 85, 112, 255), (38, 85, 47, 85), (23, 51, 28, 51), (116, 255, 139, 255), (39, 85, 46, 85), (118, 255, 137, 255), (8, 17, 9, 17), (121, 255, 134, 255), (122, 255, 133, 255), (41, 85, 44, 85), (124, 255, 131, 255), (25, 51, 26, 51), (42, 85, 43, 85), (127, 255, 128, 255), (142, 255, 29, 51), (143, 255, 48, 85), (49, 85, 148, 255), (151, 255, 152, 255), (154, 255, 11, 17), (31, 51, 52, 85), (157, 255, 54, 85), (158, 255, 161, 255), (53, 85, 32, 51), (163, 255, 164, 255), (166, 255, 169, 255), (167, 255, 56, 85), (57, 85, 172, 255), (173, 255, 58, 85), (35, 51, 176, 255), (59, 85, 178, 255), (179, 255, 12, 17), (181, 255, 182, 255), (61, 85, 184, 255), (37, 51, 62, 85), (188, 255, 203, 255), (63, 85, 66, 85), (38, 51, 197, 255), (191, 255, 64, 85), (193, 255, 194, 255), (13, 17, 196, 255), (199, 255, 40, 51), (67, 85, 202, 255), (41, 51, 214, 255), (206, 255, 71, 85), (69, 85, 208, 255), (209, 255, 14, 17), (211, 255, 212, 255), (43, 51, 72, 85), (217, 255, 218, 255), (73, 85, 44, 51), (74, 85, 79, 85), (223, 255, 224, 255), (15, 17, 226, 255), (227, 255, 76, 85), (229, 255, 46, 51), (77, 85, 232, 255), (233, 255, 78, 85), (47, 51, 236, 255), (239, 255, 16, 17), (241, 255, 242, 255), (81, 85, 244, 255), (49, 51, 82, 85), (247, 255, 248, 255), (83, 85, 50, 51), (251, 255, 84, 85), (253, 255, 254, 255)]
set_option maxRecDepth 100000 in
theorem pE9 : (upK 7).map (·.1) = pL9 := by
  rw [upK_succ, jE8, uE8, aE8]
  decide +kernel
/-- A pair turned over. -/
def cjP (p : Lf4) : Lf4 := (p.2.2.2 - p.2.2.1, p.2.2.2, p.2.1 - p.1, p.2.1)
theorem cj_all : (pL9.all fun p => pL9.contains (cjP p)) = true := by decide +kernel
theorem cj_mem {p : Lf4} (h : p ∈ (upK 7).map (·.1)) : cjP p ∈ (upK 7).map (·.1) := by
  rw [pE9] at h ⊢
  have := List.all_eq_true.1 cj_all p h
  simpa using this
theorem low_all : (pL9.all fun p => decide (0 < p.1)) = true := by decide +kernel
theorem low_pos {p : Lf4} (h : p ∈ (upK 7).map (·.1)) : 0 < p.1 := by
  rw [pE9] at h
  have := List.all_eq_true.1 low_all p h
  simpa using this
theorem cj_cj (p : Lf4) : cjP (cjP p) = p := by
  obtain ⟨a, b, c, d⟩ := p
  unfold cjP
  dsimp only
  rw [show b - (b - a) = a by omega, show d - (d - c) = c by omega]
/-- The opposite of an angle. -/
def opX (x : Int × Int) : Int × Int := if x.1 = 0 then x else (x.2 - x.1, x.2)
theorem op_op {x : Int × Int} (h : x.1 < x.2) : opX (opX x) = x := by
  unfold opX
  split
  · rfl
  · next h0 =>
    dsimp only
    rw [if_neg (by omega)]
    rw [show x.2 - (x.2 - x.1) = x.1 by omega]
theorem op_eq {n d : Int} (h : isAng n d = true) : (redN (-n) d, redD (-n) d) = opX (n, d) := by
  obtain ⟨h1, h2, h3, h4, h5⟩ := isAng_yes h
  unfold opX
  dsimp only
  by_cases h0 : n = 0
  · subst h0
    rw [if_pos rfl]
    have e : ((-(0 : Int)) % d) = 0 := by simp
    unfold redN redD
    rw [e, h5]
    simp
  · rw [if_neg h0]
    have e0 : n % d = n := Int.emod_eq_of_lt h3 h4
    have e : ((-n) % d) = d - n := by rw [emod_neg_pos n d (by omega) (by rw [e0]; omega), e0]
    unfold redN redD
    rw [e, gcdI_neg, h5]
    simp
theorem op_ang {n d : Int} (h : isAng n d = true) : isAng (opX (n, d)).1 (opX (n, d)).2 = true := by
  obtain ⟨h1, h2, h3, h4, h5⟩ := isAng_yes h
  unfold opX
  split
  · exact h
  · next h0 =>
    dsimp only at h0 ⊢
    unfold isAng
    exact decide_eq_true ⟨h1, h2, by omega, by omega, by rw [gcdI_neg]; exact h5⟩
theorem ltA_cj (a b c d : Int) : ltA (d - c) d (b - a) b = ltA a b c d := by
  unfold ltA
  rw [Int.sub_mul, Int.sub_mul, Int.mul_comm d b]
  generalize b * d = X
  generalize c * b = Y
  generalize a * d = Z
  by_cases h : Z < Y
  · rw [decide_eq_true h, decide_eq_true (by omega)]
  · rw [decide_eq_false h, decide_eq_false (by omega)]
theorem cls_op {x : Int × Int} {p : Lf4} (hp : p ∈ (upK 7).map (·.1)) (hx : isAng x.1 x.2 = true) (h : clsX x p = true) : clsX (opX x) (cjP p) = true := by
  have hok := mapOk (m := 7) (by omega) p hp
  have h0 := low_pos hp
  have hc := mapOk (m := 7) (by omega) _ (cj_mem hp)
  have hcl := (isLf_yes hc).2.2
  obtain ⟨x1, x2, x3, x4, _⟩ := isAng_yes hx
  obtain ⟨n, e⟩ := x
  have hl := (isLf_yes hok).2.2
  have hu := (isLf_yes hok).2.1.1
  obtain ⟨a, b, c, d⟩ := p
  dsimp only at *
  have hc0 : c ≠ 0 := by
    rintro rfl
    unfold ltA at hl
    have := of_decide_eq_true hl
    have h2 : 0 < a * d := Int.mul_pos h0 (by omega)
    omega
  unfold clsX at h ⊢
  rw [Bool.or_eq_true] at h ⊢
  rcases h with h | h
  · left
    obtain ⟨g1, g2⟩ := ins_low hok h
    dsimp only at g1 g2
    have hn : n ≠ 0 := by
      rintro rfl
      unfold ltA at g1
      have := of_decide_eq_true g1
      have h2 : 0 < a * e := Int.mul_pos h0 (by omega)
      omega
    unfold opX
    dsimp only
    rw [if_neg hn]
    unfold insX arcB cjP
    dsimp only
    rw [ltA_cj a b c d, hl, ltA_cj n e c d, ltA_cj a b n e, g1, g2]
    rfl
  · right
    rw [inP_iff]
    unfold opX cjP
    rcases (inP_iff _ _).1 h with e1 | e1
    · right
      obtain ⟨rfl, rfl⟩ := Prod.mk.inj e1
      dsimp only
      rw [if_neg (by omega)]
    · left
      obtain ⟨rfl, rfl⟩ := Prod.mk.inj e1
      dsimp only
      rw [if_neg hc0]
/-- Of two pairs to whose wakes an angle belongs, the one that begins earlier ends later. -/
theorem cls_nest {x : Int × Int} {q r : Lf4 × Nat} (hx : isAng x.1 x.2 = true) (hq : q ∈ upK 7) (hr : r ∈ upK 7) (h1 : clsX x q.1 = true) (h2 : clsX x r.1 = true) (hl : lowLt r.1 q.1 = true) : ltA q.1.2.2.1 q.1.2.2.2 r.1.2.2.1 r.1.2.2.2 = true := by
  have okq := upK_ok 7 (by omega) q hq
  have okr := upK_ok 7 (by omega) r hr
  have hs := ins_same (m := 7) (by omega) hq hr
  have pq : 0 < q.1.2.1 := ok_pos okq
  have pu : 0 < q.1.2.2.2 := by have := (isLf_yes okq).2.1.1; dsimp only at this; omega
  have pr : 0 < r.1.2.2.2 := by have := (isLf_yes okr).2.1.1; dsimp only at this; omega
  have px : 0 < x.2 := by have := (isAng_yes hx).1; omega
  have hne : ∀ y, inP y q.1 = true → inP y r.1 = true → False := fun y a b => by
    have e := upK_one 7 (by omega) y q r hq hr a b
    rw [e, low_irr] at hl
    cases hl
  have key : ltA q.1.1 q.1.2.1 r.1.2.2.1 r.1.2.2.2 = true := by
    unfold clsX at h1 h2
    rw [Bool.or_eq_true] at h1 h2
    rcases h2 with h2 | h2
    · obtain ⟨_, b2⟩ := ins_low okr h2
      rcases h1 with h1 | h1
      · exact ltA_tr pq px pr (ins_low okq h1).1 b2
      · rcases (inP_iff _ _).1 h1 with e | e
        · rw [← e] at b2; exact b2
        · rw [← e] at b2
          exact ltA_tr pq pu pr (isLf_yes okq).2.2 b2
    · rcases h1 with h1 | h1
      · obtain ⟨a1, _⟩ := ins_low okq h1
        rcases (inP_iff _ _).1 h2 with e | e
        · rw [← e] at a1
          have := ltA_asymm a1
          unfold lowLt at hl
          rw [hl] at this
          cases this
        · rw [← e] at a1; exact a1
      · exact (hne x h1 h2).elim
  have hi : insX (q.1.1, q.1.2.1) r.1 = true := by
    unfold insX arcB
    rw [(isLf_yes okr).2.2]
    unfold lowLt at hl
    rw [hl, key]
    rfl
  rw [hs] at hi
  exact (ins_low okr hi).2
/-- The limb of the opposite angle is the limb turned over. -/
theorem lm_op {n d : Int} (h : isAng n d = true) : lmB (opX (n, d)).1 (opX (n, d)).2 = lmB n d ∧ (lmB n d = true → lmP (opX (n, d)).1 (opX (n, d)).2 = cjP (lmP n d)) := by
  have hr := isAng_yes h
  have h2 := op_ang h
  have hs := lm_same h2
  have hoo : opX (opX (n, d)) = (n, d) := op_op hr.2.2.2.1
  have back : ∀ r ∈ (upK 7).map (·.1), clsX (opX (n, d)) r = true → clsX (n, d) (cjP r) = true := fun r hr hc => by
    have := cls_op hr (x := opX (n, d)) h2 hc
    rwa [hoo] at this
  rw [show ((opX (n, d)).1, (opX (n, d)).2) = opX (n, d) from rfl] at hs
  cases hb : lmB n d
  · have hn := lm_none h hb
    have : limF (opX (n, d)) ((upK 7).map (·.1)) = ((0, 0, 0, 0), false) := by
      unfold limF
      refine limF_none fun r hr => ?_
      cases e : clsX (opX (n, d)) r
      · rfl
      · have := hn _ (cj_mem hr)
        rw [back r hr e] at this
        cases this
    rw [this] at hs
    exact ⟨(Prod.mk.inj hs).2.symm, fun h => by cases h⟩
  · obtain ⟨m1, m2, m3⟩ := lm_min hb
    have : limF (opX (n, d)) ((upK 7).map (·.1)) = (cjP (lmP n d), true) := by
      unfold limF
      refine limF_min (cls_op m1 (x := (n, d)) h m2) (fun r hr hc => ?_) (.inl rfl) (.inr (cj_mem m1))
      have hb2 := back r hr hc
      have hm := cj_mem hr
      rcases m3 _ hm hb2 with e | e
      · left
        rw [← e, cj_cj]
      · right
        rw [List.mem_map] at m1 hm
        obtain ⟨z, hz, ez⟩ := m1
        obtain ⟨y, hy, ey⟩ := hm
        have hh := cls_nest (x := (n, d)) h hy hz (by rw [ey]; exact hb2) (by rw [ez]; exact m2) (by rw [ey, ez]; exact e)
        rw [ez] at hh
        have e3 : r = cjP y.1 := by rw [ey, cj_cj]
        rw [e3]
        unfold lowLt cjP
        rw [ltA_cj]
        exact hh
    rw [this] at hs
    exact ⟨(Prod.mk.inj hs).2.symm, fun _ => (Prod.mk.inj hs).1.symm⟩
/-- What AreObstructed answers. -/
def obB (n d m c : Int) : Bool := isAng n d && (isAng m c && (lmB n d && (lmB (redN (-m) c) (redD (-m) c) && decide (lmP n d = lmP (redN (-m) c) (redD (-m) c)))))
theorem ob_one {n d m c : Int} (h1 : isAng n d = true) (h2 : isAng m c = true) : obB n d m c = (lmB n d && (lmB m c && decide (lmP n d = cjP (lmP m c)))) := by
  have e := op_eq h2
  obtain ⟨e1, e2⟩ := Prod.mk.inj (show (redN (-m) c, redD (-m) c) = ((opX (m, c)).1, (opX (m, c)).2) from e)
  obtain ⟨a, b⟩ := lm_op h2
  unfold obB
  rw [h1, h2, e1, e2, a]
  cases hb : lmB m c
  · rfl
  · rw [b hb]
    rfl
theorem ob_sym (n d m c : Int) : obB n d m c = obB m c n d := by
  cases h1 : isAng n d
  · unfold obB; rw [h1]; simp
  · cases h2 : isAng m c
    · unfold obB; rw [h2]; simp
    · rw [ob_one h1 h2, ob_one h2 h1]
      have : decide (lmP n d = cjP (lmP m c)) = decide (lmP m c = cjP (lmP n d)) := by
        refine decide_eq_decide.2 ⟨fun h => ?_, fun h => ?_⟩
        · rw [h, cj_cj]
        · rw [h, cj_cj]
      rw [this]
      cases lmB n d <;> cases lmB m c <;> rfl
/-- A limb has the angle. -/
theorem lm_has {n d : Int} (hb : lmB n d = true) : ltA n d (lmP n d).1 (lmP n d).2.1 = false ∧ ltA (lmP n d).2.2.1 (lmP n d).2.2.2 n d = false := by
  obtain ⟨m1, m2, _⟩ := lm_min hb
  have hok := mapOk (m := 7) (by omega) _ m1
  have hl := (isLf_yes hok).2.2
  unfold clsX at m2
  rw [Bool.or_eq_true] at m2
  rcases m2 with m2 | m2
  · obtain ⟨a, b⟩ := ins_low hok m2
    exact ⟨ltA_asymm a, ltA_asymm b⟩
  · rcases (inP_iff _ _).1 m2 with e | e
    · obtain ⟨e1, e2⟩ := Prod.mk.inj e
      rw [e1, e2] at hl ⊢
      exact ⟨ltA_irr _ _, ltA_asymm hl⟩
    · obtain ⟨e1, e2⟩ := Prod.mk.inj e
      rw [e1, e2] at hl ⊢
      exact ⟨ltA_asymm hl, ltA_irr _ _⟩

theorem neqlL (a1 a2 b1 b2 : Int) (W : World) : (binOp .neq 25 (ang a1 a2) (ang b1 b2)).run Try.prog W = .ok (.bool (!eqA a1 a2 b1 b2)) W := by
  by_cases h1 : a1 = b1
  · by_cases h2 : a2 = b2
    · subst h1 h2
      simp [go_sem, eqA]
    · subst h1
      simp [go_sem, eqA, h2]
  · simp [go_sem, eqA, h1]
/-- A pair's four cells in the block F. -/
structure BoxP (F : Nat) (p : Lf4) (W : World) : Prop where
  z : F < W.heap.size
  c0 : W.cell? ⟨F, 0, none⟩ = some (.int .i64 p.1)
  c1 : W.cell? ⟨F, 1, none⟩ = some (.int .i64 p.2.1)
  c2 : W.cell? ⟨F, 2, none⟩ = some (.int .i64 p.2.2.1)
  c3 : W.cell? ⟨F, 3, none⟩ = some (.int .i64 p.2.2.2)
  f0 : W.frozen? ⟨F, 0, none⟩ = false
  f1 : W.frozen? ⟨F, 1, none⟩ = false
  f2 : W.frozen? ⟨F, 2, none⟩ = false
  f3 : W.frozen? ⟨F, 3, none⟩ = false
theorem BoxP.on {F : Nat} {p : Lf4} {W W1 : World} (H : BoxP F p W) (hb : Below W.heap.size W W1) : BoxP F p W1 :=
  ⟨Nat.lt_of_lt_of_le H.z hb.size, cellThru hb H.z H.c0, cellThru hb H.z H.c1, cellThru hb H.z H.c2, cellThru hb H.z H.c3, frozThru hb H.z H.f0, frozThru hb H.z H.f1, frozThru hb H.z H.f2, frozThru hb H.z H.f3⟩
/-- Four cells are written into. -/
abbrev put4 (W : World) (F : Nat) (a b c d : Int) : World := (((W.setCell ⟨F, 0, none⟩ (.int .i64 a)).setCell ⟨F, 1, none⟩ (.int .i64 b)).setCell ⟨F, 2, none⟩ (.int .i64 c)).setCell ⟨F, 3, none⟩ (.int .i64 d)
theorem oth4 {W : World} {F : Nat} {a b c d : Int} {B o : Nat} {u : Value} (h : B ≠ F) (hc : W.cell? ⟨B, o, none⟩ = some u) : (put4 W F a b c d).cell? ⟨B, o, none⟩ = some u := by
  have e : ∀ j, (⟨F, j, none⟩ : Addr) ≠ ⟨B, o, none⟩ := fun j e => h (by injection e with e1; exact e1.symm)
  unfold put4
  rw [World.cell?_setCell_other _ _ _ _ (e 3), World.cell?_setCell_other _ _ _ _ (e 2), World.cell?_setCell_other _ _ _ _ (e 1), World.cell?_setCell_other _ _ _ _ (e 0)]
  exact hc
theorem BoxP.put {F : Nat} {p : Lf4} {W : World} (H : BoxP F p W) (a b c d : Int) : BoxP F (a, b, c, d) (put4 W F a b c d) := by
  have n : ∀ i j, i ≠ j → (⟨F, j, none⟩ : Addr) ≠ ⟨F, i, none⟩ := fun i j h e => h (by injection e with _ e1; exact e1.symm)
  unfold put4
  refine ⟨by simpa using H.z, ?_, ?_, ?_, ?_, by simpa using H.f0, by simpa using H.f1, by simpa using H.f2, by simpa using H.f3⟩
  · rw [World.cell?_setCell_other _ _ _ _ (n 0 3 (by omega)), World.cell?_setCell_other _ _ _ _ (n 0 2 (by omega)), World.cell?_setCell_other _ _ _ _ (n 0 1 (by omega))]
    exact World.cell?_setCell_same _ _ _ H.c0
  · rw [World.cell?_setCell_other _ _ _ _ (n 1 3 (by omega)), World.cell?_setCell_other _ _ _ _ (n 1 2 (by omega))]
    exact World.cell?_setCell_same _ _ _ ((World.cell?_setCell_other _ _ _ _ (n 1 0 (by omega))).trans H.c1)
  · rw [World.cell?_setCell_other _ _ _ _ (n 2 3 (by omega))]
    exact World.cell?_setCell_same _ _ _ ((World.cell?_setCell_other _ _ _ _ (n 2 1 (by omega))).trans ((World.cell?_setCell_other _ _ _ _ (n 2 0 (by omega))).trans H.c2))
  · exact World.cell?_setCell_same _ _ _ ((World.cell?_setCell_other _ _ _ _ (n 3 2 (by omega))).trans ((World.cell?_setCell_other _ _ _ _ (n 3 1 (by omega))).trans ((World.cell?_setCell_other _ _ _ _ (n 3 0 (by omega))).trans H.c3)))
theorem BoxP.off {F G : Nat} {p : Lf4} {W : World} (H : BoxP F p W) (h : F ≠ G) (a b c d : Int) : BoxP F p (put4 W G a b c d) :=
  ⟨by simpa using H.z, oth4 h H.c0, oth4 h H.c1, oth4 h H.c2, oth4 h H.c3, by simpa using H.f0, by simpa using H.f1, by simpa using H.f2, by simpa using H.f3⟩
/-- A list of pairs that is not in the block F. -/
def LRow (F : Nat) (A : Option Addr) (l : List Lf4) (W : World) : Prop := l ≠ [] → ∃ g off, A = some ⟨g, off, none⟩ ∧ g ≠ F ∧ g < W.heap.size ∧ ∀ k a b c d, l[k]? = some (a, b, c, d) → W.cell? ⟨g, off + k * 4, none⟩ = some (.int .i64 a) ∧ W.cell? ⟨g, off + k * 4 + 1, none⟩ = some (.int .i64 b) ∧ W.cell? ⟨g, off + k * 4 + 2, none⟩ = some (.int .i64 c) ∧ W.cell? ⟨g, off + k * 4 + 3, none⟩ = some (.int .i64 d)
theorem LRow.on {F : Nat} {A : Option Addr} {l : List Lf4} {W W1 : World} (H : LRow F A l W) (hb : Below W.heap.size W W1) : LRow F A l W1 := by
  intro hl
  obtain ⟨g, off, e, h1, h2, hc⟩ := H hl
  refine ⟨g, off, e, h1, Nat.lt_of_lt_of_le h2 hb.size, fun k a b c d hk => ?_⟩
  obtain ⟨x0, x1, x2, x3⟩ := hc k a b c d hk
  exact ⟨cellThru hb h2 x0, cellThru hb h2 x1, cellThru hb h2 x2, cellThru hb h2 x3⟩
theorem LRow.put {F : Nat} {A : Option Addr} {l : List Lf4} {W : World} (H : LRow F A l W) (a b c d : Int) : LRow F A l (put4 W F a b c d) := by
  intro hl
  obtain ⟨g, off, e, h1, h2, hc⟩ := H hl
  refine ⟨g, off, e, h1, by simpa using h2, fun k p q r s hk => ?_⟩
  obtain ⟨x0, x1, x2, x3⟩ := hc k p q r s hk
  exact ⟨oth4 h1 x0, oth4 h1 x1, oth4 h1 x2, oth4 h1 x3⟩
theorem LRow.of {F : Nat} {A : Option Addr} {l : List Lf4} {W W1 : World} (h : LfRow W W.heap.size A l) (hb : Below W.heap.size W W1) (hF : ∀ g off, A = some ⟨g, off, none⟩ → g < W.heap.size → g ≠ F) : LRow F A l W1 := by
  intro hl
  obtain ⟨g, off, e, h2, hc⟩ := h hl
  refine ⟨g, off, e, hF g off e h2, Nat.lt_of_lt_of_le h2 hb.size, fun k a b c d hk => ?_⟩
  obtain ⟨x0, x1, x2, x3⟩ := hc k a b c d hk
  exact ⟨cellThru hb h2 x0, cellThru hb h2 x1, cellThru hb h2 x2, cellThru hb h2 x3⟩
/-- What the search holds: the angle, the answer's block, the best pair so far. -/
structure LimS (w : World) (F : Nat) (n d : Int) (b : Lf4) (W : World) : Prop where
  B : Below w.heap.size w W
  lF : w.heap.size + 1 < F
  k0 : W.cell? ⟨w.heap.size, 0, none⟩ = some (.int .i64 n)
  k1 : W.cell? ⟨w.heap.size, 1, none⟩ = some (.int .i64 d)
  b : BoxP F b W
  r : ∃ q, BoxP (w.heap.size + 1) q W
theorem LimS.on {w : World} {F : Nat} {n d : Int} {b : Lf4} {W W1 : World} (H : LimS w F n d b W) (hb : Below W.heap.size W W1) : LimS w F n d b W1 := by
  have h := H.lF
  have z := H.b.z
  exact ⟨belowNext H.B hb, H.lF, cellThru hb (by omega) H.k0, cellThru hb (by omega) H.k1, H.b.on hb, H.r.imp fun _ h => h.on hb⟩
theorem LimS.put {w : World} {F : Nat} {n d : Int} {p : Lf4} {W : World} (H : LimS w F n d p W) (a b c e : Int) : LimS w F n d (a, b, c, e) (put4 W F a b c e) := by
  have h := H.lF
  have h1 : w.heap.size ≤ F := by omega
  exact ⟨(((H.B.setCell h1 _).setCell h1 _).setCell h1 _).setCell h1 _, H.lF, oth4 (by omega) H.k0, oth4 (by omega) H.k1, H.b.put a b c e, H.r.imp fun _ h => h.off (by omega) a b c e⟩
/-- With the pair that is looked at. -/
structure LimT (w : World) (F : Nat) (n d : Int) (b : Lf4) (G : Nat) (p : Lf4) (W : World) : Prop where
  s : LimS w F n d b W
  ne : F ≠ G
  p : BoxP G p W
theorem LimT.on {w : World} {F : Nat} {n d : Int} {b : Lf4} {G : Nat} {p : Lf4} {W W1 : World} (H : LimT w F n d b G p W) (hb : Below W.heap.size W W1) : LimT w F n d b G p W1 := ⟨H.s.on hb, H.ne, H.p.on hb⟩

theorem LimS.zx {w : World} {F : Nat} {n d : Int} {b : Lf4} {W : World} (H : LimS w F n d b W) : w.heap.size < W.heap.size := by have := H.lF; have := H.b.z; omega
theorem boxNew (W : World) (a b c d : Int) (T : TypeId) : BoxP W.heap.size (a, b, c, d) (W.alloc (.cells #[.int .i64 a, .int .i64 b, .int .i64 c, .int .i64 d] T)) :=
  ⟨by simp, by simp [go_sem], by simp [go_sem], by simp [go_sem], by simp [go_sem], by simp [go_sem], by simp [go_sem], by simp [go_sem], by simp [go_sem]⟩
theorem eqA_swap (a b c d : Int) : eqA a b c d = eqA c d a b := by unfold eqA; rw [BEq.comm (a := a), BEq.comm (a := b)]
theorem pairs8 (w : World) : Calls Try.prog 75 #[.int .i64 8] w fun e w' => ∃ A cap, e = .returned (.slice A (upK 7).length cap) ∧ w'.ownsRow w.heap.size 52 4 (.slice A (upK 7).length cap) (upK 7).length (flatP ((upK 7).map (·.1))) ∧ Below w.heap.size w w' := specPairs 8 w (by omega) (by omega)
theorem limB_ok {n d : Int} (h : lmB n d = true) : okP (lmP n d) = true := mapOk (m := 7) (by omega) _ (lm_min h).1

theorem end4 {W : World} {F : Nat} {x0 x1 x2 x3 : Int} (z : F < W.heap.size) (c0 : W.cell? ⟨F, 0, none⟩ = some (.int .i64 x0)) (c1 : W.cell? ⟨F, 1, none⟩ = some (.int .i64 x1)) (c2 : W.cell? ⟨F, 2, none⟩ = some (.int .i64 x2)) (c3 : W.cell? ⟨F, 3, none⟩ = some (.int .i64 x3)) (a b c d : Int) (o : Obj) :
    ((put4 W F a b c d).alloc o).cell? ⟨F, 0, none⟩ = some (.int .i64 a) ∧ ((put4 W F a b c d).alloc o).cell? ⟨F, 1, none⟩ = some (.int .i64 b) ∧ ((put4 W F a b c d).alloc o).cell? ⟨F, 2, none⟩ = some (.int .i64 c) ∧ ((put4 W F a b c d).alloc o).cell? ⟨F, 3, none⟩ = some (.int .i64 d) := by
  have n : ∀ i j, i ≠ j → (⟨F, j, none⟩ : Addr) ≠ ⟨F, i, none⟩ := fun i j h e => h (by injection e with _ e1; exact e1.symm)
  have up := belowAlloc (w := put4 W F a b c d) (Below.refl _ _) o
  have zz : F < (put4 W F a b c d).heap.size := by simpa using z
  refine ⟨cellThru up zz ?_, cellThru up zz ?_, cellThru up zz ?_, cellThru up zz ?_⟩ <;> unfold put4
  · rw [World.cell?_setCell_other _ _ _ _ (n 0 3 (by omega)), World.cell?_setCell_other _ _ _ _ (n 0 2 (by omega)), World.cell?_setCell_other _ _ _ _ (n 0 1 (by omega))]
    exact World.cell?_setCell_same _ _ _ c0
  · rw [World.cell?_setCell_other _ _ _ _ (n 1 3 (by omega)), World.cell?_setCell_other _ _ _ _ (n 1 2 (by omega))]
    exact World.cell?_setCell_same _ _ _ ((World.cell?_setCell_other _ _ _ _ (n 1 0 (by omega))).trans c1)
  · rw [World.cell?_setCell_other _ _ _ _ (n 2 3 (by omega))]
    exact World.cell?_setCell_same _ _ _ ((World.cell?_setCell_other _ _ _ _ (n 2 1 (by omega))).trans ((World.cell?_setCell_other _ _ _ _ (n 2 0 (by omega))).trans c2))
  · exact World.cell?_setCell_same _ _ _ ((World.cell?_setCell_other _ _ _ _ (n 3 2 (by omega))).trans ((World.cell?_setCell_other _ _ _ _ (n 3 1 (by omega))).trans ((World.cell?_setCell_other _ _ _ _ (n 3 0 (by omega))).trans c3)))

/-- Cells that a region reads. -/
structure L4 (w : World) (p1 p2 p3 p4 : Addr) (v1 v2 v3 v4 : Value) (W : World) : Prop where
  B : Below w.heap.size w W
  z1 : p1.block < W.heap.size
  z2 : p2.block < W.heap.size
  z3 : p3.block < W.heap.size
  z4 : p4.block < W.heap.size
  x1 : W.cell? p1 = some v1
  x2 : W.cell? p2 = some v2
  x3 : W.cell? p3 = some v3
  x4 : W.cell? p4 = some v4
theorem L4.on {w W W1 : World} {p1 p2 p3 p4 : Addr} {v1 v2 v3 v4 : Value} (H : L4 w p1 p2 p3 p4 v1 v2 v3 v4 W) (hb : Below W.heap.size W W1) : L4 w p1 p2 p3 p4 v1 v2 v3 v4 W1 := by
  have hs := hb.size
  have := H.z1
  have := H.z2
  have := H.z3
  have := H.z4
  exact ⟨belowNext H.B hb, by omega, by omega, by omega, by omega, (hb.cell H.z1).trans H.x1, (hb.cell H.z2).trans H.x2, (hb.cell H.z3).trans H.x3, (hb.cell H.z4).trans H.x4⟩
theorem eqlRp (a b c d e f g h : Int) (W : World) : (binOp .eql 52 (leafV a b c d) (leafV e f g h)).run Try.prog W = .ok (.bool (decide ((a, b, c, d) = (e, f, g, h)))) W := by
  by_cases h1 : a = e
  · subst h1
    by_cases h2 : b = f
    · subst h2
      by_cases h3 : c = g
      · subst h3
        by_cases h4 : d = h
        · subst h4; simp [go_sem]
        · simp [go_sem, h4]
      · simp [go_sem, h3]
    · simp [go_sem, h2]
  · simp [go_sem, h1]
def obC (n d m c : Int) : Int := if isAng n d && isAng m c then 0 else 1
theorem ob_no1 {n d : Int} (m c : Int) (h : isAng n d = false) : obB n d m c = false ∧ obC n d m c = 1 := by unfold obB obC; rw [h]; exact ⟨rfl, rfl⟩
theorem ob_no2 (n d : Int) {m c : Int} (h : isAng m c = false) : obB n d m c = false ∧ obC n d m c = 1 := by unfold obB obC; rw [h]; cases isAng n d <;> exact ⟨rfl, rfl⟩
theorem ob_yes {n d m c : Int} (h1 : isAng n d = true) (h2 : isAng m c = true) : obB n d m c = (lmB n d && (lmB (redN (-m) c) (redD (-m) c) && decide (lmP n d = lmP (redN (-m) c) (redD (-m) c)))) ∧ obC n d m c = 0 := by unfold obB obC; rw [h1, h2]; exact ⟨rfl, rfl⟩

theorem opp_isAng {m c : Int} (h : isAng m c = true) : isAng (redN (-m) c) (redD (-m) c) = true := by
  obtain ⟨e1, e2⟩ := Prod.mk.inj (show (redN (-m) c, redD (-m) c) = ((opX (m, c)).1, (opX (m, c)).2) from op_eq h)
  rw [e1, e2]
  exact op_ang h
theorem ob_dec {n d m c : Int} (h : lmB n d = true) : decide (lmP n d = lmP m c) = (lmB m c && decide (lmP n d = lmP m c)) := by
  cases hb : lmB m c
  · rw [lm_zero hb]
    have h1 := limB_ok h
    refine decide_eq_false fun e => ?_
    rw [e] at h1
    exact absurd h1 (by decide)
  · rfl
end Go.Proofs.Ytnciiodgkanpjaa

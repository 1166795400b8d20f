/-
  Plain mathematics: turning an angle over turns its limb over; being obstructed does not depend on the order. No program in sight.
-/
import Derived.Test.YtabddjfgbhnldaaLM1
import Derived.Test.YtabddjfgbhnldaaW11
namespace Go.Proofs.Ytabddjfgbhnldaa
open Go.RowKit

def pL9 : List Lf4 := [(1, 3, 2, 3), (1, 7, 2, 7), (3, 7, 4, 7), (5, 7, 6, 7), (1, 15, 2, 15), (1, 5, 4, 15), (2, 5, 3, 5), (7, 15, 8, 15), (11, 15, 4, 5), (13, 15, 14, 15), (1, 31, 2, 31), (3, 31, 4, 31), (5, 31, 6, 31), (7, 31, 8, 31), (9, 31, 10, 31), (11, 31, 12, 31), (13, 31, 18, 31), (14, 31, 17, 31), (15, 31, 16, 31), (19, 31, 20, 31), (21, 31, 22, 31), (23, 31, 24, 31), (25, 31, 26, 31), (27, 31, 28, 31), (29, 31, 30, 31), (1, 63, 2, 63), (1, 21, 4, 63), (5, 63, 2, 21), (1, 9, 8, 63), (10, 63, 17, 63), (11, 63, 4, 21), (13, 63, 2, 9), (5, 21, 16, 63), (19, 63, 20, 63), (22, 63, 25, 63), (23, 63, 8, 21), (26, 63, 37, 63), (4, 9, 5, 9), (29, 63, 34, 63), (10, 21, 11, 21), (31, 63, 32, 63), (38, 63, 41, 63), (13, 21, 40, 63), (43, 63, 44, 63), (46, 63, 53, 63), (47, 63, 16, 21), (7, 9, 50, 63), (17, 21, 52, 63), (55, 63, 8, 9), (19, 21, 58, 63), (59, 63, 20, 21), (61, 63, 62, 63), (1, 127, 2, 127), (3, 127, 4, 127), (5, 127, 6, 127), (7, 127, 8, 127), (9, 127, 10, 127), (11, 127, 12, 127), (13, 127, 14, 127), (15, 127, 16, 127), (17, 127, 18, 127), (19, 127, 20, 127), (21, 127, 22, 127), (23, 127, 24, 127), (25, 127, 34, 127), (26, 127, 33, 127), (27, 127, 28, 127), (29, 127, 30, 127), (31, 127, 32, 127), (35, 127, 36, 127), (37, 127, 38, 127), (39, 127, 40, 127), (41, 127, 42, 127), (43, 127, 44, 127), (45, 127, 50, 127), (46, 127, 49, 127), (47, 127, 48, 127), (51, 127, 52, 127), (53, 127, 74, 127), (54, 127, 73, 127), (55, 127, 56, 127), (57, 127, 70, 127), (58, 127, 69, 127), (59, 127, 68, 127), (60, 127, 67, 127), (61, 127, 66, 127), (62, 127, 65, 127), (63, 127, 64, 127), (71, 127, 72, 127), (75, 127, 76, 127), (77, 127, 82, 127), (78, 127, 81, 127), (79, 127, 80, 127), (83, 127, 84, 127), (85, 127, 86, 127), (87, 127, 88, 127), (89, 127, 90, 127), (91, 127, 92, 127), (93, 127, 102, 127), (94, 127, 101, 127), (95, 127, 96, 127), (97, 127, 98, 127), (99, 127, 100, 127), (103, 127, 104, 127), (105, 127, 106, 127), (107, 127, 108, 127), (109, 127, 110, 127), (111, 127, 112, 127), (113, 127, 114, 127), (115, 127, 116, 127), (117, 127, 118, 127), (119, 127, 120, 127), (121, 127, 122, 127), (123, 127, 124, 127), (125, 127, 126, 127), (1, 255, 2, 255), (1, 85, 4, 255), (1, 51, 2, 85), (7, 255, 8, 255), (3, 85, 2, 51), (11, 255, 4, 85), (13, 255, 14, 255), (1, 17, 16, 255), (6, 85, 11, 85), (19, 255, 4, 51), (7, 85, 22, 255), (23, 255, 8, 85), (5, 51, 26, 255), (9, 85, 28, 255), (29, 255, 2, 17), (31, 255, 32, 255), (7, 51, 12, 85), (37, 255, 38, 255), (13, 85, 8, 51), (41, 255, 10, 51), (14, 85, 49, 255), (43, 255, 44, 255), (3, 17, 46, 255), (47, 255, 16, 85), (52, 255, 67, 255), (53, 255, 18, 85), (11, 51, 56, 255), (19, 85, 22, 85), (58, 255, 13, 51), (59, 255, 4, 17), (61, 255, 62, 255), (21, 85, 64, 255), (23, 85, 14, 51), (71, 255, 24, 85), (73, 255, 74, 255), (5, 17, 76, 255), (77, 255, 26, 85), (79, 255, 16, 51), (27, 85, 82, 255), (83, 255, 28, 85), (86, 255, 89, 255), (29, 85, 88, 255), (6, 17, 101, 255), (91, 255, 92, 255), (31, 85, 98, 255), (94, 255, 97, 255), (19, 51, 32, 85), (33, 85, 20, 51), (103, 255, 104, 255), (7, 17, 10, 17), (106, 255, 149, 255), (107, 255, 36, 85), (109, 255, 146, 255), (22, 51, 113, 255), (37, 85, 112, 255), (38, 85, 47, 85), (23, 51, 28, 51), (116, 255, 139, 255), (39, 85, 46, 85), (118, 255, 137, 255), (8, 17, 9, 17), (121, 255, 134, 255), (122, 255, 133, 255), (41, 85, 44, 85), (124, 255, 131, 255), (25, 51, 26, 51), (42, 85, 43, 85), (127, 255, 128, 255), (142, 255, 29, 51), (143, 255, 48, 85), (49, 85, 148, 255), (151, 255, 152, 255), (154, 255, 11, 17), (31, 51, 52, 85), (157, 255, 54, 85), (158, 255, 161, 255), (53, 85, 32, 51), (163, 255, 164, 255), (166, 255, 169, 255), (167, 255, 56, 85), (57, 85, 172, 255), (173, 255, 58, 85), (35, 51, 176, 255), (59, 85, 178, 255), (179, 255, 12, 17), (181, 255, 182, 255), (61, 85, 184, 255), (37, 51, 62, 85), (188, 255, 203, 255), (63, 85, 66, 85), (38, 51, 197, 255), (191, 255, 64, 85), (193, 255, 194, 255), (13, 17, 196, 255), (199, 255, 40, 51), (67, 85, 202, 255), (41, 51, 214, 255), (206, 255, 71, 85), (69, 85, 208, 255), (209, 255, 14, 17), (211, 255, 212, 255), (43, 51, 72, 85), (217, 255, 218, 255), (73, 85, 44, 51), (74, 85, 79, 85), (223, 255, 224, 255), (15, 17, 226, 255), (227, 255, 76, 85), (229, 255, 46, 51), (77, 85, 232, 255), (233, 255, 78, 85), (47, 51, 236, 255), (239, 255, 16, 17), (241, 255, 242, 255), (81, 85, 244, 255), (49, 51, 82, 85), (247, 255, 248, 255), (83, 85, 50, 51), (251, 255, 84, 85), (253, 255, 254, 255)]
set_option maxRecDepth 100000 in
theorem pE9 : (upK 7).map (·.1) = pL9 := by
  rw [upK_succ, jE8, uE8, aE8]
  decide +kernel
/-- A pair turned over. -/
def cjP (p : Lf4) : Lf4 := (p.2.2.2 - p.2.2.1, p.2.2.2, p.2.1 - p.1, p.2.1)
theorem cj_all : (pL9.all fun p => pL9.contains (cjP p)) = true := by decide +kernel
theorem cj_mem {p : Lf4} (h : p ∈ (upK 7).map (·.1)) : cjP p ∈ (upK 7).map (·.1) := by
  rw [pE9] at h ⊢
  have := List.all_eq_true.1 cj_all p h
  simpa using this
theorem low_all : (pL9.all fun p => decide (0 < p.1)) = true := by decide +kernel
theorem low_pos {p : Lf4} (h : p ∈ (upK 7).map (·.1)) : 0 < p.1 := by
  rw [pE9] at h
  have := List.all_eq_true.1 low_all p h
  simpa using this
theorem cj_cj (p : Lf4) : cjP (cjP p) = p := by
  obtain ⟨a, b, c, d⟩ := p
  unfold cjP
  dsimp only
  rw [show b - (b - a) = a by omega, show d - (d - c) = c by omega]
/-- The opposite of an angle. -/
def opX (x : Int × Int) : Int × Int := if x.1 = 0 then x else (x.2 - x.1, x.2)
theorem op_op {x : Int × Int} (h : x.1 < x.2) : opX (opX x) = x := by
  unfold opX
  split
  · rfl
  · next h0 =>
    dsimp only
    rw [if_neg (by omega)]
    rw [show x.2 - (x.2 - x.1) = x.1 by omega]
theorem op_eq {n d : Int} (h : isAng n d = true) : (redN (-n) d, redD (-n) d) = opX (n, d) := by
  obtain ⟨h1, h2, h3, h4, h5⟩ := isAng_yes h
  unfold opX
  dsimp only
  by_cases h0 : n = 0
  · subst h0
    rw [if_pos rfl]
    have e : ((-(0 : Int)) % d) = 0 := by simp
    unfold redN redD
    rw [e, h5]
    simp
  · rw [if_neg h0]
    have e0 : n % d = n := Int.emod_eq_of_lt h3 h4
    have e : ((-n) % d) = d - n := by rw [emod_neg_pos n d (by omega) (by rw [e0]; omega), e0]
    unfold redN redD
    rw [e, gcdI_neg, h5]
    simp
theorem op_ang {n d : Int} (h : isAng n d = true) : isAng (opX (n, d)).1 (opX (n, d)).2 = true := by
  obtain ⟨h1, h2, h3, h4, h5⟩ := isAng_yes h
  unfold opX
  split
  · exact h
  · next h0 =>
    dsimp only at h0 ⊢
    unfold isAng
    exact decide_eq_true ⟨h1, h2, by omega, by omega, by rw [gcdI_neg]; exact h5⟩
theorem ltA_cj (a b c d : Int) : ltA (d - c) d (b - a) b = ltA a b c d := by
  unfold ltA
  rw [Int.sub_mul, Int.sub_mul, Int.mul_comm d b]
  generalize b * d = X
  generalize c * b = Y
  generalize a * d = Z
  by_cases h : Z < Y
  · rw [decide_eq_true h, decide_eq_true (by omega)]
  · rw [decide_eq_false h, decide_eq_false (by omega)]
theorem cls_op {x : Int × Int} {p : Lf4} (hp : p ∈ (upK 7).map (·.1)) (hx : isAng x.1 x.2 = true) (h : clsX x p = true) : clsX (opX x) (cjP p) = true := by
  have hok := mapOk (m := 7) (by omega) p hp
  have h0 := low_pos hp
  have hc := mapOk (m := 7) (by omega) _ (cj_mem hp)
  have hcl := (isLf_yes hc).2.2
  obtain ⟨x1, x2, x3, x4, _⟩ := isAng_yes hx
  obtain ⟨n, e⟩ := x
  have hl := (isLf_yes hok).2.2
  have hu := (isLf_yes hok).2.1.1
  obtain ⟨a, b, c, d⟩ := p
  dsimp only at *
  have hc0 : c ≠ 0 := by
    rintro rfl
    unfold ltA at hl
    have := of_decide_eq_true hl
    have h2 : 0 < a * d := Int.mul_pos h0 (by omega)
    omega
  unfold clsX at h ⊢
  rw [Bool.or_eq_true] at h ⊢
  rcases h with h | h
  · left
    obtain ⟨g1, g2⟩ := ins_low hok h
    dsimp only at g1 g2
    have hn : n ≠ 0 := by
      rintro rfl
      unfold ltA at g1
      have := of_decide_eq_true g1
      have h2 : 0 < a * e := Int.mul_pos h0 (by omega)
      omega
    unfold opX
    dsimp only
    rw [if_neg hn]
    unfold insX arcB cjP
    dsimp only
    rw [ltA_cj a b c d, hl, ltA_cj n e c d, ltA_cj a b n e, g1, g2]
    rfl
  · right
    rw [inP_iff]
    unfold opX cjP
    rcases (inP_iff _ _).1 h with e1 | e1
    · right
      obtain ⟨rfl, rfl⟩ := Prod.mk.inj e1
      dsimp only
      rw [if_neg (by omega)]
    · left
      obtain ⟨rfl, rfl⟩ := Prod.mk.inj e1
      dsimp only
      rw [if_neg hc0]
/-- Of two pairs to whose wakes an angle belongs, the one that begins earlier ends later. -/
theorem cls_nest {x : Int × Int} {q r : Lf4 × Nat} (hx : isAng x.1 x.2 = true) (hq : q ∈ upK 7) (hr : r ∈ upK 7) (h1 : clsX x q.1 = true) (h2 : clsX x r.1 = true) (hl : lowLt r.1 q.1 = true) : ltA q.1.2.2.1 q.1.2.2.2 r.1.2.2.1 r.1.2.2.2 = true := by
  have okq := upK_ok 7 (by omega) q hq
  have okr := upK_ok 7 (by omega) r hr
  have hs := ins_same (m := 7) (by omega) hq hr
  have pq : 0 < q.1.2.1 := ok_pos okq
  have pu : 0 < q.1.2.2.2 := by have := (isLf_yes okq).2.1.1; dsimp only at this; omega
  have pr : 0 < r.1.2.2.2 := by have := (isLf_yes okr).2.1.1; dsimp only at this; omega
  have px : 0 < x.2 := by have := (isAng_yes hx).1; omega
  have hne : ∀ y, inP y q.1 = true → inP y r.1 = true → False := fun y a b => by
    have e := upK_one 7 (by omega) y q r hq hr a b
    rw [e, low_irr] at hl
    cases hl
  have key : ltA q.1.1 q.1.2.1 r.1.2.2.1 r.1.2.2.2 = true := by
    unfold clsX at h1 h2
    rw [Bool.or_eq_true] at h1 h2
    rcases h2 with h2 | h2
    · obtain ⟨_, b2⟩ := ins_low okr h2
      rcases h1 with h1 | h1
      · exact ltA_tr pq px pr (ins_low okq h1).1 b2
      · rcases (inP_iff _ _).1 h1 with e | e
        · rw [← e] at b2; exact b2
        · rw [← e] at b2
          exact ltA_tr pq pu pr (isLf_yes okq).2.2 b2
    · rcases h1 with h1 | h1
      · obtain ⟨a1, _⟩ := ins_low okq h1
        rcases (inP_iff _ _).1 h2 with e | e
        · rw [← e] at a1
          have := ltA_asymm a1
          unfold lowLt at hl
          rw [hl] at this
          cases this
        · rw [← e] at a1; exact a1
      · exact (hne x h1 h2).elim
  have hi : insX (q.1.1, q.1.2.1) r.1 = true := by
    unfold insX arcB
    rw [(isLf_yes okr).2.2]
    unfold lowLt at hl
    rw [hl, key]
    rfl
  rw [hs] at hi
  exact (ins_low okr hi).2
/-- The limb of the opposite angle is the limb turned over. -/
theorem lm_op {n d : Int} (h : isAng n d = true) : lmB (opX (n, d)).1 (opX (n, d)).2 = lmB n d ∧ (lmB n d = true → lmP (opX (n, d)).1 (opX (n, d)).2 = cjP (lmP n d)) := by
  have hr := isAng_yes h
  have h2 := op_ang h
  have hs := lm_same h2
  have hoo : opX (opX (n, d)) = (n, d) := op_op hr.2.2.2.1
  have back : ∀ r ∈ (upK 7).map (·.1), clsX (opX (n, d)) r = true → clsX (n, d) (cjP r) = true := fun r hr hc => by
    have := cls_op hr (x := opX (n, d)) h2 hc
    rwa [hoo] at this
  rw [show ((opX (n, d)).1, (opX (n, d)).2) = opX (n, d) from rfl] at hs
  cases hb : lmB n d
  · have hn := lm_none h hb
    have : limF (opX (n, d)) ((upK 7).map (·.1)) = ((0, 0, 0, 0), false) := by
      unfold limF
      refine limF_none fun r hr => ?_
      cases e : clsX (opX (n, d)) r
      · rfl
      · have := hn _ (cj_mem hr)
        rw [back r hr e] at this
        cases this
    rw [this] at hs
    exact ⟨(Prod.mk.inj hs).2.symm, fun h => by cases h⟩
  · obtain ⟨m1, m2, m3⟩ := lm_min hb
    have : limF (opX (n, d)) ((upK 7).map (·.1)) = (cjP (lmP n d), true) := by
      unfold limF
      refine limF_min (cls_op m1 (x := (n, d)) h m2) (fun r hr hc => ?_) (.inl rfl) (.inr (cj_mem m1))
      have hb2 := back r hr hc
      have hm := cj_mem hr
      rcases m3 _ hm hb2 with e | e
      · left
        rw [← e, cj_cj]
      · right
        rw [List.mem_map] at m1 hm
        obtain ⟨z, hz, ez⟩ := m1
        obtain ⟨y, hy, ey⟩ := hm
        have hh := cls_nest (x := (n, d)) h hy hz (by rw [ey]; exact hb2) (by rw [ez]; exact m2) (by rw [ey, ez]; exact e)
        rw [ez] at hh
        have e3 : r = cjP y.1 := by rw [ey, cj_cj]
        rw [e3]
        unfold lowLt cjP
        rw [ltA_cj]
        exact hh
    rw [this] at hs
    exact ⟨(Prod.mk.inj hs).2.symm, fun _ => (Prod.mk.inj hs).1.symm⟩
/-- What AreObstructed answers. -/
def obB (n d m c : Int) : Bool := isAng n d && (isAng m c && (lmB n d && (lmB (redN (-m) c) (redD (-m) c) && decide (lmP n d = lmP (redN (-m) c) (redD (-m) c)))))
theorem ob_one {n d m c : Int} (h1 : isAng n d = true) (h2 : isAng m c = true) : obB n d m c = (lmB n d && (lmB m c && decide (lmP n d = cjP (lmP m c)))) := by
  have e := op_eq h2
  obtain ⟨e1, e2⟩ := Prod.mk.inj (show (redN (-m) c, redD (-m) c) = ((opX (m, c)).1, (opX (m, c)).2) from e)
  obtain ⟨a, b⟩ := lm_op h2
  unfold obB
  rw [h1, h2, e1, e2, a]
  cases hb : lmB m c
  · rfl
  · rw [b hb]
    rfl
theorem ob_sym (n d m c : Int) : obB n d m c = obB m c n d := by
  cases h1 : isAng n d
  · unfold obB; rw [h1]; simp
  · cases h2 : isAng m c
    · unfold obB; rw [h2]; simp
    · rw [ob_one h1 h2, ob_one h2 h1]
      have : decide (lmP n d = cjP (lmP m c)) = decide (lmP m c = cjP (lmP n d)) := by
        refine decide_eq_decide.2 ⟨fun h => ?_, fun h => ?_⟩
        · rw [h, cj_cj]
        · rw [h, cj_cj]
      rw [this]
      cases lmB n d <;> cases lmB m c <;> rfl
/-- A limb has the angle. -/
theorem lm_has {n d : Int} (hb : lmB n d = true) : ltA n d (lmP n d).1 (lmP n d).2.1 = false ∧ ltA (lmP n d).2.2.1 (lmP n d).2.2.2 n d = false := by
  obtain ⟨m1, m2, _⟩ := lm_min hb
  have hok := mapOk (m := 7) (by omega) _ m1
  have hl := (isLf_yes hok).2.2
  unfold clsX at m2
  rw [Bool.or_eq_true] at m2
  rcases m2 with m2 | m2
  · obtain ⟨a, b⟩ := ins_low hok m2
    exact ⟨ltA_asymm a, ltA_asymm b⟩
  · rcases (inP_iff _ _).1 m2 with e | e
    · obtain ⟨e1, e2⟩ := Prod.mk.inj e
      rw [e1, e2] at hl ⊢
      exact ⟨ltA_irr _ _, ltA_asymm hl⟩
    · obtain ⟨e1, e2⟩ := Prod.mk.inj e
      rw [e1, e2] at hl ⊢
      exact ⟨ltA_asymm hl, ltA_irr _ _⟩
end Go.Proofs.Ytabddjfgbhnldaa

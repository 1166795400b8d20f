/-
  Contracts: spec.l07Joined; written by genJ10.py.
-/
import Derived.Test.YtdmppdfncbljoaaJB
import Derived.Deep.LoopGhost
namespace Go.Proofs.Ytdmppdfncbljoaa
open Go.RowKit

theorem own_neJ {w : World} {lo lo' : Nat} {e e' : TypeId} {k k' : Nat} {v v' : Value} {n n' : Nat} {xs xs' : List Value} (h : w.ownsRow lo e k v n xs) (g : w.ownsRow lo' e' k' v' n' xs') (hne : e ≠ e') : v.ownBlock = none ∨ v.ownBlock ≠ v'.ownBlock := by
  rcases h.2 with ⟨rfl, _⟩ | ⟨g1, c1, cur1, rfl, _, hc, _⟩
  · exact .inl rfl
  refine .inr fun e2 => ?_
  rcases g.2 with ⟨rfl, _⟩ | ⟨g2, c2, cur2, rfl, _, hc2, _⟩
  · simp [Value.ownBlock] at e2
  simp [Value.ownBlock] at e2
  subst e2
  rw [hc] at hc2
  injection hc2 with hc2
  injection hc2 with _ h2 _
  exact hne h2
/-- Slices that hold lists of angles, in blocks below B. -/
def RowIn (W : World) (B : Nat) (xs : List Value) (ls : List (List (Int × Int))) : Prop := xs.length = ls.length ∧ ∀ (i : Nat) (l : List (Int × Int)), ls[i]? = some l → ∃ (A : Option Addr) (c : Nat), xs[i]? = some (Value.slice A l.length c) ∧ AngRow W B A l
theorem RowIn.push {W : World} {B : Nat} {xs : List Value} {ls : List (List (Int × Int))} (h : RowIn W B xs ls) {A : Option Addr} {c : Nat} {l : List (Int × Int)} (hA : AngRow W B A l) : RowIn W B (xs ++ [Value.slice A l.length c]) (ls ++ [l]) := by
  refine ⟨by simp [h.1], fun i m hi => ?_⟩
  by_cases e : i < ls.length
  · rw [List.getElem?_append_left e] at hi
    obtain ⟨B', c', h1, h2⟩ := h.2 i m hi
    exact ⟨B', c', by rw [List.getElem?_append_left (by have := h.1; omega)]; exact h1, h2⟩
  · have hil : i < (ls ++ [l]).length := (List.getElem?_eq_some_iff.1 hi).1
    simp at hil
    obtain rfl : i = ls.length := by omega
    rw [List.getElem?_append_right (Nat.le_refl _), Nat.sub_self] at hi
    simp at hi
    subst hi
    exact ⟨A, c, by rw [List.getElem?_append_right (by have := h.1; omega), h.1, Nat.sub_self]; rfl, hA⟩
theorem RowIn.below {W W' : World} {B : Nat} {xs : List Value} {ls : List (List (Int × Int))} (h : RowIn W B xs ls) (hb : Below B W W') : RowIn W' B xs ls := ⟨h.1, fun i l hi => by
  obtain ⟨A, c, h1, h2⟩ := h.2 i l hi
  exact ⟨A, c, h1, h2.below hb⟩⟩
theorem RowIn.more {W : World} {B B' : Nat} {xs : List Value} {ls : List (List (Int × Int))} (h : RowIn W B xs ls) (hb : B ≤ B') : RowIn W B' xs ls := ⟨h.1, fun i l hi => by
  obtain ⟨A, c, h1, h2⟩ := h.2 i l hi
  exact ⟨A, c, h1, h2.more hb⟩⟩
theorem RowIn.sets {W : World} {lo : Nat} {e : TypeId} {A : Option Addr} {n c : Nat} {xs : List Value} {ls : List (List (Int × Int))} (h : RowIn W W.heap.size xs ls) (ho : W.ownsRow lo e 1 (.slice A n c) n xs) : SetsRow W W.heap.size A ls := by
  intro hne
  have h0 : 0 < ls.length := List.length_pos_iff.mpr hne
  have h1 : xs.length = n := by have := ho.1; omega
  obtain ⟨g, c', hv, hc⟩ := ho.form (by have := h.1; omega)
  injection hv with hA _ _
  subst hA
  refine ⟨g, 0, rfl, (ho.lt g rfl).2, fun i hi => ?_⟩
  obtain ⟨Ai, ci, h2, h3⟩ := h.2 i _ (gA_some hi)
  refine ⟨Ai, ci, ?_, h3⟩
  have := ho.cells (g := g) rfl i _ h2
  rw [Nat.zero_add]
  refine Eq.trans ?_ this
  cases i <;> simp [Addr.add]

/-- The orbit of an angle, as far as n. -/
def orbL (p : Int × Int) (n : Nat) : List (Int × Int) := (List.range n).map (orb p)
theorem orbL_len (p : Int × Int) (n : Nat) : (orbL p n).length = n := by simp [orbL]
theorem orbL_at {p : Int × Int} {n i : Nat} (h : i < n) : (orbL p n)[i]? = some ((orb p i).1, (orb p i).2) := by
  unfold orbL
  rw [List.getElem?_map, List.getElem?_range h]
  rfl
/-- The sets after i joins. -/
def stJ (a b : Int × Int) : Nat → List (List (Int × Int))
  | 0 => []
  | i + 1 => joinJ (stJ a b i) (orb a i) (orb b i)
theorem stJ_part {a b : Int × Int} (ha : Red a) (hb : Red b) : ∀ i, PartJ (pairJ dbl a b i) (stJ a b i)
  | 0 => part_nil
  | i + 1 => by
    rw [pairJ_next, itJ_orb, itJ_orb]
    exact joinJ_part (stJ_part ha hb i) (redAng (orb_red ha i)) (redAng (orb_red hb i))
theorem foldJ_len : ∀ (ss : List (List (Int × Int))) (o : List (Int × Int)), (ss.foldl (fun o S => S.foldl insA o) o).length ≤ o.length + totL ss
  | [], o => by simp [totL]
  | S :: ss, o => by
    have h1 := foldJ_len ss (S.foldl insA o)
    have h2 := foldA_len S o
    simp only [List.foldl_cons, totL]
    omega
theorem totL_filter (f : List (Int × Int) → Bool) : ∀ ls : List (List (Int × Int)), totL (ls.filter f) + totL (ls.filter fun S => !f S) = totL ls
  | [] => rfl
  | l :: ls => by
    have := totL_filter f ls
    cases h : f l
    · rw [List.filter_cons_of_neg (by simp [h]), List.filter_cons_of_pos (by simp [h])]
      simp only [totL]; omega
    · rw [List.filter_cons_of_pos (by simp [h]), List.filter_cons_of_neg (by simp [h])]
      simp only [totL]; omega
theorem stJ_tot (a b : Int × Int) : ∀ i, totL (stJ a b i) ≤ 2 * i ∧ (stJ a b i).length ≤ i
  | 0 => by simp [stJ, totL]
  | i + 1 => by
    obtain ⟨h1, h2⟩ := stJ_tot a b i
    have h3 := totL_filter (hasJ (orb a i) (orb b i)) (stJ a b i)
    have h4 := foldJ_len ((stJ a b i).filter (hasJ (orb a i) (orb b i))) (insA (insA [] (orb a i)) (orb b i))
    have h5 := insA_le (insA [] (orb a i)) (orb b i)
    have h6 := insA_le [] (orb a i)
    have h7 : ((stJ a b i).filter fun S => !hasJ (orb a i) (orb b i) S).length ≤ (stJ a b i).length := List.length_filter_le _ _
    show totL (joinJ _ _ _) ≤ _ ∧ (joinJ _ _ _).length ≤ _
    unfold joinJ
    rw [totL_app, List.length_append]
    unfold ownJ
    simp only [totL, List.length_cons, List.length_nil] at h6 ⊢
    omega
/-- What is put together from the first k sets. -/
def oJ (ls : List (List (Int × Int))) (p q : Int × Int) (k : Nat) : List (Int × Int) := ((ls.take k).filter (hasJ p q)).foldl (fun o S => S.foldl insA o) (insA (insA [] p) q)
def rJ (ls : List (List (Int × Int))) (p q : Int × Int) (k : Nat) : List (List (Int × Int)) := (ls.take k).filter fun S => !hasJ p q S
theorem take_nextJ {ls : List (List (Int × Int))} {k : Nat} (h : k < ls.length) : ls.take (k + 1) = ls.take k ++ [gA ls k] := by
  rw [List.take_add_one, gA_some h, Option.toList_some]
theorem rJ_no {ls : List (List (Int × Int))} {p q : Int × Int} {k : Nat} (h : k < ls.length) (g : hasJ p q (gA ls k) = false) : rJ ls p q (k + 1) = rJ ls p q k ++ [gA ls k] ∧ oJ ls p q (k + 1) = oJ ls p q k := by
  unfold rJ oJ
  rw [take_nextJ h, List.filter_append, List.filter_append, List.filter_cons_of_pos (by simp [g]), List.filter_cons_of_neg (by simp [g])]
  simp
theorem rJ_yes {ls : List (List (Int × Int))} {p q : Int × Int} {k : Nat} (h : k < ls.length) (g : hasJ p q (gA ls k) = true) : rJ ls p q (k + 1) = rJ ls p q k ∧ oJ ls p q (k + 1) = (gA ls k).foldl insA (oJ ls p q k) := by
  unfold rJ oJ
  rw [take_nextJ h, List.filter_append, List.filter_append, List.filter_cons_of_neg (by simp [g]), List.filter_cons_of_pos (by simp [g]), List.foldl_append]
  simp
theorem joinJ_end (ls : List (List (Int × Int))) (p q : Int × Int) : rJ ls p q ls.length ++ [oJ ls p q ls.length] = joinJ ls p q := by
  unfold rJ oJ joinJ ownJ
  rw [List.take_length]
theorem oJ_ang {ls : List (List (Int × Int))} {p q : Int × Int} (hp : isAng p.1 p.2 = true) (hq : isAng q.1 q.2 = true) (h : ∀ l ∈ ls, allAng l = true) (k : Nat) : allAng (oJ ls p q k) = true := by
  refine allAng_of fun x hx => ?_
  unfold oJ at hx
  rw [foldJ_mem, insA_mem, insA_mem] at hx
  rcases hx with (rfl | rfl | hx) | ⟨S, hS, hx⟩
  · exact hq
  · exact hp
  · cases hx
  · have := h S (List.mem_of_mem_take ((List.mem_filter.mp hS).1))
    exact allAng_mem this hx
theorem oJ_len (ls : List (List (Int × Int))) (p q : Int × Int) (k : Nat) : (oJ ls p q k).length ≤ 2 + totL ls := by
  have h4 := foldJ_len ((ls.take k).filter (hasJ p q)) (insA (insA [] p) q)
  have h5 := insA_le (insA [] p) q
  have h6 := insA_le [] p
  have h3 := totL_filter (hasJ p q) (ls.take k)
  have h2 := totL_le ls k
  unfold oJ
  simp only [List.length_nil] at h6
  omega
theorem plc_neg (l : List (Int × Int)) (p : Int × Int) : decide (plcI l p < 0) = !decide (p ∈ l) := by
  by_cases h : plc l p < l.length
  · rw [plcI_yes h, decide_eq_true (plc_mem.mp h), decide_eq_false (by omega)]; rfl
  · rw [plcI_no h, decide_eq_false (fun g => h (plc_mem.mpr g))]; rfl
theorem foldA_ang {T O : List (Int × Int)} (hT : allAng T = true) (hO : allAng O = true) (j : Nat) : allAng ((T.take j).foldl insA O) = true := allAng_of fun x hx => by
  rcases (foldA_mem _ _ _).mp hx with h | h
  · exact allAng_mem hT (List.mem_of_mem_take h)
  · exact allAng_mem hO h
theorem fold_nextJ {T O : List (Int × Int)} {j : Nat} {p : Int × Int} (h : T[j]? = some p) : (T.take (j + 1)).foldl insA O = insA ((T.take j).foldl insA O) p := by
  rw [List.take_add_one, h, Option.toList_some, List.foldl_append]
  rfl
/-- What the loop over the sets holds. -/
structure InJ (W0 : World) (b7 : Nat) (c7 : Nat) (O : List (Int × Int)) (v8 : Value) (n8 : Nat) (xs : List Value) (R : List (List (Int × Int))) (W : World) : Prop where
  B : Below W0.heap.size W0 W
  own : W.ownsRow W0.heap.size 29 2 (.slice (some ⟨b7, 0, none⟩) O.length c7) O.length (flatA O)
  rest : W.ownsRow W0.heap.size 73 1 v8 n8 xs
  inn : RowIn W0 W0.heap.size xs R
theorem InJ.on {W0 : World} {b7 c7 : Nat} {O : List (Int × Int)} {v8 : Value} {n8 : Nat} {xs : List Value} {R : List (List (Int × Int))} {W W1 : World} (H : InJ W0 b7 c7 O v8 n8 xs R W) (hb : Below W.heap.size W W1) : InJ W0 b7 c7 O v8 n8 xs R W1 :=
  ⟨belowNext H.B hb, ownKeepA H.own hb, ownKeepA H.rest hb, H.inn⟩
theorem InJ.own' {W0 : World} {b7 c7 : Nat} {O : List (Int × Int)} {v8 : Value} {n8 : Nat} {xs : List Value} {R : List (List (Int × Int))} {W W1 : World} (H : InJ W0 b7 c7 O v8 n8 xs R W) (hb : Below W.heap.size W W1) {b c : Nat} {O' : List (Int × Int)} (ho : W1.ownsRow W0.heap.size 29 2 (.slice (some ⟨b, 0, none⟩) O'.length c) O'.length (flatA O')) : InJ W0 b c O' v8 n8 xs R W1 :=
  ⟨belowNext H.B hb, ho, ownKeepA H.rest hb, H.inn⟩
theorem typesJ : 29 ≠ 73 := by decide
theorem InJ.put {W0 : World} {b7 c7 : Nat} {O : List (Int × Int)} {v8 v9 : Value} {n8 : Nat} {xs : List Value} {R : List (List (Int × Int))} {W W2 : World} (H : InJ W0 b7 c7 O v8 n8 xs R W) {A : Option Addr} {c : Nat} {l : List (Int × Int)} (hA : AngRow W0 W0.heap.size A l)
    (ho : W2.ownsRow W0.heap.size 73 1 v9 (n8 + 1) (xs ++ [.slice A l.length c])) (hg : W.grownBy W2 v8.ownBlock) : InJ W0 b7 c7 O v9 (n8 + 1) (xs ++ [.slice A l.length c]) (R ++ [l]) W2 :=
  ⟨H.B.grown hg H.B.size (fun j hj => (H.rest.lt j hj).1), H.own.kept hg (own_neJ H.own H.rest typesJ), ho, H.inn.push hA⟩
theorem cap_leJ {W : World} {lo : Nat} {e : TypeId} {A : Option Addr} {n c : Nat} {xs : List Value} {m : Nat} (h : W.ownsRow lo e 1 (.slice A n c) m xs) (hm : m = n) : n ≤ c := by
  rcases h.2 with ⟨hv, hn⟩ | ⟨g, cap, cur, hv, _, _, hle, _⟩
  · omega
  · injection hv with _ h2 hc
    omega
/-- What the last loops hold. -/
structure OutJ (W0 : World) (F : Nat) (x : Int × Int) (v : Value) (n : Nat) (xs : List Value) (ls : List (List (Int × Int))) (W : World) : Prop where
  B : Below W0.heap.size W0 W
  lF : W0.heap.size ≤ F
  zF : F < W.heap.size
  x0 : W.cell? ⟨F, 0, none⟩ = some (.int .i64 x.1)
  x1 : W.cell? ⟨F, 1, none⟩ = some (.int .i64 x.2)
  f0 : W.frozen? ⟨F, 0, none⟩ = false
  f1 : W.frozen? ⟨F, 1, none⟩ = false
  own : W.ownsRow W0.heap.size 73 1 v n xs
  ne : v.ownBlock ≠ some F
  inn : RowIn W0 W0.heap.size xs ls
theorem OutJ.on {W0 : World} {F : Nat} {x : Int × Int} {v : Value} {n : Nat} {xs : List Value} {ls : List (List (Int × Int))} {W W1 : World} (H : OutJ W0 F x v n xs ls W) (hb : Below W.heap.size W W1) : OutJ W0 F x v n xs ls W1 :=
  ⟨belowNext H.B hb, H.lF, Nat.lt_of_lt_of_le H.zF hb.size, cellThru hb H.zF H.x0, cellThru hb H.zF H.x1, frozThru hb H.zF H.f0, frozThru hb H.zF H.f1, ownKeepA H.own hb, H.ne, H.inn⟩
theorem OutJ.put {W0 : World} {F : Nat} {x : Int × Int} {v v' : Value} {n : Nat} {xs : List Value} {ls : List (List (Int × Int))} {W W2 : World} (H : OutJ W0 F x v n xs ls W) {A : Option Addr} {c : Nat} {l : List (Int × Int)} (hA : AngRow W0 W0.heap.size A l)
    (ho : W2.ownsRow W0.heap.size 73 1 v' (n + 1) (xs ++ [.slice A l.length c])) (hg : W.grownBy W2 v.ownBlock) (hv : v'.ownBlock = v.ownBlock ∨ ∃ b, v'.ownBlock = some b ∧ W.heap.size ≤ b) : OutJ W0 F x v' (n + 1) (xs ++ [.slice A l.length c]) (ls ++ [l]) W2 := by
  have hne : some F ≠ v.ownBlock := fun e => H.ne e.symm
  have hf : ∀ o, W.frozen? ⟨F, o, none⟩ = false → W2.frozen? ⟨F, o, none⟩ = false := fun o h => (World.frozen?_of_block (a := ⟨F, o, none⟩) (hg.block F H.zF hne)).trans h
  refine ⟨H.B.grown hg H.B.size (fun j hj => (H.own.lt j hj).1), H.lF, Nat.lt_of_lt_of_le H.zF hg.size, cellGS hg H.zF hne H.x0, cellGS hg H.zF hne H.x1, hf _ H.f0, hf _ H.f1, ho, ?_, H.inn.push hA⟩
  rcases hv with h | ⟨b, h, hb⟩
  · rw [h]; exact H.ne
  · rw [h]
    intro e
    have := Option.some.inj e
    have := H.zF
    omega
theorem OutJ.box {W0 : World} {F : Nat} {x : Int × Int} {v : Value} {n : Nat} {xs : List Value} {ls : List (List (Int × Int))} {W : World} (H : OutJ W0 F x v n xs ls W) (q : Int × Int) : OutJ W0 F q v n xs ls ((W.setCell ⟨F, 0, none⟩ (.int .i64 q.1)).setCell ⟨F, 1, none⟩ (.int .i64 q.2)) := by
  obtain ⟨c0, c1⟩ := two_cellsJ (u0 := .int .i64 q.1) (u1 := .int .i64 q.2) H.x0 H.x1
  have hg : W.grownBy ((W.setCell ⟨F, 0, none⟩ (.int .i64 q.1)).setCell ⟨F, 1, none⟩ (.int .i64 q.2)) (some F) := ⟨rfl, rfl, rfl, by simp, fun i hi hne => by
    have h : i ≠ F := fun e => hne (by rw [e])
    rw [Below.heap_setCell _ _ _ _ h, Below.heap_setCell _ _ _ _ h]⟩
  exact ⟨(H.B.setCell H.lF _).setCell H.lF _, H.lF, by simpa using H.zF, c0, c1, by simpa using H.f0, by simpa using H.f1, H.own.kept hg (.inr H.ne), H.ne, H.inn⟩
theorem lsJ_next (S : List (Int × Int)) (j : Nat) : lsJ S (j + 1) = lsJ S j ++ [tJ dbl S j] := by
  unfold lsJ
  rw [List.range_succ, List.map_append]
  rfl
theorem plc_pos (l : List (Int × Int)) (p : Int × Int) : decide (plcI l p ≥ 0) = decide (p ∈ l) := by
  by_cases h : plc l p < l.length
  · rw [plcI_yes h, decide_eq_true (plc_mem.mp h), decide_eq_true (by omega)]
  · rw [plcI_no h, decide_eq_false (fun g => h (plc_mem.mpr g))]; rfl
/-- The sets that have x, among the first i. -/
def mJ (S : List (Int × Int)) (j : Nat) (ls : List (List (Int × Int))) (x : Int × Int) (i : Nat) : List (List (Int × Int)) := lsJ S j ++ (ls.take i).filter fun T => decide (x ∈ T)
theorem mJ_no {S : List (Int × Int)} {j : Nat} {ls : List (List (Int × Int))} {x : Int × Int} {i : Nat} (h : i < ls.length) (g : decide (x ∈ gA ls i) = false) : mJ S j ls x (i + 1) = mJ S j ls x i := by
  unfold mJ
  rw [take_nextJ h, List.filter_append, List.filter_cons_of_neg (by simpa using g)]
  simp
theorem mJ_yes {S : List (Int × Int)} {j : Nat} {ls : List (List (Int × Int))} {x : Int × Int} {i : Nat} (h : i < ls.length) (g : decide (x ∈ gA ls i) = true) : mJ S j ls x (i + 1) = mJ S j ls x i ++ [gA ls i] := by
  unfold mJ
  rw [take_nextJ h, List.filter_append, List.filter_cons_of_pos (p := fun T => decide (x ∈ T)) g, List.append_assoc]
  rfl
theorem mJ_len (S : List (Int × Int)) (j : Nat) (ls : List (List (Int × Int))) (x : Int × Int) (i : Nat) : (mJ S j ls x i).length ≤ j + ls.length := by
  unfold mJ
  rw [List.length_append, lsJ_len]
  have := List.length_filter_le (fun T => decide (x ∈ T)) (ls.take i)
  have h2 : (ls.take i).length ≤ ls.length := by simp; omega
  omega


theorem insNilJ (lo b c : Nat) (p1 p2 : Int) (w : World) (hlo : lo ≤ w.heap.size) (hp : isAng p1 p2 = true) (hown : w.ownsRow lo 29 2 (.slice (some ⟨b, 0, none⟩) 0 c) 0 []) :
    Calls Try.prog 79 #[.slice (some ⟨b, 0, none⟩) 0 c, ang p1 p2] w fun e w' => ∃ b' c', e = .returned (.slice (some ⟨b', 0, none⟩) (insA [] (p1, p2)).length c') ∧ w'.ownsRow lo 29 2 (.slice (some ⟨b', 0, none⟩) (insA [] (p1, p2)).length c') (insA [] (p1, p2)).length (flatA (insA [] (p1, p2))) ∧ Below w.heap.size w w' := specInsA lo b c [] p1 p2 w hlo rfl hp (by simp) hown
theorem insA_ang1 {p : Int × Int} (hp : isAng p.1 p.2 = true) : allAng (insA [] p) = true := allAng_of fun x hx => by
  rcases insA_mem.mp hx with rfl | h
  · exact hp
  · cases h
set_option maxRecDepth 100000 in
set_option maxHeartbeats 8000000 in
theorem specJoined (a b : Int × Int) (n : Nat) (A1 : Option Addr) (c1 : Nat) (A2 : Option Addr) (c2 : Nat) (w : World) (H : TwoJ a b n) (r1 : AngRow w w.heap.size A1 (orbL a n)) (r2 : AngRow w w.heap.size A2 (orbL b n)) (S : List (Int × Int)) (K : Nat) (hc : ClsJ (pairJ dbl a b n) a S) (hs : StopJ dbl S K) :
    Calls Try.prog 53 #[.slice A1 n c1, .slice A2 n c2] w fun e w' => ∃ A c, e = .returned (.slice A K c) ∧ Hid (SetsRow w' w'.heap.size A (lsJ S K) ∧ K ≤ c) ∧ Below w.heap.size w w' := by
  obtain ⟨i0, hi, hz0, hz1, hz2⟩ := infoAg_parts infoSJ
  obtain ⟨_, hn0, hn64⟩ := find_back H.fa H.pa
  have HI := Lib.hid (fun lo b c O p1 p2 w h1 h2 h3 h4 h5 => specInsA lo b c O p1 p2 w h1 h2 h3 h4 h5)
  have HI1 := Lib.hid (fun lo b c p1 p2 w h1 h3 h5 => insNilJ lo b c p1 p2 w h1 h3 h5)
  have HPl := Lib.hid (fun A c (l : List (Int × Int)) n d w h1 h2 => placeQ A l.length c l n d w h1 rfl h2)
  have HD : Hid (∀ k W, Calls Try.prog 90 #[ang (orb a k).1 (orb a k).2] W fun e w' => e = .returned (ang (orb a (k + 1)).1 (orb a (k + 1)).2) ∧ Below W.heap.size W w') := Lib.hid (fun k W => by
    have g := orb_red H.ra k
    exact specDbl (orb a k).1 (orb a k).2 W (by have := g.1; omega) (by have := g.2.1; omega) (by have := g.2.2.1; omega) (by have := g.2.2.2.1; have := g.2.1; omega))
  have HT := Lib.hid H
  have HC := Lib.hid hc
  have HSt := Lib.hid hs
  have HKn : Hid (K ≤ 64) := Lib.hid (by
    obtain ⟨k, hk, hk2⟩ := H.led.stop H.start hc
    have := stop_one hs hk2
    omega)
  have HSl : Hid (S.length ≤ 1000000) := Lib.hid (by
    have h1 := len_sub (m := endsJ (pairJ dbl a b n)) (asc_nodup hc.asc) (fun x hx => tied_ends ((hc.mem x).mp hx) H.start)
    have h2 := endsJ_len (pairJ dbl a b n)
    have h3 : (pairJ dbl a b n).length = n := by simp [pairJ]
    omega)
  obtain ⟨bO, oO, rfl, hbO, cO⟩ := r1 (by intro e; have := congrArg List.length e; rw [orbL_len] at this; simp at this; omega)
  obtain ⟨bT, oT, rfl, hbT, cT⟩ := r2 (by intro e; have := congrArg List.length e; rw [orbL_len] at this; simp at this; omega)
  have HO := Lib.hid (fun i (h : i < n) => cO i _ _ (orbL_at h))
  have HT2 := Lib.hid (fun i (h : i < n) => cT i _ _ (orbL_at h))
  clear cO cT r1 r2 H hc hs
  go_enter Try.func53, Try.ntmps53
  go_wp2
  go_loopg [5, 6] n (fun g s5 s6 wr => ∃ (i : Nat) (A : Option Addr) (c : Nat), i + g = n ∧ s6 = .int .i64 i ∧ s5 = .slice A (stJ a b i).length c ∧ Hid (SetsRow wr wr.heap.size A (stJ a b i)) ∧ Hid (Below w.heap.size w wr))
  case atStart => exact ⟨0, some ⟨w.heap.size, 0, none⟩, 0, by omega, rfl, rfl, Lib.hid (fun h => absurd rfl h), Lib.hid (belowAlloc (Below.refl _ _) _)⟩
  case round =>
    obtain ⟨i, A, c, hig, rfl, rfl, HS, HB⟩ := hrel
    have HIG := Lib.hid hig
    cases gk with
    | succ g =>
      have hin : i < n := by omega
      obtain ⟨y0, y1⟩ := HO.out i hin
      obtain ⟨y2, y3⟩ := HT2.out i hin
      have hbOw : bO < wr.heap.size := Nat.lt_of_lt_of_le hbO HB.out.size
      have hbTw : bT < wr.heap.size := Nat.lt_of_lt_of_le hbT HB.out.size
      have hpA := redAng (orb_red HT.out.ra i)
      have hqA := redAng (orb_red HT.out.rb i)
      have hst := stJ_tot a b i
      have hpart := stJ_part HT.out.ra HT.out.rb i
      have HE : Hid (joinJ (stJ a b i) (orb a i) (orb b i) = stJ a b (i + 1)) := Lib.hid rfl
      obtain ⟨⟨p1, p2⟩, hp⟩ : ∃ p, orb a i = p := ⟨_, rfl⟩
      obtain ⟨⟨q1, q2⟩, hq⟩ : ∃ q, orb b i = q := ⟨_, rfl⟩
      rw [hp] at y0 y1 hpA HE
      rw [hq] at y2 y3 hqA HE
      obtain ⟨ls, hls⟩ : ∃ ls, stJ a b i = ls := ⟨_, rfl⟩
      rw [hls] at HS HE hst hpart ⊢
      have hall : ∀ l ∈ ls, allAng l = true := fun l hl => (hpart.asc l hl).2.1
      have HAll := Lib.hid hall
      have HPA := Lib.hid (And.intro hpA hqA)
      have S0 : (C4 wr ⟨bO, oO + i * 2, none⟩ ⟨bO, oO + i * 2 + 1, none⟩ ⟨bT, oT + i * 2, none⟩ ⟨bT, oT + i * 2 + 1, none⟩ (.int .i64 p1) (.int .i64 p2) (.int .i64 q1) (.int .i64 q2)) wr := ⟨Below.refl _ _, hbOw, hbOw, hbTw, hbTw, cellThru HB.out hbO y0, cellThru HB.out hbO y1, cellThru HB.out hbT y2, cellThru HB.out hbT y3⟩
      have HS0 := Lib.hid S0
      have HAi : Hid (allAng (insA [] (p1, p2)) = true) := Lib.hid (insA_ang1 hpA)
      have HLi : Hid ((insA [] (p1, p2)).length ≤ 1100000) := Lib.hid (by have := insA_le [] (p1, p2); simp at this; omega)
      have HTot := Lib.hid hst
      clear y0 y1 y2 y3 hpart hp hq hls hall hpA hqA hst hig HO HT2
      go_wp2_with fail
      go_cut [7, 8] (fun s7 s8 wy => ∃ b7 c7 b8 c8, s7 = .slice (some ⟨b7, 0, none⟩) (oJ ls (p1, p2) (q1, q2) 0).length c7 ∧ s8 = .slice (some ⟨b8, 0, none⟩) 0 c8 ∧ Hid (InJ wr b7 c7 (oJ ls (p1, p2) (q1, q2) 0) (.slice (some ⟨b8, 0, none⟩) 0 c8) 0 [] [] wy))
      case first =>
        refine wp_region_held_drew (S := (C4 wr ⟨bO, oO + i * 2, none⟩ ⟨bO, oO + i * 2 + 1, none⟩ ⟨bT, oT + i * 2, none⟩ ⟨bT, oT + i * 2 + 1, none⟩ (.int .i64 p1) (.int .i64 p2) (.int .i64 q1) (.int .i64 q2))) (by kernel_rfl) ?_ (fun hHeld => ?_)
        · exact S0.on (Below.refl _ _).drew
        refine wpAnyH_take (i := 1) (v := ?_) rfl (by kernel_rfl) (by kernel_rfl) (by kernel_rfl) (fun _ _ _ h => h) (Or.inl ⟨by kernel_rfl, ?_⟩) hHeld ?_
        rotate_left
        · intro w hSw; obtain ⟨B, z1, z2, z3, z4, x1, x2, x3, x4⟩ := hSw; first | (go_simp; done) | (go_simp; with_reducible rfl)
        refine wpAnyH_take (i := 2) (v := ?_) rfl (by kernel_rfl) (by kernel_rfl) (by kernel_rfl) (fun _ _ _ h => h) (Or.inl ⟨by kernel_rfl, ?_⟩) hHeld ?_
        rotate_left
        · intro w hSw; obtain ⟨B, z1, z2, z3, z4, x1, x2, x3, x4⟩ := hSw; first | (go_simp; done) | (go_simp; with_reducible rfl)
        refine wpAnyH_take (i := 3) (v := ?_) rfl (by kernel_rfl) (by kernel_rfl) (by kernel_rfl) (fun _ _ _ h => h) (Or.inl ⟨by kernel_rfl, ?_⟩) hHeld ?_
        rotate_left
        · intro w hSw; obtain ⟨B, z1, z2, z3, z4, x1, x2, x3, x4⟩ := hSw; first | (go_simp; done) | (go_simp; with_reducible rfl)
        refine wpAnyH_take (i := 4) (v := ?_) rfl (by kernel_rfl) (by kernel_rfl) (by kernel_rfl) (fun _ _ _ h => h) (Or.inl ⟨by kernel_rfl, ?_⟩) hHeld ?_
        rotate_left
        · intro w hSw; obtain ⟨B, z1, z2, z3, z4, x1, x2, x3, x4⟩ := hSw; first | (go_simp; done) | (go_simp; with_reducible rfl)
        refine wpAnyH_take (i := 6) (v := ?_) rfl (by kernel_rfl) (by kernel_rfl) (by kernel_rfl) (fun _ _ _ h => h) (Or.inl ⟨by kernel_rfl, ?_⟩) hHeld ?_
        rotate_left
        · intro w hSw; obtain ⟨B, z1, z2, z3, z4, x1, x2, x3, x4⟩ := hSw; first | (go_simp; done) | (go_simp; with_reducible rfl)
        refine wpAnyH_take (i := 7) (v := ?_) rfl (by kernel_rfl) (by kernel_rfl) (by kernel_rfl) (fun _ _ _ h => h) (Or.inl ⟨by kernel_rfl, ?_⟩) hHeld ?_
        rotate_left
        · intro w hSw; obtain ⟨B, z1, z2, z3, z4, x1, x2, x3, x4⟩ := hSw; first | (go_simp; done) | (go_simp; with_reducible rfl)
        refine wpAnyH_take (i := 8) (v := ?_) rfl (by kernel_rfl) (by kernel_rfl) (by kernel_rfl) (fun _ _ _ h => h) (Or.inl ⟨by kernel_rfl, ?_⟩) hHeld ?_
        rotate_left
        · intro w hSw; obtain ⟨B, z1, z2, z3, z4, x1, x2, x3, x4⟩ := hSw; first | (go_simp; done) | (go_simp; with_reducible rfl)
        refine wpAnyH_take (i := 9) (v := ?_) rfl (by kernel_rfl) (by kernel_rfl) (by kernel_rfl) (fun _ _ _ h => h) (Or.inl ⟨by kernel_rfl, ?_⟩) hHeld ?_
        rotate_left
        · intro w hSw; obtain ⟨B, z1, z2, z3, z4, x1, x2, x3, x4⟩ := hSw; first | (go_simp; done) | (go_simp; with_reducible rfl)
        refine wpAnyH_ready (rs := [0, 11]) (by kernel_rfl) (by simp) ?_
        refine AllReadyH.cons rfl (fun K hK => ?_) (AllReadyH.cons rfl (fun K hK => ?_) (AllReadyH.nil))
        · go_simp
          have T1 := hHeld.on (belowAlloc (Below.refl _ _) (.cells #[] 29))
          have M1 : Hid (World.ownsRow _ wr.heap.size 29 2 _ 0 []) := Lib.hid (World.ownsRow_made (base := wr.heap.size) (e := 29) (size := 2) _ #[] 0 hHeld.B.size (by unfold maxLen; omega) (by simp))
          try simp only [World.size_drew] at M1
          try simp only [World.size_alloc] at M1
          refine hK.out _ _ ?_ (fun hHeld => ?_)
          · exact T1
          clear hK K
          refine wpAnyH_ready (rs := [5, 11]) (by kernel_rfl) (by simp) ?_
          refine AllReadyH.cons rfl (fun K hK => ?_) (AllReadyH.cons rfl (fun K hK => ?_) (AllReadyH.nil))
          · go_simp
            go_wp2_with fail
            refine (HI1.out wr.heap.size _ _ p1 p2 _ hHeld.B.size HPA.out.1 (by exact M1.out)).mono ?_
            rintro e wk2 ⟨bk2, ck2, rfl, hok2, hbk2⟩
            have T2 := hHeld.on hbk2
            have M2 := Lib.hid hok2
            clear hok2 hbk2
            refine hK.out _ _ ?_ (fun hHeld => ?_)
            · exact T2
            clear hK K
            refine wpAnyH_ready (rs := [10, 11]) (by kernel_rfl) (by simp) ?_
            refine AllReadyH.cons rfl (fun K hK => ?_) (AllReadyH.cons rfl (fun K hK => ?_) (AllReadyH.nil))
            · go_simp
              go_wp2_with fail
              refine (HI.out wr.heap.size _ _ (insA [] (p1, p2)) q1 q2 _ hHeld.B.size HAi.out HPA.out.2 HLi.out (by exact M2.out)).mono ?_
              rintro e wk3 ⟨bk3, ck3, rfl, hok3, hbk3⟩
              have T3 := hHeld.on hbk3
              have M3 := Lib.hid hok3
              clear hok3 hbk3
              refine hK.out _ _ ?_ (fun hHeld => ?_)
              · exact T3
              clear hK K
              refine wpAnyH_take (i := 12) (v := ?_) rfl (by kernel_rfl) (by kernel_rfl) (by kernel_rfl) (fun _ _ _ h => h) (Or.inl ⟨by kernel_rfl, ?_⟩) hHeld ?_
              rotate_left
              · intro w hSw; obtain ⟨B, z1, z2, z3, z4, x1, x2, x3, x4⟩ := hSw; first | (go_simp; done) | (go_simp; with_reducible rfl)
              refine wpAnyH_ready (rs := [11]) (by kernel_rfl) (by simp) ?_
              refine AllReadyH.cons rfl (fun K hK => ?_) (AllReadyH.nil)
              go_simp
              have T4 := hHeld.on (belowAlloc (Below.refl _ _) (.cells #[] 73))
              have M4 : Hid (World.ownsRow _ wr.heap.size 73 1 _ 0 []) := Lib.hid (World.ownsRow_made (base := wr.heap.size) (e := 73) (size := 1) _ #[] 0 hHeld.B.size (by unfold maxLen; omega) (by simp))
              try simp only [World.size_drew] at M4
              try simp only [World.size_alloc] at M4
              have M3 := Lib.hid (World.ownsRow.alloc (show World.ownsRow _ _ _ _ _ _ _ from M3.out) (.cells #[] 73))
              refine hK.out _ _ ?_ (fun hHeld => ?_)
              · exact T4
              clear hK K
              refine wpAnyH_take (i := 13) (v := ?_) rfl (by kernel_rfl) (by kernel_rfl) (by kernel_rfl) (fun _ _ _ h => h) (Or.inl ⟨by kernel_rfl, ?_⟩) hHeld ?_
              rotate_left
              · intro w hSw; obtain ⟨B, z1, z2, z3, z4, x1, x2, x3, x4⟩ := hSw; first | (go_simp; done) | (go_simp; with_reducible rfl)
              refine wpAnyH_done (by kernel_rfl) ?_ _
              go_wp2_with fail
              first | go_meet | skip
              exact ⟨_, _, _, _, rfl, rfl, Lib.hid ⟨hHeld.B, M3.out, M4.out, ⟨rfl, fun i l h => by simp at h⟩⟩⟩
            · go_simp
              have T3 := hHeld.on (belowAlloc (Below.refl _ _) (.cells #[] 73))
              have M3 : Hid (World.ownsRow _ wr.heap.size 73 1 _ 0 []) := Lib.hid (World.ownsRow_made (base := wr.heap.size) (e := 73) (size := 1) _ #[] 0 hHeld.B.size (by unfold maxLen; omega) (by simp))
              try simp only [World.size_drew] at M3
              try simp only [World.size_alloc] at M3
              have M2 := Lib.hid (World.ownsRow.alloc (show World.ownsRow _ _ _ _ _ _ _ from M2.out) (.cells #[] 73))
              refine hK.out _ _ ?_ (fun hHeld => ?_)
              · exact T3
              clear hK K
              refine wpAnyH_ready (rs := [10]) (by kernel_rfl) (by simp) ?_
              refine AllReadyH.cons rfl (fun K hK => ?_) (AllReadyH.nil)
              go_simp
              go_wp2_with fail
              refine (HI.out wr.heap.size _ _ (insA [] (p1, p2)) q1 q2 _ hHeld.B.size HAi.out HPA.out.2 HLi.out (by exact M2.out)).mono ?_
              rintro e wk4 ⟨bk4, ck4, rfl, hok4, hbk4⟩
              have T4 := hHeld.on hbk4
              have M4 := Lib.hid hok4
              have M3 := Lib.hid (ownKeepA (show World.ownsRow _ _ _ _ _ _ _ from M3.out) hbk4)
              clear hok4 hbk4
              refine hK.out _ _ ?_ (fun hHeld => ?_)
              · exact T4
              clear hK K
              refine wpAnyH_take (i := 12) (v := ?_) rfl (by kernel_rfl) (by kernel_rfl) (by kernel_rfl) (fun _ _ _ h => h) (Or.inl ⟨by kernel_rfl, ?_⟩) hHeld ?_
              rotate_left
              · intro w hSw; obtain ⟨B, z1, z2, z3, z4, x1, x2, x3, x4⟩ := hSw; first | (go_simp; done) | (go_simp; with_reducible rfl)
              refine wpAnyH_take (i := 13) (v := ?_) rfl (by kernel_rfl) (by kernel_rfl) (by kernel_rfl) (fun _ _ _ h => h) (Or.inl ⟨by kernel_rfl, ?_⟩) hHeld ?_
              rotate_left
              · intro w hSw; obtain ⟨B, z1, z2, z3, z4, x1, x2, x3, x4⟩ := hSw; first | (go_simp; done) | (go_simp; with_reducible rfl)
              refine wpAnyH_done (by kernel_rfl) ?_ _
              go_wp2_with fail
              first | go_meet | skip
              exact ⟨_, _, _, _, rfl, rfl, Lib.hid ⟨hHeld.B, M4.out, M3.out, ⟨rfl, fun i l h => by simp at h⟩⟩⟩
          · go_simp
            have T2 := hHeld.on (belowAlloc (Below.refl _ _) (.cells #[] 73))
            have M2 : Hid (World.ownsRow _ wr.heap.size 73 1 _ 0 []) := Lib.hid (World.ownsRow_made (base := wr.heap.size) (e := 73) (size := 1) _ #[] 0 hHeld.B.size (by unfold maxLen; omega) (by simp))
            try simp only [World.size_drew] at M2
            try simp only [World.size_alloc] at M2
            have M1 := Lib.hid (World.ownsRow.alloc (show World.ownsRow _ _ _ _ _ _ _ from M1.out) (.cells #[] 73))
            refine hK.out _ _ ?_ (fun hHeld => ?_)
            · exact T2
            clear hK K
            refine wpAnyH_ready (rs := [5]) (by kernel_rfl) (by simp) ?_
            refine AllReadyH.cons rfl (fun K hK => ?_) (AllReadyH.nil)
            go_simp
            go_wp2_with fail
            refine (HI1.out wr.heap.size _ _ p1 p2 _ hHeld.B.size HPA.out.1 (by exact M1.out)).mono ?_
            rintro e wk3 ⟨bk3, ck3, rfl, hok3, hbk3⟩
            have T3 := hHeld.on hbk3
            have M3 := Lib.hid hok3
            have M2 := Lib.hid (ownKeepA (show World.ownsRow _ _ _ _ _ _ _ from M2.out) hbk3)
            clear hok3 hbk3
            refine hK.out _ _ ?_ (fun hHeld => ?_)
            · exact T3
            clear hK K
            refine wpAnyH_ready (rs := [10]) (by kernel_rfl) (by simp) ?_
            refine AllReadyH.cons rfl (fun K hK => ?_) (AllReadyH.nil)
            go_simp
            go_wp2_with fail
            refine (HI.out wr.heap.size _ _ (insA [] (p1, p2)) q1 q2 _ hHeld.B.size HAi.out HPA.out.2 HLi.out (by exact M3.out)).mono ?_
            rintro e wk4 ⟨bk4, ck4, rfl, hok4, hbk4⟩
            have T4 := hHeld.on hbk4
            have M4 := Lib.hid hok4
            have M2 := Lib.hid (ownKeepA (show World.ownsRow _ _ _ _ _ _ _ from M2.out) hbk4)
            clear hok4 hbk4
            refine hK.out _ _ ?_ (fun hHeld => ?_)
            · exact T4
            clear hK K
            refine wpAnyH_take (i := 12) (v := ?_) rfl (by kernel_rfl) (by kernel_rfl) (by kernel_rfl) (fun _ _ _ h => h) (Or.inl ⟨by kernel_rfl, ?_⟩) hHeld ?_
            rotate_left
            · intro w hSw; obtain ⟨B, z1, z2, z3, z4, x1, x2, x3, x4⟩ := hSw; first | (go_simp; done) | (go_simp; with_reducible rfl)
            refine wpAnyH_take (i := 13) (v := ?_) rfl (by kernel_rfl) (by kernel_rfl) (by kernel_rfl) (fun _ _ _ h => h) (Or.inl ⟨by kernel_rfl, ?_⟩) hHeld ?_
            rotate_left
            · intro w hSw; obtain ⟨B, z1, z2, z3, z4, x1, x2, x3, x4⟩ := hSw; first | (go_simp; done) | (go_simp; with_reducible rfl)
            refine wpAnyH_done (by kernel_rfl) ?_ _
            go_wp2_with fail
            first | go_meet | skip
            exact ⟨_, _, _, _, rfl, rfl, Lib.hid ⟨hHeld.B, M4.out, M2.out, ⟨rfl, fun i l h => by simp at h⟩⟩⟩
        · go_simp
          have T1 := hHeld.on (belowAlloc (Below.refl _ _) (.cells #[] 73))
          have M1 : Hid (World.ownsRow _ wr.heap.size 73 1 _ 0 []) := Lib.hid (World.ownsRow_made (base := wr.heap.size) (e := 73) (size := 1) _ #[] 0 hHeld.B.size (by unfold maxLen; omega) (by simp))
          try simp only [World.size_drew] at M1
          try simp only [World.size_alloc] at M1
          refine hK.out _ _ ?_ (fun hHeld => ?_)
          · exact T1
          clear hK K
          refine wpAnyH_ready (rs := [0]) (by kernel_rfl) (by simp) ?_
          refine AllReadyH.cons rfl (fun K hK => ?_) (AllReadyH.nil)
          go_simp
          have T2 := hHeld.on (belowAlloc (Below.refl _ _) (.cells #[] 29))
          have M2 : Hid (World.ownsRow _ wr.heap.size 29 2 _ 0 []) := Lib.hid (World.ownsRow_made (base := wr.heap.size) (e := 29) (size := 2) _ #[] 0 hHeld.B.size (by unfold maxLen; omega) (by simp))
          try simp only [World.size_drew] at M2
          try simp only [World.size_alloc] at M2
          have M1 := Lib.hid (World.ownsRow.alloc (show World.ownsRow _ _ _ _ _ _ _ from M1.out) (.cells #[] 29))
          refine hK.out _ _ ?_ (fun hHeld => ?_)
          · exact T2
          clear hK K
          refine wpAnyH_ready (rs := [5]) (by kernel_rfl) (by simp) ?_
          refine AllReadyH.cons rfl (fun K hK => ?_) (AllReadyH.nil)
          go_simp
          go_wp2_with fail
          refine (HI1.out wr.heap.size _ _ p1 p2 _ hHeld.B.size HPA.out.1 (by exact M2.out)).mono ?_
          rintro e wk3 ⟨bk3, ck3, rfl, hok3, hbk3⟩
          have T3 := hHeld.on hbk3
          have M3 := Lib.hid hok3
          have M1 := Lib.hid (ownKeepA (show World.ownsRow _ _ _ _ _ _ _ from M1.out) hbk3)
          clear hok3 hbk3
          refine hK.out _ _ ?_ (fun hHeld => ?_)
          · exact T3
          clear hK K
          refine wpAnyH_ready (rs := [10]) (by kernel_rfl) (by simp) ?_
          refine AllReadyH.cons rfl (fun K hK => ?_) (AllReadyH.nil)
          go_simp
          go_wp2_with fail
          refine (HI.out wr.heap.size _ _ (insA [] (p1, p2)) q1 q2 _ hHeld.B.size HAi.out HPA.out.2 HLi.out (by exact M3.out)).mono ?_
          rintro e wk4 ⟨bk4, ck4, rfl, hok4, hbk4⟩
          have T4 := hHeld.on hbk4
          have M4 := Lib.hid hok4
          have M1 := Lib.hid (ownKeepA (show World.ownsRow _ _ _ _ _ _ _ from M1.out) hbk4)
          clear hok4 hbk4
          refine hK.out _ _ ?_ (fun hHeld => ?_)
          · exact T4
          clear hK K
          refine wpAnyH_take (i := 12) (v := ?_) rfl (by kernel_rfl) (by kernel_rfl) (by kernel_rfl) (fun _ _ _ h => h) (Or.inl ⟨by kernel_rfl, ?_⟩) hHeld ?_
          rotate_left
          · intro w hSw; obtain ⟨B, z1, z2, z3, z4, x1, x2, x3, x4⟩ := hSw; first | (go_simp; done) | (go_simp; with_reducible rfl)
          refine wpAnyH_take (i := 13) (v := ?_) rfl (by kernel_rfl) (by kernel_rfl) (by kernel_rfl) (fun _ _ _ h => h) (Or.inl ⟨by kernel_rfl, ?_⟩) hHeld ?_
          rotate_left
          · intro w hSw; obtain ⟨B, z1, z2, z3, z4, x1, x2, x3, x4⟩ := hSw; first | (go_simp; done) | (go_simp; with_reducible rfl)
          refine wpAnyH_done (by kernel_rfl) ?_ _
          go_wp2_with fail
          first | go_meet | skip
          exact ⟨_, _, _, _, rfl, rfl, Lib.hid ⟨hHeld.B, M4.out, M1.out, ⟨rfl, fun i l h => by simp at h⟩⟩⟩
      case rest =>
        obtain ⟨b7, c7, b8, c8, rfl, rfl, HIn⟩ := hcut
        clear S0
        obtain ⟨W0, rfl⟩ : ∃ x, x = wr := ⟨_, rfl⟩
        go_wp2_with fail
        go_loopg [7, 8, 9] ls.length (fun g s7 s8 s9 wy => ∃ (k b7 c7 b8 c8 : Nat) (xs : List Value), k + g = ls.length ∧ s9 = .int .i64 k ∧ s7 = .slice (some ⟨b7, 0, none⟩) (oJ ls (p1, p2) (q1, q2) k).length c7 ∧ s8 = .slice (some ⟨b8, 0, none⟩) (rJ ls (p1, p2) (q1, q2) k).length c8 ∧ Hid (InJ W0 b7 c7 (oJ ls (p1, p2) (q1, q2) k) (.slice (some ⟨b8, 0, none⟩) (rJ ls (p1, p2) (q1, q2) k).length c8) (rJ ls (p1, p2) (q1, q2) k).length xs (rJ ls (p1, p2) (q1, q2) k) wy))
        case atStart => exact ⟨0, b7, c7, b8, c8, [], by omega, rfl, rfl, rfl, HIn⟩
        case round =>
          clear HIn
          obtain ⟨k, b7, c7, b8, c8, xs, hkg, rfl, rfl, rfl, HIn⟩ := hrel
          have HKG := Lib.hid hkg
          cases gk with
          | succ g2 =>
            have hkl : k < ls.length := by omega
            obtain ⟨bS, oS, rfl, hbS, hcS⟩ := HS.out.form hkl
            obtain ⟨Ak, ck, x0, hrow⟩ := hcS k hkl
            have hlen := len_tot hkl
            have hno := rJ_no (p := (p1, p2)) (q := (q1, q2)) hkl
            have hye := rJ_yes (p := (p1, p2)) (q := (q1, q2)) hkl
            have hTm := gA_mem hkl
            obtain ⟨T, hT⟩ : ∃ T, gA ls k = T := ⟨_, rfl⟩
            rw [hT] at x0 hrow hlen hno hye hTm
            have hTa := HAll.out _ hTm
            have HTot2 := HTot.out
            have HP1 := Lib.hid (fun W (hB : Below W0.heap.size W0 W) => HPl.out Ak ck T p1 p2 W ((hrow.below hB).more hB.size) (by omega))
            have HP2 := Lib.hid (fun W (hB : Below W0.heap.size W0 W) => HPl.out Ak ck T q1 q2 W ((hrow.below hB).more hB.size) (by omega))
            have d1 := plc_neg T (p1, p2)
            have d2 := plc_neg T (q1, q2)
            have hha : hasJ (p1, p2) (q1, q2) T = (decide ((p1, p2) ∈ T) || decide ((q1, q2) ∈ T)) := by unfold hasJ; simp
            obtain ⟨O, hO⟩ : ∃ O, oJ ls (p1, p2) (q1, q2) k = O := ⟨_, rfl⟩
            obtain ⟨RL, hR⟩ : ∃ RL, rJ ls (p1, p2) (q1, q2) k = RL := ⟨_, rfl⟩
            rw [hO, hR] at HIn hno hye
            rw [hO, hR]
            have hOa : allAng O = true := by rw [← hO]; exact oJ_ang HPA.out.1 HPA.out.2 HAll.out k
            have hOl : O.length ≤ 2 + totL ls := by rw [← hO]; exact oJ_len _ _ _ _
            have hRl : RL.length ≤ ls.length := by rw [← hR]; exact Nat.le_trans (List.length_filter_le _ _) (by simp; omega)
            have HHa := Lib.hid hha
            have HNo := Lib.hid hno
            have HYe := Lib.hid hye
            have HOa := Lib.hid (And.intro hOa (And.intro hOl (And.intro hRl hTa)))
            have HRw := Lib.hid hrow
            have HX5 := Lib.hid (And.intro hbS x0)
            have HTl := Lib.hid hlen
            obtain ⟨lk, hlk2⟩ : ∃ l, T.length = l := ⟨_, rfl⟩
            rw [hlk2] at HP1 HP2 HX5 x0
            have HLk := Lib.hid hlk2
            clear hlk2
            have S1 : (C6 W0 ⟨bO, oO + i * 2, none⟩ ⟨bO, oO + i * 2 + 1, none⟩ ⟨bT, oT + i * 2, none⟩ ⟨bT, oT + i * 2 + 1, none⟩ ⟨bS, oS + k, none⟩ ⟨bS, oS + k, none⟩ (.int .i64 p1) (.int .i64 p2) (.int .i64 q1) (.int .i64 q2) (.slice Ak lk ck) (.slice Ak lk ck)) wr := by
              obtain ⟨B, z1, z2, z3, z4, x1, x2, x3, x4⟩ := HS0.out.on HIn.out.B
              have hz := Nat.lt_of_lt_of_le hbS HIn.out.B.size
              exact ⟨HIn.out.B, z1, z2, z3, z4, hz, hz, x1, x2, x3, x4, cellThru HIn.out.B hbS x0, cellThru HIn.out.B hbS x0⟩
            have hls64 : ls.length ≤ 64 := by have := HTot.out; have := HIG.out; omega
            have hlk : RL.length ≤ 64 := by omega
            have hlk64 : lk ≤ 200 := by have := HLk.out; have := HTot.out; have := HIG.out; omega
            clear hno hye hTm hTa hha hO hR hOa hOl hRl hrow x0 hT hcS hlen HTot2
            obtain ⟨P1, hP1⟩ : ∃ P, plcI T (p1, p2) = P := ⟨_, rfl⟩
            obtain ⟨P2, hP2⟩ : ∃ P, plcI T (q1, q2) = P := ⟨_, rfl⟩
            rw [hP1] at HP1 d1
            rw [hP2] at HP2 d2
            clear hP1 hP2
            cases e1 : decide ((p1, p2) ∈ T)
            · rw [e1] at d1 HHa
              have d1' : (P1 < 0) = True := eq_true (of_decide_eq_true d1)
              cases e2 : decide ((q1, q2) ∈ T)
              · rw [e2] at d2 HHa
                have d2' : (P2 < 0) = True := eq_true (of_decide_eq_true d2)
                go_wp2_with fail
                refine wp_region_held_drew (S := (C6 W0 ⟨bO, oO + i * 2, none⟩ ⟨bO, oO + i * 2 + 1, none⟩ ⟨bT, oT + i * 2, none⟩ ⟨bT, oT + i * 2 + 1, none⟩ ⟨bS, oS + k, none⟩ ⟨bS, oS + k, none⟩ (.int .i64 p1) (.int .i64 p2) (.int .i64 q1) (.int .i64 q2) (.slice Ak lk ck) (.slice Ak lk ck))) (by kernel_rfl) ?_ (fun hHeld => ?_)
                · exact S1.on (Below.refl _ _).drew
                refine wpAnyH_take (i := 0) (v := ?_) rfl (by kernel_rfl) (by kernel_rfl) (by kernel_rfl) (fun _ _ _ h => h) (Or.inl ⟨by kernel_rfl, ?_⟩) hHeld ?_
                rotate_left
                · intro w hSw; obtain ⟨B, z1, z2, z3, z4, z5, z6, x1, x2, x3, x4, x5, x6⟩ := hSw; first | (go_simp; done) | (go_simp; with_reducible rfl)
                refine wpAnyH_take (i := 1) (v := ?_) rfl (by kernel_rfl) (by kernel_rfl) (by kernel_rfl) (fun _ _ _ h => h) (Or.inl ⟨by kernel_rfl, ?_⟩) hHeld ?_
                rotate_left
                · intro w hSw; obtain ⟨B, z1, z2, z3, z4, z5, z6, x1, x2, x3, x4, x5, x6⟩ := hSw; first | (go_simp; done) | (go_simp; with_reducible rfl)
                refine wpAnyH_take (i := 2) (v := ?_) rfl (by kernel_rfl) (by kernel_rfl) (by kernel_rfl) (fun _ _ _ h => h) (Or.inl ⟨by kernel_rfl, ?_⟩) hHeld ?_
                rotate_left
                · intro w hSw; obtain ⟨B, z1, z2, z3, z4, z5, z6, x1, x2, x3, x4, x5, x6⟩ := hSw; first | (go_simp; done) | (go_simp; with_reducible rfl)
                refine wpAnyH_take (i := 3) (v := ?_) rfl (by kernel_rfl) (by kernel_rfl) (by kernel_rfl) (fun _ _ _ h => h) (Or.inl ⟨by kernel_rfl, ?_⟩) hHeld ?_
                rotate_left
                · intro w hSw; obtain ⟨B, z1, z2, z3, z4, z5, z6, x1, x2, x3, x4, x5, x6⟩ := hSw; first | (go_simp; done) | (go_simp; with_reducible rfl)
                refine wpAnyH_take (i := 4) (v := ?_) rfl (by kernel_rfl) (by kernel_rfl) (by kernel_rfl) (fun _ _ _ h => h) (Or.inl ⟨by kernel_rfl, ?_⟩) hHeld ?_
                rotate_left
                · intro w hSw; obtain ⟨B, z1, z2, z3, z4, z5, z6, x1, x2, x3, x4, x5, x6⟩ := hSw; first | (go_simp; done) | (go_simp; with_reducible rfl)
                refine wpAnyH_take (i := 5) (v := ?_) rfl (by kernel_rfl) (by kernel_rfl) (by kernel_rfl) (fun _ _ _ h => h) (Or.inl ⟨by kernel_rfl, ?_⟩) hHeld ?_
                rotate_left
                · intro w hSw; obtain ⟨B, z1, z2, z3, z4, z5, z6, x1, x2, x3, x4, x5, x6⟩ := hSw; first | (go_simp; done) | (go_simp; with_reducible rfl)
                refine wpAnyH_take (i := 6) (v := ?_) rfl (by kernel_rfl) (by kernel_rfl) (by kernel_rfl) (fun _ _ _ h => h) (Or.inl ⟨by kernel_rfl, ?_⟩) hHeld ?_
                rotate_left
                · intro w hSw; obtain ⟨B, z1, z2, z3, z4, z5, z6, x1, x2, x3, x4, x5, x6⟩ := hSw; first | (go_simp; done) | (go_simp; with_reducible rfl)
                refine wpAnyH_take (i := 7) (v := ?_) rfl (by kernel_rfl) (by kernel_rfl) (by kernel_rfl) (fun _ _ _ h => h) (Or.inl ⟨by kernel_rfl, ?_⟩) hHeld ?_
                rotate_left
                · intro w hSw; obtain ⟨B, z1, z2, z3, z4, z5, z6, x1, x2, x3, x4, x5, x6⟩ := hSw; first | (go_simp; done) | (go_simp; with_reducible rfl)
                refine wpAnyH_ready (rs := [8]) (by kernel_rfl) (by simp) ?_
                refine AllReadyH.cons rfl (fun K hK => ?_) AllReadyH.nil
                go_simp
                go_wp2_with fail
                refine (HP1.out _ hHeld.B).mono ?_
                rintro e wa ⟨rfl, hba⟩
                have Sa := hHeld.on hba
                refine hK.out _ _ ?_ (fun hHeld => ?_)
                · exact Sa
                clear hK K
                refine wpAnyH_take (i := 9) (v := ?_) rfl (by kernel_rfl) (by kernel_rfl) (by kernel_rfl) (fun _ _ _ h => h) (Or.inl ⟨by kernel_rfl, ?_⟩) hHeld ?_
                rotate_left
                · intro w hSw; obtain ⟨B, z1, z2, z3, z4, z5, z6, x1, x2, x3, x4, x5, x6⟩ := hSw; first | (go_simp; done) | (go_simp; with_reducible rfl)
                refine wpAnyH_take (i := 10) (v := ?_) rfl (by kernel_rfl) (by kernel_rfl) (by kernel_rfl) (fun _ _ _ h => h) (Or.inl ⟨by kernel_rfl, ?_⟩) hHeld ?_
                rotate_left
                · intro w hSw; obtain ⟨B, z1, z2, z3, z4, z5, z6, x1, x2, x3, x4, x5, x6⟩ := hSw; first | (go_simp; done) | (go_simp; with_reducible rfl)
                refine wpAnyH_take (i := 11) (v := ?_) rfl (by kernel_rfl) (by kernel_rfl) (by kernel_rfl) (fun _ _ _ h => h) (Or.inl ⟨by kernel_rfl, ?_⟩) hHeld ?_
                rotate_left
                · intro w hSw; obtain ⟨B, z1, z2, z3, z4, z5, z6, x1, x2, x3, x4, x5, x6⟩ := hSw; first | (go_simp; done) | (go_simp; with_reducible rfl)
                refine wpAnyH_take (i := 12) (v := ?_) rfl (by kernel_rfl) (by kernel_rfl) (by kernel_rfl) (fun _ _ _ h => h) (Or.inl ⟨by kernel_rfl, ?_⟩) hHeld ?_
                rotate_left
                · intro w hSw; obtain ⟨B, z1, z2, z3, z4, z5, z6, x1, x2, x3, x4, x5, x6⟩ := hSw; first | (go_simp; done) | (go_simp; with_reducible rfl)
                refine wpAnyH_take (i := 13) (v := ?_) rfl (by kernel_rfl) (by kernel_rfl) (by kernel_rfl) (fun _ _ _ h => h) (Or.inl ⟨by kernel_rfl, ?_⟩) hHeld ?_
                rotate_left
                · intro w hSw; obtain ⟨B, z1, z2, z3, z4, z5, z6, x1, x2, x3, x4, x5, x6⟩ := hSw; first | (go_simp; done) | (go_simp; with_reducible rfl)
                refine wpAnyH_take (i := 14) (v := ?_) rfl (by kernel_rfl) (by kernel_rfl) (by kernel_rfl) (fun _ _ _ h => h) (Or.inl ⟨by kernel_rfl, ?_⟩) hHeld ?_
                rotate_left
                · intro w hSw; obtain ⟨B, z1, z2, z3, z4, z5, z6, x1, x2, x3, x4, x5, x6⟩ := hSw; first | (go_simp; done) | (go_simp; with_reducible rfl)
                refine wpAnyH_take (i := 15) (v := ?_) rfl (by kernel_rfl) (by kernel_rfl) (by kernel_rfl) (fun _ _ _ h => h) (Or.inl ⟨by kernel_rfl, ?_⟩) hHeld ?_
                rotate_left
                · intro w hSw; obtain ⟨B, z1, z2, z3, z4, z5, z6, x1, x2, x3, x4, x5, x6⟩ := hSw; first | (go_simp; done) | (go_simp; with_reducible rfl)
                refine wpAnyH_take (i := 16) (v := ?_) rfl (by kernel_rfl) (by kernel_rfl) (by kernel_rfl) (fun _ _ _ h => h) (Or.inl ⟨by kernel_rfl, ?_⟩) hHeld ?_
                rotate_left
                · intro w hSw; obtain ⟨B, z1, z2, z3, z4, z5, z6, x1, x2, x3, x4, x5, x6⟩ := hSw; first | (go_simp; done) | (go_simp; with_reducible rfl)
                refine wpAnyH_take (i := 17) (v := ?_) rfl (by kernel_rfl) (by kernel_rfl) (by kernel_rfl) (fun _ _ _ h => h) (Or.inl ⟨by kernel_rfl, ?_⟩) hHeld ?_
                rotate_left
                · intro w hSw; obtain ⟨B, z1, z2, z3, z4, z5, z6, x1, x2, x3, x4, x5, x6⟩ := hSw; first | (go_simp; done) | (go_simp; with_reducible rfl)
                refine wpAnyH_take (i := 18) (v := ?_) rfl (by kernel_rfl) (by kernel_rfl) (by kernel_rfl) (fun _ _ _ h => h) (Or.inl ⟨by kernel_rfl, ?_⟩) hHeld ?_
                rotate_left
                · intro w hSw; obtain ⟨B, z1, z2, z3, z4, z5, z6, x1, x2, x3, x4, x5, x6⟩ := hSw; first | (go_simp; done) | (go_simp; with_reducible rfl)
                refine wpAnyH_ready (rs := [19]) (by kernel_rfl) (by simp) ?_
                refine AllReadyH.cons rfl (fun K hK => ?_) AllReadyH.nil
                go_simp
                go_wp2_with fail
                refine (HP2.out _ hHeld.B).mono ?_
                rintro e wb ⟨rfl, hbb⟩
                have Sb := hHeld.on hbb
                refine hK.out _ _ ?_ (fun hHeld => ?_)
                · exact Sb
                clear hK K
                refine wpAnyH_take (i := 20) (v := ?_) rfl (by kernel_rfl) (by kernel_rfl) (by kernel_rfl) (fun _ _ _ h => h) (Or.inl ⟨by kernel_rfl, ?_⟩) hHeld ?_
                rotate_left
                · intro w hSw; obtain ⟨B, z1, z2, z3, z4, z5, z6, x1, x2, x3, x4, x5, x6⟩ := hSw; first | (go_simp; done) | (go_simp; with_reducible rfl)
                refine wpAnyH_take (i := 21) (v := ?_) rfl (by kernel_rfl) (by kernel_rfl) (by kernel_rfl) (fun _ _ _ h => h) (Or.inl ⟨by kernel_rfl, ?_⟩) hHeld ?_
                rotate_left
                · intro w hSw; obtain ⟨B, z1, z2, z3, z4, z5, z6, x1, x2, x3, x4, x5, x6⟩ := hSw; first | (go_simp; done) | (go_simp; with_reducible rfl)
                refine wpAnyH_done (by kernel_rfl) ?_ _
                have HB9 : Below wr.heap.size wr wb := by
                  (repeat' (first | (with_reducible exact Below.refl _ _) | (with_reducible assumption) | (with_reducible refine belowNext ?_ (by with_reducible assumption)) | (with_reducible refine belowAlloc ?_ _) | (with_reducible refine Below.drew ?_) | (with_reducible refine below_drewN ?_ _) | (with_reducible refine Below.setCell ?_ ?_ _) | go_size | (with_reducible refine sizeOf' ?_) | (with_reducible refine sizeAdd ?_) | (dsimp only; first | (with_reducible refine sizeOf' ?_) | (with_reducible refine sizeAdd ?_))))
                have HI9 := Lib.hid (HIn.out.on HB9)
                have x5 := Sb.x5
                have zz := Sb.z5
                have HJ : Hid (rJ ls (p1, p2) (q1, q2) (k + 1) = RL ++ [T] ∧ oJ ls (p1, p2) (q1, q2) (k + 1) = O) := Lib.hid (HNo.out (by rw [HHa.out]; rfl))
                have hW9 : W0.heap.size ≤ wb.heap.size := HI9.out.B.size
                have HRest : Hid (wb.ownsRow W0.heap.size 73 1 (.slice (some ⟨b8, 0, none⟩) RL.length c8) RL.length xs) := Lib.hid HI9.out.rest
                clear hba hbb Sa Sb hHeld S1 HIn HB9 d1 d1' d2 d2' HP1 HP2 HYe HNo
                go_wp2_with (at_builtin; refine wpList_append_own_at _ rfl _ _ 43 rfl W0.heap.size 73 i0 (.slice none 0 0) 1 24 Try.underlying43 hi hz0 hz1 hz2 rfl (by decide) (.slice (some ⟨b8, 0, none⟩) RL.length c8) RL.length xs rfl (World.ownsRow.alloc HRest.out _) ⟨_, 0, none⟩ 1 1 [.slice Ak lk ck] rfl rfl (cell_one_new _ _ _) ?c2 ?c3 ?c4 ?c5 ?_)
                case c2 => first | rfl | (intro u hu; simp at hu; subst hu; rfl)
                case c3 => unfold maxLen; omega
                case c4 => omega
                case c5 => first | omega | (simp; omega)
                intro v2 w8 hown' hgrow _ hat
                obtain ⟨gn, capn, rfl⟩ := ownSuccK hown'
                have HP : Hid (InJ W0 b7 c7 O (.slice (some ⟨gn, 0, none⟩) (RL.length + 1) capn) (RL.length + 1) (xs ++ [.slice Ak T.length ck]) (RL ++ [T]) w8) := Lib.hid (InJ.put (HI9.out.on (belowAlloc (Below.refl _ _) _)) HRw.out (by rw [HLk.out]; exact hown') hgrow)
                clear hown' hgrow hat HI9 HRest x5 zz
                go_wp2
                go_roundg g2
                case measure => omega
                case rel => exact ⟨k + 1, b7, c7, gn, capn, xs ++ [.slice Ak T.length ck], by have := HKG.out; omega, by have := HKG.out; have := HTot.out; have := HIG.out; go_num, by rw [HJ.out.2], by rw [HJ.out.1, List.length_append]; rfl, by rw [HJ.out.1, HJ.out.2, List.length_append]; exact HP⟩
              · rw [e2] at d2 HHa
                have d2' : (P2 < 0) = False := eq_false (of_decide_eq_false d2)
                go_wp2_with fail
                refine wp_region_held_drew (S := (C6 W0 ⟨bO, oO + i * 2, none⟩ ⟨bO, oO + i * 2 + 1, none⟩ ⟨bT, oT + i * 2, none⟩ ⟨bT, oT + i * 2 + 1, none⟩ ⟨bS, oS + k, none⟩ ⟨bS, oS + k, none⟩ (.int .i64 p1) (.int .i64 p2) (.int .i64 q1) (.int .i64 q2) (.slice Ak lk ck) (.slice Ak lk ck))) (by kernel_rfl) ?_ (fun hHeld => ?_)
                · exact S1.on (Below.refl _ _).drew
                refine wpAnyH_take (i := 0) (v := ?_) rfl (by kernel_rfl) (by kernel_rfl) (by kernel_rfl) (fun _ _ _ h => h) (Or.inl ⟨by kernel_rfl, ?_⟩) hHeld ?_
                rotate_left
                · intro w hSw; obtain ⟨B, z1, z2, z3, z4, z5, z6, x1, x2, x3, x4, x5, x6⟩ := hSw; first | (go_simp; done) | (go_simp; with_reducible rfl)
                refine wpAnyH_take (i := 1) (v := ?_) rfl (by kernel_rfl) (by kernel_rfl) (by kernel_rfl) (fun _ _ _ h => h) (Or.inl ⟨by kernel_rfl, ?_⟩) hHeld ?_
                rotate_left
                · intro w hSw; obtain ⟨B, z1, z2, z3, z4, z5, z6, x1, x2, x3, x4, x5, x6⟩ := hSw; first | (go_simp; done) | (go_simp; with_reducible rfl)
                refine wpAnyH_take (i := 2) (v := ?_) rfl (by kernel_rfl) (by kernel_rfl) (by kernel_rfl) (fun _ _ _ h => h) (Or.inl ⟨by kernel_rfl, ?_⟩) hHeld ?_
                rotate_left
                · intro w hSw; obtain ⟨B, z1, z2, z3, z4, z5, z6, x1, x2, x3, x4, x5, x6⟩ := hSw; first | (go_simp; done) | (go_simp; with_reducible rfl)
                refine wpAnyH_take (i := 3) (v := ?_) rfl (by kernel_rfl) (by kernel_rfl) (by kernel_rfl) (fun _ _ _ h => h) (Or.inl ⟨by kernel_rfl, ?_⟩) hHeld ?_
                rotate_left
                · intro w hSw; obtain ⟨B, z1, z2, z3, z4, z5, z6, x1, x2, x3, x4, x5, x6⟩ := hSw; first | (go_simp; done) | (go_simp; with_reducible rfl)
                refine wpAnyH_take (i := 4) (v := ?_) rfl (by kernel_rfl) (by kernel_rfl) (by kernel_rfl) (fun _ _ _ h => h) (Or.inl ⟨by kernel_rfl, ?_⟩) hHeld ?_
                rotate_left
                · intro w hSw; obtain ⟨B, z1, z2, z3, z4, z5, z6, x1, x2, x3, x4, x5, x6⟩ := hSw; first | (go_simp; done) | (go_simp; with_reducible rfl)
                refine wpAnyH_take (i := 5) (v := ?_) rfl (by kernel_rfl) (by kernel_rfl) (by kernel_rfl) (fun _ _ _ h => h) (Or.inl ⟨by kernel_rfl, ?_⟩) hHeld ?_
                rotate_left
                · intro w hSw; obtain ⟨B, z1, z2, z3, z4, z5, z6, x1, x2, x3, x4, x5, x6⟩ := hSw; first | (go_simp; done) | (go_simp; with_reducible rfl)
                refine wpAnyH_take (i := 6) (v := ?_) rfl (by kernel_rfl) (by kernel_rfl) (by kernel_rfl) (fun _ _ _ h => h) (Or.inl ⟨by kernel_rfl, ?_⟩) hHeld ?_
                rotate_left
                · intro w hSw; obtain ⟨B, z1, z2, z3, z4, z5, z6, x1, x2, x3, x4, x5, x6⟩ := hSw; first | (go_simp; done) | (go_simp; with_reducible rfl)
                refine wpAnyH_take (i := 7) (v := ?_) rfl (by kernel_rfl) (by kernel_rfl) (by kernel_rfl) (fun _ _ _ h => h) (Or.inl ⟨by kernel_rfl, ?_⟩) hHeld ?_
                rotate_left
                · intro w hSw; obtain ⟨B, z1, z2, z3, z4, z5, z6, x1, x2, x3, x4, x5, x6⟩ := hSw; first | (go_simp; done) | (go_simp; with_reducible rfl)
                refine wpAnyH_ready (rs := [8]) (by kernel_rfl) (by simp) ?_
                refine AllReadyH.cons rfl (fun K hK => ?_) AllReadyH.nil
                go_simp
                go_wp2_with fail
                refine (HP1.out _ hHeld.B).mono ?_
                rintro e wa ⟨rfl, hba⟩
                have Sa := hHeld.on hba
                refine hK.out _ _ ?_ (fun hHeld => ?_)
                · exact Sa
                clear hK K
                refine wpAnyH_take (i := 9) (v := ?_) rfl (by kernel_rfl) (by kernel_rfl) (by kernel_rfl) (fun _ _ _ h => h) (Or.inl ⟨by kernel_rfl, ?_⟩) hHeld ?_
                rotate_left
                · intro w hSw; obtain ⟨B, z1, z2, z3, z4, z5, z6, x1, x2, x3, x4, x5, x6⟩ := hSw; first | (go_simp; done) | (go_simp; with_reducible rfl)
                refine wpAnyH_take (i := 10) (v := ?_) rfl (by kernel_rfl) (by kernel_rfl) (by kernel_rfl) (fun _ _ _ h => h) (Or.inl ⟨by kernel_rfl, ?_⟩) hHeld ?_
                rotate_left
                · intro w hSw; obtain ⟨B, z1, z2, z3, z4, z5, z6, x1, x2, x3, x4, x5, x6⟩ := hSw; first | (go_simp; done) | (go_simp; with_reducible rfl)
                refine wpAnyH_take (i := 11) (v := ?_) rfl (by kernel_rfl) (by kernel_rfl) (by kernel_rfl) (fun _ _ _ h => h) (Or.inl ⟨by kernel_rfl, ?_⟩) hHeld ?_
                rotate_left
                · intro w hSw; obtain ⟨B, z1, z2, z3, z4, z5, z6, x1, x2, x3, x4, x5, x6⟩ := hSw; first | (go_simp; done) | (go_simp; with_reducible rfl)
                refine wpAnyH_take (i := 12) (v := ?_) rfl (by kernel_rfl) (by kernel_rfl) (by kernel_rfl) (fun _ _ _ h => h) (Or.inl ⟨by kernel_rfl, ?_⟩) hHeld ?_
                rotate_left
                · intro w hSw; obtain ⟨B, z1, z2, z3, z4, z5, z6, x1, x2, x3, x4, x5, x6⟩ := hSw; first | (go_simp; done) | (go_simp; with_reducible rfl)
                refine wpAnyH_take (i := 13) (v := ?_) rfl (by kernel_rfl) (by kernel_rfl) (by kernel_rfl) (fun _ _ _ h => h) (Or.inl ⟨by kernel_rfl, ?_⟩) hHeld ?_
                rotate_left
                · intro w hSw; obtain ⟨B, z1, z2, z3, z4, z5, z6, x1, x2, x3, x4, x5, x6⟩ := hSw; first | (go_simp; done) | (go_simp; with_reducible rfl)
                refine wpAnyH_take (i := 14) (v := ?_) rfl (by kernel_rfl) (by kernel_rfl) (by kernel_rfl) (fun _ _ _ h => h) (Or.inl ⟨by kernel_rfl, ?_⟩) hHeld ?_
                rotate_left
                · intro w hSw; obtain ⟨B, z1, z2, z3, z4, z5, z6, x1, x2, x3, x4, x5, x6⟩ := hSw; first | (go_simp; done) | (go_simp; with_reducible rfl)
                refine wpAnyH_take (i := 15) (v := ?_) rfl (by kernel_rfl) (by kernel_rfl) (by kernel_rfl) (fun _ _ _ h => h) (Or.inl ⟨by kernel_rfl, ?_⟩) hHeld ?_
                rotate_left
                · intro w hSw; obtain ⟨B, z1, z2, z3, z4, z5, z6, x1, x2, x3, x4, x5, x6⟩ := hSw; first | (go_simp; done) | (go_simp; with_reducible rfl)
                refine wpAnyH_take (i := 16) (v := ?_) rfl (by kernel_rfl) (by kernel_rfl) (by kernel_rfl) (fun _ _ _ h => h) (Or.inl ⟨by kernel_rfl, ?_⟩) hHeld ?_
                rotate_left
                · intro w hSw; obtain ⟨B, z1, z2, z3, z4, z5, z6, x1, x2, x3, x4, x5, x6⟩ := hSw; first | (go_simp; done) | (go_simp; with_reducible rfl)
                refine wpAnyH_take (i := 17) (v := ?_) rfl (by kernel_rfl) (by kernel_rfl) (by kernel_rfl) (fun _ _ _ h => h) (Or.inl ⟨by kernel_rfl, ?_⟩) hHeld ?_
                rotate_left
                · intro w hSw; obtain ⟨B, z1, z2, z3, z4, z5, z6, x1, x2, x3, x4, x5, x6⟩ := hSw; first | (go_simp; done) | (go_simp; with_reducible rfl)
                refine wpAnyH_take (i := 18) (v := ?_) rfl (by kernel_rfl) (by kernel_rfl) (by kernel_rfl) (fun _ _ _ h => h) (Or.inl ⟨by kernel_rfl, ?_⟩) hHeld ?_
                rotate_left
                · intro w hSw; obtain ⟨B, z1, z2, z3, z4, z5, z6, x1, x2, x3, x4, x5, x6⟩ := hSw; first | (go_simp; done) | (go_simp; with_reducible rfl)
                refine wpAnyH_ready (rs := [19]) (by kernel_rfl) (by simp) ?_
                refine AllReadyH.cons rfl (fun K hK => ?_) AllReadyH.nil
                go_simp
                go_wp2_with fail
                refine (HP2.out _ hHeld.B).mono ?_
                rintro e wb ⟨rfl, hbb⟩
                have Sb := hHeld.on hbb
                refine hK.out _ _ ?_ (fun hHeld => ?_)
                · exact Sb
                clear hK K
                refine wpAnyH_take (i := 20) (v := ?_) rfl (by kernel_rfl) (by kernel_rfl) (by kernel_rfl) (fun _ _ _ h => h) (Or.inl ⟨by kernel_rfl, ?_⟩) hHeld ?_
                rotate_left
                · intro w hSw; obtain ⟨B, z1, z2, z3, z4, z5, z6, x1, x2, x3, x4, x5, x6⟩ := hSw; first | (go_simp; done) | (go_simp; with_reducible rfl)
                refine wpAnyH_take (i := 21) (v := ?_) rfl (by kernel_rfl) (by kernel_rfl) (by kernel_rfl) (fun _ _ _ h => h) (Or.inl ⟨by kernel_rfl, ?_⟩) hHeld ?_
                rotate_left
                · intro w hSw; obtain ⟨B, z1, z2, z3, z4, z5, z6, x1, x2, x3, x4, x5, x6⟩ := hSw; first | (go_simp; done) | (go_simp; with_reducible rfl)
                refine wpAnyH_done (by kernel_rfl) ?_ _
                have HB9 : Below wr.heap.size wr wb := by
                  (repeat' (first | (with_reducible exact Below.refl _ _) | (with_reducible assumption) | (with_reducible refine belowNext ?_ (by with_reducible assumption)) | (with_reducible refine belowAlloc ?_ _) | (with_reducible refine Below.drew ?_) | (with_reducible refine below_drewN ?_ _) | (with_reducible refine Below.setCell ?_ ?_ _) | go_size | (with_reducible refine sizeOf' ?_) | (with_reducible refine sizeAdd ?_) | (dsimp only; first | (with_reducible refine sizeOf' ?_) | (with_reducible refine sizeAdd ?_))))
                have HI9 := Lib.hid (HIn.out.on HB9)
                have HJ : Hid (rJ ls (p1, p2) (q1, q2) (k + 1) = RL ∧ oJ ls (p1, p2) (q1, q2) (k + 1) = T.foldl insA O) := Lib.hid (HYe.out (by rw [HHa.out]; rfl))
                clear hba hbb Sa Sb hHeld S1 HIn HB9 d1 d1' d2 d2' HP2 HP1 HYe HNo
                go_wp2_with fail
                go_loopg [7, 10] lk (fun g s7 s10 wy => ∃ (j b c : Nat), j + g = lk ∧ s10 = .int .i64 j ∧ s7 = .slice (some ⟨b, 0, none⟩) ((T.take j).foldl insA O).length c ∧ Hid (InJ W0 b c ((T.take j).foldl insA O) (.slice (some ⟨b8, 0, none⟩) RL.length c8) RL.length xs RL wy))
                case atStart => exact ⟨0, b7, c7, by omega, rfl, rfl, HI9⟩
                case round =>
                  clear HI9
                  obtain ⟨j, b7, c7, hjg, rfl, rfl, HIn⟩ := hrel
                  have HJG := Lib.hid hjg
                  have x5 : wr.cell? ⟨bS, oS + k, none⟩ = some (.slice Ak lk ck) := cellThru HIn.out.B HX5.out.1 HX5.out.2
                  have hbSw : bS < wr.heap.size := Nat.lt_of_lt_of_le HX5.out.1 HIn.out.B.size
                  cases gk with
                  | zero =>
                    obtain rfl : j = lk := by omega
                    have HI3 := HIn
                    clear hjg HIn
                    have HTk : Hid ((T.take j).foldl insA O = oJ ls (p1, p2) (q1, q2) (k + 1)) := Lib.hid (by rw [HJ.out.2, List.take_of_length_le (by have := HLk.out; omega)])
                    rw [HTk.out] at HI3 ⊢
                    go_wp2
                    go_roundg g2
                    case measure => omega
                    case rel => exact ⟨k + 1, b7, c7, b8, c8, xs, by have := HKG.out; omega, by have := HKG.out; have := HTot.out; have := HIG.out; go_num, rfl, by rw [HJ.out.1], by rw [HJ.out.1]; exact HI3⟩
                  | succ g3 =>
                    have hjk : j < T.length := by have := HLk.out; omega
                    have hjn : j < lk := by omega
                    have hne : T ≠ [] := by rintro rfl; simp at hjk
                    obtain ⟨bA, oA, rfl, hbA, hcA⟩ := HRw.out hne
                    obtain ⟨⟨t1, t2⟩, ht⟩ : ∃ p, T[j] = p := ⟨_, rfl⟩
                    have ht2 : T[j]? = some (t1, t2) := by rw [List.getElem?_eq_getElem hjk, ht]
                    obtain ⟨y0, y1⟩ := hcA j t1 t2 ht2
                    have y0 := cellThru HIn.out.B hbA y0
                    have y1 := cellThru HIn.out.B hbA y1
                    have hbAw : bA < wr.heap.size := Nat.lt_of_lt_of_le hbA HIn.out.B.size
                    have HAt : Hid (isAng t1 t2 = true) := Lib.hid (allAng_mem HOa.out.2.2.2 (List.mem_of_getElem? ht2))
                    have HOn : Hid (allAng ((T.take j).foldl insA O) = true) := Lib.hid (foldA_ang HOa.out.2.2.2 HOa.out.1 j)
                    have HOm : Hid (((T.take j).foldl insA O).length ≤ 1100000) := Lib.hid (by have h1 := foldA_len (T.take j) O; have h2 := HOa.out.2.1; have h3 := HTl.out; have h4 := HTot.out; simp only [List.length_take] at h1; omega)
                    have HNx : Hid ((T.take (j + 1)).foldl insA O = insA ((T.take j).foldl insA O) (t1, t2)) := Lib.hid (fold_nextJ ht2)
                    generalize (T.take j).foldl insA O = OJ at *
                    clear hcA ht ht2 hne hjk hjg
                    go_wp2_with fail
                    refine (HI.out W0.heap.size _ _ OJ t1 t2 _ HIn.out.B.size HOn.out HAt.out HOm.out HIn.out.own).mono ?_
                    rintro e w5 ⟨b', c', rfl, ho5, hb5⟩
                    have HN := Lib.hid (HIn.out.own' hb5 ho5)
                    clear ho5 hb5 HIn y0 y1 x5
                    go_wp2
                    go_roundg g3
                    case measure => omega
                    case rel => exact ⟨j + 1, b', c', by have := HJG.out; omega, by have := HJG.out; have := HLk.out; have := HTl.out; have := HTot.out; have := HIG.out; go_num, by rw [HNx.out], by rw [HNx.out]; exact HN⟩
            · rw [e1] at d1 HHa
              have d1' : (P1 < 0) = False := eq_false (of_decide_eq_false d1)
              clear d2 HP2
              go_wp2_with fail
              refine wp_region_held_drew (S := (C6 W0 ⟨bO, oO + i * 2, none⟩ ⟨bO, oO + i * 2 + 1, none⟩ ⟨bT, oT + i * 2, none⟩ ⟨bT, oT + i * 2 + 1, none⟩ ⟨bS, oS + k, none⟩ ⟨bS, oS + k, none⟩ (.int .i64 p1) (.int .i64 p2) (.int .i64 q1) (.int .i64 q2) (.slice Ak lk ck) (.slice Ak lk ck))) (by kernel_rfl) ?_ (fun hHeld => ?_)
              · exact S1.on (Below.refl _ _).drew
              refine wpAnyH_take (i := 0) (v := ?_) rfl (by kernel_rfl) (by kernel_rfl) (by kernel_rfl) (fun _ _ _ h => h) (Or.inl ⟨by kernel_rfl, ?_⟩) hHeld ?_
              rotate_left
              · intro w hSw; obtain ⟨B, z1, z2, z3, z4, z5, z6, x1, x2, x3, x4, x5, x6⟩ := hSw; first | (go_simp; done) | (go_simp; with_reducible rfl)
              refine wpAnyH_take (i := 1) (v := ?_) rfl (by kernel_rfl) (by kernel_rfl) (by kernel_rfl) (fun _ _ _ h => h) (Or.inl ⟨by kernel_rfl, ?_⟩) hHeld ?_
              rotate_left
              · intro w hSw; obtain ⟨B, z1, z2, z3, z4, z5, z6, x1, x2, x3, x4, x5, x6⟩ := hSw; first | (go_simp; done) | (go_simp; with_reducible rfl)
              refine wpAnyH_take (i := 2) (v := ?_) rfl (by kernel_rfl) (by kernel_rfl) (by kernel_rfl) (fun _ _ _ h => h) (Or.inl ⟨by kernel_rfl, ?_⟩) hHeld ?_
              rotate_left
              · intro w hSw; obtain ⟨B, z1, z2, z3, z4, z5, z6, x1, x2, x3, x4, x5, x6⟩ := hSw; first | (go_simp; done) | (go_simp; with_reducible rfl)
              refine wpAnyH_take (i := 3) (v := ?_) rfl (by kernel_rfl) (by kernel_rfl) (by kernel_rfl) (fun _ _ _ h => h) (Or.inl ⟨by kernel_rfl, ?_⟩) hHeld ?_
              rotate_left
              · intro w hSw; obtain ⟨B, z1, z2, z3, z4, z5, z6, x1, x2, x3, x4, x5, x6⟩ := hSw; first | (go_simp; done) | (go_simp; with_reducible rfl)
              refine wpAnyH_take (i := 4) (v := ?_) rfl (by kernel_rfl) (by kernel_rfl) (by kernel_rfl) (fun _ _ _ h => h) (Or.inl ⟨by kernel_rfl, ?_⟩) hHeld ?_
              rotate_left
              · intro w hSw; obtain ⟨B, z1, z2, z3, z4, z5, z6, x1, x2, x3, x4, x5, x6⟩ := hSw; first | (go_simp; done) | (go_simp; with_reducible rfl)
              refine wpAnyH_take (i := 5) (v := ?_) rfl (by kernel_rfl) (by kernel_rfl) (by kernel_rfl) (fun _ _ _ h => h) (Or.inl ⟨by kernel_rfl, ?_⟩) hHeld ?_
              rotate_left
              · intro w hSw; obtain ⟨B, z1, z2, z3, z4, z5, z6, x1, x2, x3, x4, x5, x6⟩ := hSw; first | (go_simp; done) | (go_simp; with_reducible rfl)
              refine wpAnyH_take (i := 6) (v := ?_) rfl (by kernel_rfl) (by kernel_rfl) (by kernel_rfl) (fun _ _ _ h => h) (Or.inl ⟨by kernel_rfl, ?_⟩) hHeld ?_
              rotate_left
              · intro w hSw; obtain ⟨B, z1, z2, z3, z4, z5, z6, x1, x2, x3, x4, x5, x6⟩ := hSw; first | (go_simp; done) | (go_simp; with_reducible rfl)
              refine wpAnyH_take (i := 7) (v := ?_) rfl (by kernel_rfl) (by kernel_rfl) (by kernel_rfl) (fun _ _ _ h => h) (Or.inl ⟨by kernel_rfl, ?_⟩) hHeld ?_
              rotate_left
              · intro w hSw; obtain ⟨B, z1, z2, z3, z4, z5, z6, x1, x2, x3, x4, x5, x6⟩ := hSw; first | (go_simp; done) | (go_simp; with_reducible rfl)
              refine wpAnyH_ready (rs := [8]) (by kernel_rfl) (by simp) ?_
              refine AllReadyH.cons rfl (fun K hK => ?_) AllReadyH.nil
              go_simp
              go_wp2_with fail
              refine (HP1.out _ hHeld.B).mono ?_
              rintro e wa ⟨rfl, hba⟩
              have Sa := hHeld.on hba
              refine hK.out _ _ ?_ (fun hHeld => ?_)
              · exact Sa
              clear hK K
              refine wpAnyH_take (i := 9) (v := ?_) rfl (by kernel_rfl) (by kernel_rfl) (by kernel_rfl) (fun _ _ _ h => h) (Or.inl ⟨by kernel_rfl, ?_⟩) hHeld ?_
              rotate_left
              · intro w hSw; obtain ⟨B, z1, z2, z3, z4, z5, z6, x1, x2, x3, x4, x5, x6⟩ := hSw; first | (go_simp; done) | (go_simp; with_reducible rfl)
              refine wpAnyH_take (i := 10) (v := ?_) rfl (by kernel_rfl) (by kernel_rfl) (by kernel_rfl) (fun _ _ _ h => h) (Or.inl ⟨by kernel_rfl, ?_⟩) hHeld ?_
              rotate_left
              · intro w hSw; obtain ⟨B, z1, z2, z3, z4, z5, z6, x1, x2, x3, x4, x5, x6⟩ := hSw; first | (go_simp; done) | (go_simp; with_reducible rfl)
              refine wpAnyH_take (i := 11) (v := undef) rfl (by kernel_rfl) (by kernel_rfl) (by kernel_rfl) (fun _ _ _ h => h) (Or.inr ⟨by kernel_rfl, rfl⟩) hHeld ?_
              go_simp
              refine wpAnyH_take (i := 12) (v := undef) rfl (by kernel_rfl) (by kernel_rfl) (by kernel_rfl) (fun _ _ _ h => h) (Or.inr ⟨by kernel_rfl, rfl⟩) hHeld ?_
              go_simp
              refine wpAnyH_take (i := 13) (v := undef) rfl (by kernel_rfl) (by kernel_rfl) (by kernel_rfl) (fun _ _ _ h => h) (Or.inr ⟨by kernel_rfl, rfl⟩) hHeld ?_
              go_simp
              refine wpAnyH_take (i := 14) (v := undef) rfl (by kernel_rfl) (by kernel_rfl) (by kernel_rfl) (fun _ _ _ h => h) (Or.inr ⟨by kernel_rfl, rfl⟩) hHeld ?_
              go_simp
              refine wpAnyH_take (i := 15) (v := undef) rfl (by kernel_rfl) (by kernel_rfl) (by kernel_rfl) (fun _ _ _ h => h) (Or.inr ⟨by kernel_rfl, rfl⟩) hHeld ?_
              go_simp
              refine wpAnyH_take (i := 16) (v := undef) rfl (by kernel_rfl) (by kernel_rfl) (by kernel_rfl) (fun _ _ _ h => h) (Or.inr ⟨by kernel_rfl, rfl⟩) hHeld ?_
              go_simp
              refine wpAnyH_take (i := 17) (v := undef) rfl (by kernel_rfl) (by kernel_rfl) (by kernel_rfl) (fun _ _ _ h => h) (Or.inr ⟨by kernel_rfl, rfl⟩) hHeld ?_
              go_simp
              refine wpAnyH_take (i := 18) (v := undef) rfl (by kernel_rfl) (by kernel_rfl) (by kernel_rfl) (fun _ _ _ h => h) (Or.inr ⟨by kernel_rfl, rfl⟩) hHeld ?_
              go_simp
              refine wpAnyH_take (i := 19) (v := undef) rfl (by kernel_rfl) (by kernel_rfl) (by kernel_rfl) (fun _ _ _ h => h) (Or.inr ⟨by kernel_rfl, rfl⟩) hHeld ?_
              go_simp
              refine wpAnyH_take (i := 20) (v := undef) rfl (by kernel_rfl) (by kernel_rfl) (by kernel_rfl) (fun _ _ _ h => h) (Or.inr ⟨by kernel_rfl, rfl⟩) hHeld ?_
              go_simp
              refine wpAnyH_take (i := 21) (v := ?_) rfl (by kernel_rfl) (by kernel_rfl) (by kernel_rfl) (fun _ _ _ h => h) (Or.inl ⟨by kernel_rfl, ?_⟩) hHeld ?_
              rotate_left
              · intro w hSw; obtain ⟨B, z1, z2, z3, z4, z5, z6, x1, x2, x3, x4, x5, x6⟩ := hSw; first | (go_simp; done) | (go_simp; with_reducible rfl)
              refine wpAnyH_done (by kernel_rfl) ?_ _
              have HB9 : Below wr.heap.size wr wa := by
                (repeat' (first | (with_reducible exact Below.refl _ _) | (with_reducible assumption) | (with_reducible refine belowNext ?_ (by with_reducible assumption)) | (with_reducible refine belowAlloc ?_ _) | (with_reducible refine Below.drew ?_) | (with_reducible refine below_drewN ?_ _) | (with_reducible refine Below.setCell ?_ ?_ _) | go_size | (with_reducible refine sizeOf' ?_) | (with_reducible refine sizeAdd ?_) | (dsimp only; first | (with_reducible refine sizeOf' ?_) | (with_reducible refine sizeAdd ?_))))
              have HI9 := Lib.hid (HIn.out.on HB9)
              have HJ : Hid (rJ ls (p1, p2) (q1, q2) (k + 1) = RL ∧ oJ ls (p1, p2) (q1, q2) (k + 1) = T.foldl insA O) := Lib.hid (HYe.out (by rw [HHa.out]; rfl))
              clear hba Sa hHeld S1 HIn HB9 d1 d1'  HP1 HYe HNo
              go_wp2_with fail
              go_loopg [7, 10] lk (fun g s7 s10 wy => ∃ (j b c : Nat), j + g = lk ∧ s10 = .int .i64 j ∧ s7 = .slice (some ⟨b, 0, none⟩) ((T.take j).foldl insA O).length c ∧ Hid (InJ W0 b c ((T.take j).foldl insA O) (.slice (some ⟨b8, 0, none⟩) RL.length c8) RL.length xs RL wy))
              case atStart => exact ⟨0, b7, c7, by omega, rfl, rfl, HI9⟩
              case round =>
                clear HI9
                obtain ⟨j, b7, c7, hjg, rfl, rfl, HIn⟩ := hrel
                have HJG := Lib.hid hjg
                have x5 : wr.cell? ⟨bS, oS + k, none⟩ = some (.slice Ak lk ck) := cellThru HIn.out.B HX5.out.1 HX5.out.2
                have hbSw : bS < wr.heap.size := Nat.lt_of_lt_of_le HX5.out.1 HIn.out.B.size
                cases gk with
                | zero =>
                  obtain rfl : j = lk := by omega
                  have HI3 := HIn
                  clear hjg HIn
                  have HTk : Hid ((T.take j).foldl insA O = oJ ls (p1, p2) (q1, q2) (k + 1)) := Lib.hid (by rw [HJ.out.2, List.take_of_length_le (by have := HLk.out; omega)])
                  rw [HTk.out] at HI3 ⊢
                  go_wp2
                  go_roundg g2
                  case measure => omega
                  case rel => exact ⟨k + 1, b7, c7, b8, c8, xs, by have := HKG.out; omega, by have := HKG.out; have := HTot.out; have := HIG.out; go_num, rfl, by rw [HJ.out.1], by rw [HJ.out.1]; exact HI3⟩
                | succ g3 =>
                  have hjk : j < T.length := by have := HLk.out; omega
                  have hjn : j < lk := by omega
                  have hne : T ≠ [] := by rintro rfl; simp at hjk
                  obtain ⟨bA, oA, rfl, hbA, hcA⟩ := HRw.out hne
                  obtain ⟨⟨t1, t2⟩, ht⟩ : ∃ p, T[j] = p := ⟨_, rfl⟩
                  have ht2 : T[j]? = some (t1, t2) := by rw [List.getElem?_eq_getElem hjk, ht]
                  obtain ⟨y0, y1⟩ := hcA j t1 t2 ht2
                  have y0 := cellThru HIn.out.B hbA y0
                  have y1 := cellThru HIn.out.B hbA y1
                  have hbAw : bA < wr.heap.size := Nat.lt_of_lt_of_le hbA HIn.out.B.size
                  have HAt : Hid (isAng t1 t2 = true) := Lib.hid (allAng_mem HOa.out.2.2.2 (List.mem_of_getElem? ht2))
                  have HOn : Hid (allAng ((T.take j).foldl insA O) = true) := Lib.hid (foldA_ang HOa.out.2.2.2 HOa.out.1 j)
                  have HOm : Hid (((T.take j).foldl insA O).length ≤ 1100000) := Lib.hid (by have h1 := foldA_len (T.take j) O; have h2 := HOa.out.2.1; have h3 := HTl.out; have h4 := HTot.out; simp only [List.length_take] at h1; omega)
                  have HNx : Hid ((T.take (j + 1)).foldl insA O = insA ((T.take j).foldl insA O) (t1, t2)) := Lib.hid (fold_nextJ ht2)
                  generalize (T.take j).foldl insA O = OJ at *
                  clear hcA ht ht2 hne hjk hjg
                  go_wp2_with fail
                  refine (HI.out W0.heap.size _ _ OJ t1 t2 _ HIn.out.B.size HOn.out HAt.out HOm.out HIn.out.own).mono ?_
                  rintro e w5 ⟨b', c', rfl, ho5, hb5⟩
                  have HN := Lib.hid (HIn.out.own' hb5 ho5)
                  clear ho5 hb5 HIn y0 y1 x5
                  go_wp2
                  go_roundg g3
                  case measure => omega
                  case rel => exact ⟨j + 1, b', c', by have := HJG.out; omega, by have := HJG.out; have := HLk.out; have := HTl.out; have := HTot.out; have := HIG.out; go_num, by rw [HNx.out], by rw [HNx.out]; exact HN⟩
          | zero =>
            obtain rfl : k = ls.length := by omega
            have hje := joinJ_end ls (p1, p2) (q1, q2)
            obtain ⟨O, hO⟩ : ∃ O, oJ ls (p1, p2) (q1, q2) ls.length = O := ⟨_, rfl⟩
            obtain ⟨RL, hR⟩ : ∃ RL, rJ ls (p1, p2) (q1, q2) ls.length = RL := ⟨_, rfl⟩
            have hRl : RL.length ≤ 64 := by
              have h1 := HTot.out
              rw [← hR]
              exact Nat.le_trans (List.length_filter_le _ _) (by simp; omega)
            rw [hO, hR] at HIn hje
            rw [hO, hR]
            rw [HE.out] at hje
            have HJe := Lib.hid hje
            have hW9 : W0.heap.size ≤ wr.heap.size := HIn.out.B.size
            have HRest : Hid (wr.ownsRow W0.heap.size 73 1 (.slice (some ⟨b8, 0, none⟩) RL.length c8) RL.length xs) := Lib.hid HIn.out.rest
            clear hje hO hR hkg
            go_wp2_with (at_builtin; refine wpList_append_own_at _ rfl _ _ 43 rfl W0.heap.size 73 i0 (.slice none 0 0) 1 24 Try.underlying43 hi hz0 hz1 hz2 rfl (by decide) (.slice (some ⟨b8, 0, none⟩) RL.length c8) RL.length xs rfl (World.ownsRow.alloc HRest.out _) ⟨_, 0, none⟩ 1 1 [.slice (some ⟨b7, 0, none⟩) O.length c7] rfl rfl (cell_one_new _ _ _) ?c2 ?c3 ?c4 ?c5 ?_)
            case c2 => first | rfl | (intro u hu; simp at hu; subst hu; rfl)
            case c3 => unfold maxLen; omega
            case c4 => omega
            case c5 => first | omega | (simp; omega)
            intro v2 w8 hown' hgrow _ hat
            obtain ⟨gn, capn, rfl⟩ := ownSuccK hown'
            have HI8 := HIn.out.on (belowAlloc (Below.refl _ _) (.cells #[.slice (some ⟨b7, 0, none⟩) O.length c7] 73))
            have hB8 : Below W0.heap.size W0 w8 := HI8.B.grown hgrow HI8.B.size (fun j hj => (HI8.rest.lt j hj).1)
            have hOw : AngRow w8 w8.heap.size (some ⟨b7, 0, none⟩) O := (ownA_of rfl (HI8.own.kept hgrow (own_neJ HI8.own HI8.rest typesJ))).row
            have HS8 : Hid (SetsRow w8 w8.heap.size (some ⟨gn, 0, none⟩) (stJ a b (i + 1))) := Lib.hid (by rw [← HJe.out]; exact RowIn.sets (RowIn.push ((HI8.inn.below hB8).more hB8.size) hOw) hown')
            have HB8 : Hid (Below w.heap.size w w8) := Lib.hid (belowNext HB.out hB8)
            have HL8 : Hid ((stJ a b (i + 1)).length = RL.length + 1) := Lib.hid (by rw [← HJe.out, List.length_append]; rfl)
            clear hown' hgrow hat HI8 hB8 hOw HRest HIn
            go_wp2
            go_roundg g
            case measure => omega
            case rel => exact ⟨i + 1, some ⟨gn, 0, none⟩, capn, by have := HIG.out; omega, by have := HIG.out; go_num, by rw [HL8.out], HS8, HB8⟩
    | zero =>
      obtain rfl : i = n := by omega
      have hpart := stJ_part HT.out.ra HT.out.rb i
      have hst := stJ_tot a b i
      obtain ⟨y0, y1⟩ := HO.out 0 hn0
      rw [Nat.zero_mul, Nat.add_zero] at y0 y1
      have hbOw : bO < wr.heap.size := Nat.lt_of_lt_of_le hbO HB.out.size
      have y0 := cellThru HB.out hbO y0
      have y1 := cellThru HB.out hbO y1
      obtain ⟨ls, hls⟩ : ∃ ls, stJ a b i = ls := ⟨_, rfl⟩
      rw [hls] at HS hst hpart ⊢
      have HPart := Lib.hid hpart
      have hls64 : ls.length ≤ 64 := by omega
      have HTot := Lib.hid hst
      have HO0 : Hid (orb a 0 = a) := Lib.hid rfl
      clear hpart hst hls hig HIG HO HT2 HI HI1
      obtain ⟨W0, rfl⟩ : ∃ x, x = wr := ⟨_, rfl⟩
      go_wp2_with fail
      go_cut [11, 12] (fun s11 s12 wy => ∃ (G F : Nat), s11 = .slice (some ⟨G, 0, none⟩) 0 0 ∧ s12 = .pointer (some ⟨F, 0, none⟩) ∧ Hid (OutJ W0 F (orb a 0) (.slice (some ⟨G, 0, none⟩) 0 0) 0 [] [] wy))
      case first =>
        go_region
        all_goals
          go_wp2_with fail
          go_meet
          refine ⟨_, _, rfl, rfl, Lib.hid ⟨?_, ?_, ?_, ?_, ?_, ?_, ?_, ?_, ?_, ⟨rfl, fun i l h => by simp at h⟩⟩⟩
          all_goals first | (simp; done) | (simp; omega) | (simp [go_sem]; done) | ((repeat' (first | (with_reducible exact Below.refl _ _) | (with_reducible assumption) | (with_reducible refine belowNext ?_ (by with_reducible assumption)) | (with_reducible refine belowAlloc ?_ _) | (with_reducible refine Below.drew ?_) | (with_reducible refine below_drewN ?_ _) | (with_reducible refine Below.setCell ?_ ?_ _) | go_size | (with_reducible refine sizeOf' ?_) | (with_reducible refine sizeAdd ?_) | (dsimp only; first | (with_reducible refine sizeOf' ?_) | (with_reducible refine sizeAdd ?_))))) | skip
          all_goals first
            | exact (World.ownsRow.alloc (World.ownsRow_made (base := W0.heap.size) (e := 73) (size := 1) W0 #[] 0 (Nat.le_refl _) (by unfold maxLen; omega) (by simp)) _)
            | (have h := World.ownsRow_made (base := W0.heap.size) (e := 73) (size := 1) (W0.alloc (.cells #[.int .i64 (orb a 0).1, .int .i64 (orb a 0).2] 29)) #[] 0 (by simp) (by unfold maxLen; omega) (by simp); simp only [World.size_alloc] at h; exact h)
            | (simp [Value.ownBlock]; done)
            | (simp [Value.ownBlock]; omega)
      case rest =>
        obtain ⟨G0, F, rfl, rfl, HIn⟩ := hcut
        clear y0 y1
        go_wp2_with fail
        go_loopg [11] K (fun g s11 wy => ∃ (j G c : Nat) (xs : List Value), j + g = K ∧ s11 = .slice (some ⟨G, 0, none⟩) j c ∧ Hid (OutJ W0 F (orb a j) (.slice (some ⟨G, 0, none⟩) j c) j xs (lsJ S j) wy))
        case atStart => exact ⟨0, G0, 0, [], by omega, rfl, HIn⟩
        case round =>
          clear HIn
          obtain ⟨j, G, c, xs, hjg, rfl, HIn⟩ := hrel
          obtain ⟨gK, hgK⟩ : ∃ x, x = gk := ⟨_, rfl⟩
          subst hgK
          have hjK : j ≤ K := by omega
          have HJG := Lib.hid hjg
          have HSeen := Lib.hid (HT.out.led.stopSeen HT.out.start HC.out HSt.out hjK)
          have HCj := Lib.hid (HT.out.led.tCls HT.out.start HC.out j)
          have HEj := Lib.hid (HT.out.led.itEnds HT.out.start j)
          rw [itJ_orb] at HSeen HCj HEj
          have HDj := Lib.hid (fun W => HD.out j W)
          obtain ⟨⟨x1, x2⟩, hx⟩ : ∃ x, orb a j = x := ⟨_, rfl⟩
          have HXj := Lib.hid hx
          rw [hx] at HIn HSeen HCj HEj HDj
          have hj64 : j ≤ 64 := by have := HKn.out; omega
          clear hx hjg
          go_wp2_with fail
          go_loopg [13] j (fun g s13 wy => ∃ (i : Nat), i + g = j ∧ s13 = .int .i64 i ∧ Hid (∀ i', i' < i → (x1, x2) ∉ tJ dbl S i') ∧ Hid (OutJ W0 F (x1, x2) (.slice (some ⟨G, 0, none⟩) j c) j xs (lsJ S j) wy))
          case atStart => exact ⟨0, by omega, rfl, Lib.hid (fun i' h => absurd h (by omega)), HIn⟩
          case round =>
            clear HIn
            obtain ⟨i, hig, rfl, HNo, HIn⟩ := hrel
            have HIG := Lib.hid hig
            cases gk with
            | succ g2 =>
              have hij : i < j := by omega
              obtain ⟨Ai, ci, hxi, hrow⟩ := HIn.out.inn.2 i _ (gA_some (ls := lsJ S j) (i := i) (by rw [lsJ_len]; exact hij))
              rw [lsJ_at hij] at hxi hrow
              have hce := HIn.out.own.cells (g := G) rfl i _ hxi
              have hce : wr.cell? ⟨G, i, none⟩ = some (.slice Ai (tJ dbl S i).length ci) := by
                refine Eq.trans ?_ hce
                cases i <;> simp [Addr.add]
              have hGw : G < wr.heap.size := (HIn.out.own.lt G rfl).2
              have HP1 := Lib.hid (fun W (hB : Below W0.heap.size W0 W) => HPl.out Ai ci (tJ dbl S i) x1 x2 W ((hrow.below hB).more hB.size) (Nat.le_trans (tJ_le S i) (by have := HSl.out; omega)))
              have d1 := plc_pos (tJ dbl S i) (x1, x2)
              obtain ⟨T, hT⟩ : ∃ T, tJ dbl S i = T := ⟨_, rfl⟩
              have HTi := Lib.hid hT
              rw [hT] at hce HP1 d1
              obtain ⟨li, hli⟩ : ∃ l, T.length = l := ⟨_, rfl⟩
              obtain ⟨P1, hP1⟩ : ∃ P, plcI T (x1, x2) = P := ⟨_, rfl⟩
              rw [hP1] at HP1 d1
              rw [hli] at hce HP1
              have S1 : (C4 W0 ⟨G, i, none⟩ ⟨F, 0, none⟩ ⟨F, 1, none⟩ ⟨F, 1, none⟩ (.slice Ai li ci) (.int .i64 x1) (.int .i64 x2) (.int .i64 x2)) wr := ⟨HIn.out.B, hGw, HIn.out.zF, HIn.out.zF, HIn.out.zF, hce, HIn.out.x0, HIn.out.x1, HIn.out.x1⟩
              clear hce hrow hxi hT hli hP1 hig
              cases e1 : decide ((x1, x2) ∈ T)
              · rw [e1] at d1
                have d1' : (P1 ≥ 0) = False := eq_false (of_decide_eq_false d1)
                have d1b : decide (0 ≤ P1) = false := d1
                have d1c : (0 ≤ P1) = False := d1'
                have HNo2 : Hid (∀ i', i' < i + 1 → (x1, x2) ∉ tJ dbl S i') := Lib.hid (fun i' h => by
                  by_cases e : i' = i
                  · subst e; rw [HTi.out]; exact of_decide_eq_false e1
                  · exact HNo.out i' (by omega))
                go_wp2_with fail
                refine wp_region_held_drew (S := (C4 W0 ⟨G, i, none⟩ ⟨F, 0, none⟩ ⟨F, 1, none⟩ ⟨F, 1, none⟩ (.slice Ai li ci) (.int .i64 x1) (.int .i64 x2) (.int .i64 x2))) (by kernel_rfl) ?_ (fun hHeld => ?_)
                · exact S1.on (Below.refl _ _).drew
                refine wpAnyH_take (i := 0) (v := ?_) rfl (by kernel_rfl) (by kernel_rfl) (by kernel_rfl) (fun _ _ _ h => h) (Or.inl ⟨by kernel_rfl, ?_⟩) hHeld ?_
                rotate_left
                · intro w hSw; obtain ⟨B, z1, z2, z3, z4, x1, x2, x3, x4⟩ := hSw; first | (go_simp; done) | (go_simp; with_reducible rfl)
                refine wpAnyH_take (i := 1) (v := ?_) rfl (by kernel_rfl) (by kernel_rfl) (by kernel_rfl) (fun _ _ _ h => h) (Or.inl ⟨by kernel_rfl, ?_⟩) hHeld ?_
                rotate_left
                · intro w hSw; obtain ⟨B, z1, z2, z3, z4, x1, x2, x3, x4⟩ := hSw; first | (go_simp; done) | (go_simp; with_reducible rfl)
                refine wpAnyH_take (i := 2) (v := ?_) rfl (by kernel_rfl) (by kernel_rfl) (by kernel_rfl) (fun _ _ _ h => h) (Or.inl ⟨by kernel_rfl, ?_⟩) hHeld ?_
                rotate_left
                · intro w hSw; obtain ⟨B, z1, z2, z3, z4, x1, x2, x3, x4⟩ := hSw; first | (go_simp; done) | (go_simp; with_reducible rfl)
                refine wpAnyH_take (i := 3) (v := ?_) rfl (by kernel_rfl) (by kernel_rfl) (by kernel_rfl) (fun _ _ _ h => h) (Or.inl ⟨by kernel_rfl, ?_⟩) hHeld ?_
                rotate_left
                · intro w hSw; obtain ⟨B, z1, z2, z3, z4, x1, x2, x3, x4⟩ := hSw; first | (go_simp; done) | (go_simp; with_reducible rfl)
                refine wpAnyH_take (i := 4) (v := ?_) rfl (by kernel_rfl) (by kernel_rfl) (by kernel_rfl) (fun _ _ _ h => h) (Or.inl ⟨by kernel_rfl, ?_⟩) hHeld ?_
                rotate_left
                · intro w hSw; obtain ⟨B, z1, z2, z3, z4, x1, x2, x3, x4⟩ := hSw; first | (go_simp; done) | (go_simp; with_reducible rfl)
                refine wpAnyH_ready (rs := [5]) (by kernel_rfl) (by simp) ?_
                refine AllReadyH.cons rfl (fun K hK => ?_) AllReadyH.nil
                go_simp
                go_wp2_with fail
                refine (HP1.out _ hHeld.B).mono ?_
                rintro e wa ⟨rfl, hba⟩
                have Sa := hHeld.on hba
                refine hK.out _ _ ?_ (fun hHeld => ?_)
                · exact Sa
                clear hK K
                refine wpAnyH_take (i := 6) (v := ?_) rfl (by kernel_rfl) (by kernel_rfl) (by kernel_rfl) (fun _ _ _ h => h) (Or.inl ⟨by kernel_rfl, ?_⟩) hHeld ?_
                rotate_left
                · intro w hSw; obtain ⟨B, z1, z2, z3, z4, x1, x2, x3, x4⟩ := hSw; first | (go_simp; done) | (go_simp; with_reducible rfl)
                refine wpAnyH_done (by kernel_rfl) ?_ _
                have HB9 : Below wr.heap.size wr wa := by
                  (repeat' (first | (with_reducible exact Below.refl _ _) | (with_reducible assumption) | (with_reducible refine belowNext ?_ (by with_reducible assumption)) | (with_reducible refine belowAlloc ?_ _) | (with_reducible refine Below.drew ?_) | (with_reducible refine below_drewN ?_ _) | (with_reducible refine Below.setCell ?_ ?_ _) | go_size | (with_reducible refine sizeOf' ?_) | (with_reducible refine sizeAdd ?_) | (dsimp only; first | (with_reducible refine sizeOf' ?_) | (with_reducible refine sizeAdd ?_))))
                have HI9 := Lib.hid (HIn.out.on HB9)
                clear hba Sa hHeld S1 HB9 HIn
                go_wp2
                go_roundg g2
                case measure => omega
                case rel => exact ⟨i + 1, by have := HIG.out; omega, by go_num, HNo2, HI9⟩
              · rw [e1] at d1
                have d1' : (P1 ≥ 0) = True := eq_true (of_decide_eq_true d1)
                have d1b : decide (0 ≤ P1) = true := d1
                have d1c : (0 ≤ P1) = True := d1'
                have hKj : j = K := HSeen.out.mp ⟨i, hij, by rw [HTi.out]; exact of_decide_eq_true e1⟩
                have HKj := Lib.hid hKj
                clear hKj
                go_wp2_with fail
                refine wp_region_held_drew (S := (C4 W0 ⟨G, i, none⟩ ⟨F, 0, none⟩ ⟨F, 1, none⟩ ⟨F, 1, none⟩ (.slice Ai li ci) (.int .i64 x1) (.int .i64 x2) (.int .i64 x2))) (by kernel_rfl) ?_ (fun hHeld => ?_)
                · exact S1.on (Below.refl _ _).drew
                refine wpAnyH_take (i := 0) (v := ?_) rfl (by kernel_rfl) (by kernel_rfl) (by kernel_rfl) (fun _ _ _ h => h) (Or.inl ⟨by kernel_rfl, ?_⟩) hHeld ?_
                rotate_left
                · intro w hSw; obtain ⟨B, z1, z2, z3, z4, x1, x2, x3, x4⟩ := hSw; first | (go_simp; done) | (go_simp; with_reducible rfl)
                refine wpAnyH_take (i := 1) (v := ?_) rfl (by kernel_rfl) (by kernel_rfl) (by kernel_rfl) (fun _ _ _ h => h) (Or.inl ⟨by kernel_rfl, ?_⟩) hHeld ?_
                rotate_left
                · intro w hSw; obtain ⟨B, z1, z2, z3, z4, x1, x2, x3, x4⟩ := hSw; first | (go_simp; done) | (go_simp; with_reducible rfl)
                refine wpAnyH_take (i := 2) (v := ?_) rfl (by kernel_rfl) (by kernel_rfl) (by kernel_rfl) (fun _ _ _ h => h) (Or.inl ⟨by kernel_rfl, ?_⟩) hHeld ?_
                rotate_left
                · intro w hSw; obtain ⟨B, z1, z2, z3, z4, x1, x2, x3, x4⟩ := hSw; first | (go_simp; done) | (go_simp; with_reducible rfl)
                refine wpAnyH_take (i := 3) (v := ?_) rfl (by kernel_rfl) (by kernel_rfl) (by kernel_rfl) (fun _ _ _ h => h) (Or.inl ⟨by kernel_rfl, ?_⟩) hHeld ?_
                rotate_left
                · intro w hSw; obtain ⟨B, z1, z2, z3, z4, x1, x2, x3, x4⟩ := hSw; first | (go_simp; done) | (go_simp; with_reducible rfl)
                refine wpAnyH_take (i := 4) (v := ?_) rfl (by kernel_rfl) (by kernel_rfl) (by kernel_rfl) (fun _ _ _ h => h) (Or.inl ⟨by kernel_rfl, ?_⟩) hHeld ?_
                rotate_left
                · intro w hSw; obtain ⟨B, z1, z2, z3, z4, x1, x2, x3, x4⟩ := hSw; first | (go_simp; done) | (go_simp; with_reducible rfl)
                refine wpAnyH_ready (rs := [5]) (by kernel_rfl) (by simp) ?_
                refine AllReadyH.cons rfl (fun K hK => ?_) AllReadyH.nil
                go_simp
                go_wp2_with fail
                refine (HP1.out _ hHeld.B).mono ?_
                rintro e wa ⟨rfl, hba⟩
                have Sa := hHeld.on hba
                refine hK.out _ _ ?_ (fun hHeld => ?_)
                · exact Sa
                clear hK K
                refine wpAnyH_take (i := 6) (v := ?_) rfl (by kernel_rfl) (by kernel_rfl) (by kernel_rfl) (fun _ _ _ h => h) (Or.inl ⟨by kernel_rfl, ?_⟩) hHeld ?_
                rotate_left
                · intro w hSw; obtain ⟨B, z1, z2, z3, z4, x1, x2, x3, x4⟩ := hSw; first | (go_simp; done) | (go_simp; with_reducible rfl)
                refine wpAnyH_done (by kernel_rfl) ?_ _
                have HB9 : Below wr.heap.size wr wa := by
                  (repeat' (first | (with_reducible exact Below.refl _ _) | (with_reducible assumption) | (with_reducible refine belowNext ?_ (by with_reducible assumption)) | (with_reducible refine belowAlloc ?_ _) | (with_reducible refine Below.drew ?_) | (with_reducible refine below_drewN ?_ _) | (with_reducible refine Below.setCell ?_ ?_ _) | go_size | (with_reducible refine sizeOf' ?_) | (with_reducible refine sizeAdd ?_) | (dsimp only; first | (with_reducible refine sizeOf' ?_) | (with_reducible refine sizeAdd ?_))))
                have HI9 := Lib.hid (HIn.out.on HB9)
                clear hba Sa hHeld S1 HB9 HIn
                have HR9 : Hid (SetsRow wa wa.heap.size (some ⟨G, 0, none⟩) (lsJ S K) ∧ K ≤ c) := Lib.hid (by rw [← HKj.out]; exact ⟨RowIn.sets ((HI9.out.inn.below HI9.out.B).more HI9.out.B.size) HI9.out.own, cap_leJ HI9.out.own rfl⟩)
                have HB9 : Hid (Below w.heap.size w wa) := Lib.hid (belowNext HB.out HI9.out.B)
                clear HI9
                go_wp2
                go_ret
                exact ⟨some ⟨G, 0, none⟩, c, by rw [← HKj.out]; rfl, HR9, HB9.out⟩
            | zero =>
              obtain rfl : i = j := by omega
              have hlt : i < K := by
                rcases Nat.lt_or_ge i K with h | h
                · exact h
                · exfalso
                  obtain ⟨i', h1, h2⟩ := HSeen.out.mpr (by omega)
                  exact HNo.out i' h1 h2
              clear hig HNo
              go_wp2_with fail
              go_loopg [11, 14] ls.length (fun g s11 s14 wy => ∃ (k G c : Nat) (xs : List Value), k + g = ls.length ∧ s14 = .int .i64 k ∧ s11 = .slice (some ⟨G, 0, none⟩) (mJ S i ls (x1, x2) k).length c ∧ Hid (OutJ W0 F (x1, x2) (.slice (some ⟨G, 0, none⟩) (mJ S i ls (x1, x2) k).length c) (mJ S i ls (x1, x2) k).length xs (mJ S i ls (x1, x2) k) wy))
              case atStart =>
                have hm0 : mJ S i ls (x1, x2) 0 = lsJ S i := by unfold mJ; simp
                exact ⟨0, G, c, xs, by omega, rfl, by rw [hm0, lsJ_len], by rw [hm0, lsJ_len]; exact HIn⟩
              case round =>
                clear HIn
                obtain ⟨k, G, c, xs, hkg, rfl, rfl, HIn⟩ := hrel
                have HKG := Lib.hid hkg
                have hml := mJ_len S i ls (x1, x2) k
                cases gk with
                | succ g2 =>
                  have hkl : k < ls.length := by omega
                  obtain ⟨bS, oS, rfl, hbS, hcS⟩ := HS.out.form hkl
                  obtain ⟨Ai, ci, x0, hrow⟩ := hcS k hkl
                  have hlen := len_tot hkl
                  have hmn := mJ_no (S := S) (j := i) (x := (x1, x2)) hkl
                  have hmy := mJ_yes (S := S) (j := i) (x := (x1, x2)) hkl
                  have HTot2 := HTot.out
                  have HP1 := Lib.hid (fun W (hB : Below W0.heap.size W0 W) => HPl.out Ai ci (gA ls k) x1 x2 W ((hrow.below hB).more hB.size) (by omega))
                  have d1 := plc_pos (gA ls k) (x1, x2)
                  have HRw := Lib.hid hrow
                  obtain ⟨T, hT⟩ : ∃ T, gA ls k = T := ⟨_, rfl⟩
                  rw [hT] at x0 HP1 d1 hmn hmy HRw
                  obtain ⟨M, hM⟩ : ∃ M, mJ S i ls (x1, x2) k = M := ⟨_, rfl⟩
                  rw [hM] at HIn hmn hmy hml
                  rw [hM]
                  obtain ⟨li, hli⟩ : ∃ l, T.length = l := ⟨_, rfl⟩
                  have HLk := Lib.hid hli
                  obtain ⟨P1, hP1⟩ : ∃ P, plcI T (x1, x2) = P := ⟨_, rfl⟩
                  rw [hP1] at HP1 d1
                  rw [hli] at x0 HP1
                  have hbSw : bS < wr.heap.size := Nat.lt_of_lt_of_le hbS HIn.out.B.size
                  have hce := cellThru HIn.out.B hbS x0
                  have HX0 := Lib.hid (And.intro hbS x0)
                  have HMn := Lib.hid hmn
                  have HMy := Lib.hid hmy
                  have S1 : (C4 W0 ⟨bS, oS + k, none⟩ ⟨F, 0, none⟩ ⟨F, 1, none⟩ ⟨F, 1, none⟩ (.slice Ai li ci) (.int .i64 x1) (.int .i64 x2) (.int .i64 x2)) wr := ⟨HIn.out.B, hbSw, HIn.out.zF, HIn.out.zF, HIn.out.zF, hce, HIn.out.x0, HIn.out.x1, HIn.out.x1⟩
                  clear hce hrow hT hli hP1 x0 hcS hlen HTot2 hmn hmy hM
                  cases e1 : decide ((x1, x2) ∈ T)
                  · rw [e1] at d1 HMn
                    have d1' : (P1 ≥ 0) = False := eq_false (of_decide_eq_false d1)
                    have d1b : decide (0 ≤ P1) = false := d1
                    have d1c : (0 ≤ P1) = False := d1'
                    go_wp2_with fail
                    refine wp_region_held_drew (S := (C4 W0 ⟨bS, oS + k, none⟩ ⟨F, 0, none⟩ ⟨F, 1, none⟩ ⟨F, 1, none⟩ (.slice Ai li ci) (.int .i64 x1) (.int .i64 x2) (.int .i64 x2))) (by kernel_rfl) ?_ (fun hHeld => ?_)
                    · exact S1.on (Below.refl _ _).drew
                    refine wpAnyH_take (i := 0) (v := ?_) rfl (by kernel_rfl) (by kernel_rfl) (by kernel_rfl) (fun _ _ _ h => h) (Or.inl ⟨by kernel_rfl, ?_⟩) hHeld ?_
                    rotate_left
                    · intro w hSw; obtain ⟨B, z1, z2, z3, z4, x1, x2, x3, x4⟩ := hSw; first | (go_simp; done) | (go_simp; with_reducible rfl)
                    refine wpAnyH_take (i := 1) (v := ?_) rfl (by kernel_rfl) (by kernel_rfl) (by kernel_rfl) (fun _ _ _ h => h) (Or.inl ⟨by kernel_rfl, ?_⟩) hHeld ?_
                    rotate_left
                    · intro w hSw; obtain ⟨B, z1, z2, z3, z4, x1, x2, x3, x4⟩ := hSw; first | (go_simp; done) | (go_simp; with_reducible rfl)
                    refine wpAnyH_take (i := 2) (v := ?_) rfl (by kernel_rfl) (by kernel_rfl) (by kernel_rfl) (fun _ _ _ h => h) (Or.inl ⟨by kernel_rfl, ?_⟩) hHeld ?_
                    rotate_left
                    · intro w hSw; obtain ⟨B, z1, z2, z3, z4, x1, x2, x3, x4⟩ := hSw; first | (go_simp; done) | (go_simp; with_reducible rfl)
                    refine wpAnyH_take (i := 3) (v := ?_) rfl (by kernel_rfl) (by kernel_rfl) (by kernel_rfl) (fun _ _ _ h => h) (Or.inl ⟨by kernel_rfl, ?_⟩) hHeld ?_
                    rotate_left
                    · intro w hSw; obtain ⟨B, z1, z2, z3, z4, x1, x2, x3, x4⟩ := hSw; first | (go_simp; done) | (go_simp; with_reducible rfl)
                    refine wpAnyH_take (i := 4) (v := ?_) rfl (by kernel_rfl) (by kernel_rfl) (by kernel_rfl) (fun _ _ _ h => h) (Or.inl ⟨by kernel_rfl, ?_⟩) hHeld ?_
                    rotate_left
                    · intro w hSw; obtain ⟨B, z1, z2, z3, z4, x1, x2, x3, x4⟩ := hSw; first | (go_simp; done) | (go_simp; with_reducible rfl)
                    refine wpAnyH_ready (rs := [5]) (by kernel_rfl) (by simp) ?_
                    refine AllReadyH.cons rfl (fun K hK => ?_) AllReadyH.nil
                    go_simp
                    go_wp2_with fail
                    refine (HP1.out _ hHeld.B).mono ?_
                    rintro e wa ⟨rfl, hba⟩
                    have Sa := hHeld.on hba
                    refine hK.out _ _ ?_ (fun hHeld => ?_)
                    · exact Sa
                    clear hK K
                    refine wpAnyH_take (i := 6) (v := ?_) rfl (by kernel_rfl) (by kernel_rfl) (by kernel_rfl) (fun _ _ _ h => h) (Or.inl ⟨by kernel_rfl, ?_⟩) hHeld ?_
                    rotate_left
                    · intro w hSw; obtain ⟨B, z1, z2, z3, z4, x1, x2, x3, x4⟩ := hSw; first | (go_simp; done) | (go_simp; with_reducible rfl)
                    refine wpAnyH_done (by kernel_rfl) ?_ _
                    have HB9 : Below wr.heap.size wr wa := by
                      (repeat' (first | (with_reducible exact Below.refl _ _) | (with_reducible assumption) | (with_reducible refine belowNext ?_ (by with_reducible assumption)) | (with_reducible refine belowAlloc ?_ _) | (with_reducible refine Below.drew ?_) | (with_reducible refine below_drewN ?_ _) | (with_reducible refine Below.setCell ?_ ?_ _) | go_size | (with_reducible refine sizeOf' ?_) | (with_reducible refine sizeAdd ?_) | (dsimp only; first | (with_reducible refine sizeOf' ?_) | (with_reducible refine sizeAdd ?_))))
                    have HI9 := Lib.hid (HIn.out.on HB9)
                    clear hba Sa hHeld S1 HB9 HIn
                    go_wp2
                    go_roundg g2
                    case measure => omega
                    case rel => exact ⟨k + 1, G, c, xs, by have := HKG.out; omega, by go_num, by rw [HMn.out (by first | rfl | trivial)], by rw [HMn.out (by first | rfl | trivial)]; exact HI9⟩
                  · rw [e1] at d1 HMy
                    have d1' : (P1 ≥ 0) = True := eq_true (of_decide_eq_true d1)
                    have d1b : decide (0 ≤ P1) = true := d1
                    have d1c : (0 ≤ P1) = True := d1'
                    go_wp2_with fail
                    refine wp_region_held_drew (S := (C4 W0 ⟨bS, oS + k, none⟩ ⟨F, 0, none⟩ ⟨F, 1, none⟩ ⟨F, 1, none⟩ (.slice Ai li ci) (.int .i64 x1) (.int .i64 x2) (.int .i64 x2))) (by kernel_rfl) ?_ (fun hHeld => ?_)
                    · exact S1.on (Below.refl _ _).drew
                    refine wpAnyH_take (i := 0) (v := ?_) rfl (by kernel_rfl) (by kernel_rfl) (by kernel_rfl) (fun _ _ _ h => h) (Or.inl ⟨by kernel_rfl, ?_⟩) hHeld ?_
                    rotate_left
                    · intro w hSw; obtain ⟨B, z1, z2, z3, z4, x1, x2, x3, x4⟩ := hSw; first | (go_simp; done) | (go_simp; with_reducible rfl)
                    refine wpAnyH_take (i := 1) (v := ?_) rfl (by kernel_rfl) (by kernel_rfl) (by kernel_rfl) (fun _ _ _ h => h) (Or.inl ⟨by kernel_rfl, ?_⟩) hHeld ?_
                    rotate_left
                    · intro w hSw; obtain ⟨B, z1, z2, z3, z4, x1, x2, x3, x4⟩ := hSw; first | (go_simp; done) | (go_simp; with_reducible rfl)
                    refine wpAnyH_take (i := 2) (v := ?_) rfl (by kernel_rfl) (by kernel_rfl) (by kernel_rfl) (fun _ _ _ h => h) (Or.inl ⟨by kernel_rfl, ?_⟩) hHeld ?_
                    rotate_left
                    · intro w hSw; obtain ⟨B, z1, z2, z3, z4, x1, x2, x3, x4⟩ := hSw; first | (go_simp; done) | (go_simp; with_reducible rfl)
                    refine wpAnyH_take (i := 3) (v := ?_) rfl (by kernel_rfl) (by kernel_rfl) (by kernel_rfl) (fun _ _ _ h => h) (Or.inl ⟨by kernel_rfl, ?_⟩) hHeld ?_
                    rotate_left
                    · intro w hSw; obtain ⟨B, z1, z2, z3, z4, x1, x2, x3, x4⟩ := hSw; first | (go_simp; done) | (go_simp; with_reducible rfl)
                    refine wpAnyH_take (i := 4) (v := ?_) rfl (by kernel_rfl) (by kernel_rfl) (by kernel_rfl) (fun _ _ _ h => h) (Or.inl ⟨by kernel_rfl, ?_⟩) hHeld ?_
                    rotate_left
                    · intro w hSw; obtain ⟨B, z1, z2, z3, z4, x1, x2, x3, x4⟩ := hSw; first | (go_simp; done) | (go_simp; with_reducible rfl)
                    refine wpAnyH_ready (rs := [5]) (by kernel_rfl) (by simp) ?_
                    refine AllReadyH.cons rfl (fun K hK => ?_) AllReadyH.nil
                    go_simp
                    go_wp2_with fail
                    refine (HP1.out _ hHeld.B).mono ?_
                    rintro e wa ⟨rfl, hba⟩
                    have Sa := hHeld.on hba
                    refine hK.out _ _ ?_ (fun hHeld => ?_)
                    · exact Sa
                    clear hK K
                    refine wpAnyH_take (i := 6) (v := ?_) rfl (by kernel_rfl) (by kernel_rfl) (by kernel_rfl) (fun _ _ _ h => h) (Or.inl ⟨by kernel_rfl, ?_⟩) hHeld ?_
                    rotate_left
                    · intro w hSw; obtain ⟨B, z1, z2, z3, z4, x1, x2, x3, x4⟩ := hSw; first | (go_simp; done) | (go_simp; with_reducible rfl)
                    refine wpAnyH_done (by kernel_rfl) ?_ _
                    have HB9 : Below wr.heap.size wr wa := by
                      (repeat' (first | (with_reducible exact Below.refl _ _) | (with_reducible assumption) | (with_reducible refine belowNext ?_ (by with_reducible assumption)) | (with_reducible refine belowAlloc ?_ _) | (with_reducible refine Below.drew ?_) | (with_reducible refine below_drewN ?_ _) | (with_reducible refine Below.setCell ?_ ?_ _) | go_size | (with_reducible refine sizeOf' ?_) | (with_reducible refine sizeAdd ?_) | (dsimp only; first | (with_reducible refine sizeOf' ?_) | (with_reducible refine sizeAdd ?_))))
                    have HI9 := Lib.hid (HIn.out.on HB9)
                    clear hba Sa hHeld S1 HB9 HIn
                    have x5 : wa.cell? ⟨bS, oS + k, none⟩ = some (.slice Ai li ci) := cellThru HI9.out.B HX0.out.1 HX0.out.2
                    have zz : bS < wa.heap.size := Nat.lt_of_lt_of_le HX0.out.1 HI9.out.B.size
                    have hW9 : W0.heap.size ≤ wa.heap.size := HI9.out.B.size
                    have HRest : Hid (wa.ownsRow W0.heap.size 73 1 (.slice (some ⟨G, 0, none⟩) M.length c) M.length xs) := Lib.hid HI9.out.own
                    go_wp2_with (at_builtin; refine wpList_append_own_at _ rfl _ _ 43 rfl W0.heap.size 73 i0 (.slice none 0 0) 1 24 Try.underlying43 hi hz0 hz1 hz2 rfl (by decide) (.slice (some ⟨G, 0, none⟩) M.length c) M.length xs rfl (World.ownsRow.alloc HRest.out _) ⟨_, 0, none⟩ 1 1 [.slice Ai li ci] rfl rfl (cell_one_new _ _ _) ?c2 ?c3 ?c4 ?c5 ?_)
                    case c2 => first | rfl | (intro u hu; simp at hu; subst hu; rfl)
                    case c3 => unfold maxLen; omega
                    case c4 => omega
                    case c5 => first | omega | (simp; omega)
                    intro v2 w8 hown' hgrow _ hat
                    obtain ⟨gn, capn, rfl⟩ := ownSuccK hown'
                    have hv : (Value.slice (some ⟨gn, 0, none⟩) (M.length + 1) capn).ownBlock = (Value.slice (some ⟨G, 0, none⟩) M.length c).ownBlock ∨ ∃ b, (Value.slice (some ⟨gn, 0, none⟩) (M.length + 1) capn).ownBlock = some b ∧ (wa.alloc (.cells #[.slice Ai li ci] 73)).heap.size ≤ b := hat.imp id (fun h => ⟨wa.heap.size + 1, h, by simp⟩)
                    have HP : Hid (OutJ W0 F (x1, x2) (.slice (some ⟨gn, 0, none⟩) (M.length + 1) capn) (M.length + 1) (xs ++ [.slice Ai T.length ci]) (M ++ [T]) w8) := Lib.hid (OutJ.put (HI9.out.on (belowAlloc (Below.refl _ _) (.cells #[.slice Ai li ci] 73))) HRw.out (by rw [HLk.out]; exact hown') hgrow hv)
                    clear hown' hgrow hat hv HI9 HRest x5 zz
                    go_wp2
                    go_roundg g2
                    case measure => omega
                    case rel => exact ⟨k + 1, gn, capn, xs ++ [.slice Ai T.length ci], by have := HKG.out; omega, by go_num, by rw [HMy.out (by first | rfl | trivial), List.length_append]; rfl, by rw [HMy.out (by first | rfl | trivial), List.length_append]; exact HP⟩
                | zero =>
                  obtain rfl : k = ls.length := by omega
                  have hend : mJ S i ls (x1, x2) ls.length = lsJ S (i + 1) := by
                    obtain ⟨T, h1, h2⟩ := HPart.out.cls HEj.out
                    unfold mJ
                    rw [List.take_length, h1, lsJ_next, h2.uniq HCj.out]
                  rw [hend, lsJ_len] at HIn ⊢
                  have hx0 := HIn.out.x0
                  have hx1 := HIn.out.x1
                  have hzF := HIn.out.zF
                  clear hend hkg hml
                  go_wp2_with fail
                  refine (HDj.out _).mono ?_
                  rintro e w9 ⟨rfl, hb9⟩
                  have HI9 := HIn.out.on hb9
                  have f0 := HI9.f0
                  have f1 := HI9.f1
                  have x0 := HI9.x0
                  have x1' := HI9.x1
                  have zF := HI9.zF
                  have HN9 := Lib.hid (HI9.box (orb a (i + 1)))
                  clear hb9 HIn hx0 hx1 hzF HI9
                  go_wp2
                  obtain ⟨g3, rfl⟩ : ∃ g3, gK = g3 + 1 := ⟨gK - 1, by have := HJG.out; omega⟩
                  go_roundg g3
                  case measure => omega
                  case rel => exact ⟨i + 1, G, c, xs, by have := HJG.out; omega, rfl, HN9⟩
end Go.Proofs.Ytdmppdfncbljoaa

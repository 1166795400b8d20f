/-
  The joins of two orbits as leaves; what the walk of joinedSets holds.
  PortraitOf told plainly: its sets and its code; how many angles its sets have.
  Contracts: impl.joinedSets.
  Lists of lists of angles as an answer: marked, looked at again. No two rows share a block.
-/
import Derived.Test.YtdmppdfncbljoaaJA
import Derived.Test.YtdmppdfncbljoaaKB
import Derived.Test.YtdmppdfncbljoaaVX
import Derived.Test.YtdmppdfncbljoaaKE
import Derived.Test.YtdmppdfncbljoaaExp
import Derived.Deep.LoopGhost
import Derived.Test.YtdmppdfncbljoaaKA
namespace Go.Proofs.Ytdmppdfncbljoaa
open Go.RowKit

theorem redAng {p : Int × Int} (h : Red p) : isAng p.1 p.2 = true := by
  unfold isAng
  exact decide_eq_true h
/-- The leaf between two angles. -/
def lfP (p q : Int × Int) : Lf4 := (lfA p.1 p.2 q.1 q.2, lfB p.1 p.2 q.1 q.2, lfC p.1 p.2 q.1 q.2, lfD p.1 p.2 q.1 q.2)
theorem lfP_or (p q : Int × Int) : pJ (lfP p q) = (p, q) ∨ pJ (lfP p q) = (q, p) := by
  show ((lfA p.1 p.2 q.1 q.2, lfB p.1 p.2 q.1 q.2), (lfC p.1 p.2 q.1 q.2, lfD p.1 p.2 q.1 q.2)) = (p, q) ∨ ((lfA p.1 p.2 q.1 q.2, lfB p.1 p.2 q.1 q.2), (lfC p.1 p.2 q.1 q.2, lfD p.1 p.2 q.1 q.2)) = (q, p)
  cases h : ltA p.1 p.2 q.1 q.2
  · obtain ⟨a, b, c, d⟩ := lf_no h
    exact .inr (by rw [a, b, c, d])
  · obtain ⟨a, b, c, d⟩ := lf_yes h
    exact .inl (by rw [a, b, c, d])
/-- The leaves that join the angles of two orbits. -/
def lfJ (a b : Int × Int) (k : Nat) : List Lf4 := (List.range k).map fun i => lfP (orb a i) (orb b i)
theorem lfJ_next (a b : Int × Int) (k : Nat) : lfJ a b (k + 1) = lfJ a b k ++ [lfP (orb a k) (orb b k)] := by
  unfold lfJ
  rw [List.range_succ, List.map_append]
  rfl
theorem lfJ_len (a b : Int × Int) (k : Nat) : (lfJ a b k).length = k := by simp [lfJ]
theorem itJ_orb (p : Int × Int) : ∀ k, itJ dbl k p = orb p k
  | 0 => rfl
  | k + 1 => by
    show dbl (itJ dbl k p) = dbl (orb p k)
    rw [itJ_orb p k]
theorem lfJ_mem {a b : Int × Int} {n : Nat} {x : Lf4} : x ∈ lfJ a b n ↔ ∃ i, i < n ∧ x = lfP (orb a i) (orb b i) := by
  unfold lfJ
  simp only [List.mem_map, List.mem_range]
  exact ⟨fun ⟨i, hi, e⟩ => ⟨i, hi, e.symm⟩, fun ⟨i, hi, e⟩ => ⟨i, hi, e.symm⟩⟩
theorem lfJ_ang {a b : Int × Int} (ha : Red a) (hb : Red b) (n : Nat) : angsL (lfJ a b n) := by
  intro q hq
  obtain ⟨i, hi, rfl⟩ := lfJ_mem.mp hq
  have h1 := redAng (orb_red ha i)
  have h2 := redAng (orb_red hb i)
  show isAng (pJ (lfP (orb a i) (orb b i))).1.1 (pJ (lfP (orb a i) (orb b i))).1.2 = true ∧ isAng (pJ (lfP (orb a i) (orb b i))).2.1 (pJ (lfP (orb a i) (orb b i))).2.2 = true
  rcases lfP_or (orb a i) (orb b i) with e | e
  · rw [e]; exact ⟨h1, h2⟩
  · rw [e]; exact ⟨h2, h1⟩
theorem lfJ_led {a b : Int × Int} {n : Nat} (ha : Red a) (hb : Red b) (hn : 0 < n) (ea : orb a n = a) (eb : orb b n = b) : LedJ ((lfJ a b n).map pJ) dbl n := by
  refine led_pairs (a := a) (b := b) hn ?_ ?_ ?_ ?_ ?_ ?_
  · rw [itJ_orb]; exact ea
  · rw [itJ_orb]; exact eb
  · intro i _; rw [itJ_orb]; exact redAng (orb_red ha i)
  · intro i _; rw [itJ_orb]; exact redAng (orb_red hb i)
  · intro x y m
    obtain ⟨q, hq, e⟩ := List.mem_map.mp m
    obtain ⟨i, hi, rfl⟩ := lfJ_mem.mp hq
    rcases lfP_or (orb a i) (orb b i) with h | h
    · rw [h] at e
      injection e with e1 e2
      exact .inl (pairJ_mem.mpr ⟨i, hi, by rw [itJ_orb, itJ_orb, e1, e2]⟩)
    · rw [h] at e
      injection e with e1 e2
      exact .inr (pairJ_mem.mpr ⟨i, hi, by rw [itJ_orb, itJ_orb, e1, e2]⟩)
  · intro i hi
    rw [itJ_orb, itJ_orb]
    have hm := List.mem_map_of_mem (f := pJ) (lfJ_mem.mpr ⟨i, hi, rfl⟩ : lfP (orb a i) (orb b i) ∈ lfJ a b n)
    rcases lfP_or (orb a i) (orb b i) with h | h
    · rw [h] at hm; exact .inl hm
    · rw [h] at hm; exact .inr hm
theorem lfJ_start {a b : Int × Int} {n : Nat} (hn : 0 < n) : a ∈ endsJ ((lfJ a b n).map pJ) := by
  have hm := List.mem_map_of_mem (f := pJ) (lfJ_mem.mpr ⟨0, hn, rfl⟩ : lfP (orb a 0) (orb b 0) ∈ lfJ a b n)
  rcases lfP_or (orb a 0) (orb b 0) with h | h
  · rw [h] at hm; exact endsJ_mem.mpr ⟨_, hm, .inl rfl⟩
  · rw [h] at hm; exact endsJ_mem.mpr ⟨_, hm, .inr rfl⟩

/-- The keys gathered out of the map so far: those that are led to v. -/
structure GathJ (C : List (Int × Int)) (f : Int × Int → Int × Int) (v : Int × Int) (left : Lit → Bool) (O : List (Int × Int)) : Prop where
  sub : ∀ x ∈ O, x ∈ C ∧ f x = v
  all : ∀ x ∈ C, left (kl x) = false → f x = v → x ∈ O
theorem GathJ.start {C : List (Int × Int)} {f : Int × Int → Int × Int} {v : Int × Int} {left : Lit → Bool} (h : ∀ x ∈ C, left (kl x) = true) : GathJ C f v left [] :=
  ⟨by simp, fun x hx hf => by rw [h x hx] at hf; cases hf⟩
theorem left_falseJ {left : Lit → Bool} {k : Lit} {p : Int × Int} (h : (left k && !k.sameKey (kl p)) = false) : left k = false ∨ k = kl p := by
  cases hl : left k
  · exact .inl rfl
  · rw [hl] at h
    exact .inr ((WideAt.sameKey_iff (kl_key _)).1 (by simpa using h))
theorem GathJ.no {C : List (Int × Int)} {f : Int × Int → Int × Int} {v : Int × Int} {left : Lit → Bool} {O : List (Int × Int)} (H : GathJ C f v left O) (hC : ∀ q ∈ C, isAng q.1 q.2 = true) {x : Int × Int} (hx : x ∈ C) (e : ¬ f x = v) :
    GathJ C f v (fun z => left z && !z.sameKey (kl x)) O := by
  refine ⟨H.sub, fun y hy hl hv => ?_⟩
  rcases left_falseJ hl with h | h
  · exact H.all y hy h hv
  · rw [kl_injS (isAng_yes (hC y hy)) (isAng_yes (hC x hx)) h] at hv
    exact absurd hv e
theorem GathJ.yes {C : List (Int × Int)} {f : Int × Int → Int × Int} {v : Int × Int} {left : Lit → Bool} {O : List (Int × Int)} (H : GathJ C f v left O) (hC : ∀ q ∈ C, isAng q.1 q.2 = true) {x : Int × Int} (hx : x ∈ C) (e : f x = v) :
    GathJ C f v (fun z => left z && !z.sameKey (kl x)) (O ++ [x]) := by
  refine ⟨fun y hy => ?_, fun y hy hl hv => ?_⟩
  · rcases List.mem_append.mp hy with h | h
    · exact H.sub y h
    · rw [List.mem_singleton.mp h]; exact ⟨hx, e⟩
  · rcases left_falseJ hl with h | h
    · exact List.mem_append.mpr (.inl (H.all y hy h hv))
    · rw [kl_injS (isAng_yes (hC y hy)) (isAng_yes (hC x hx)) h]
      exact List.mem_append.mpr (.inr (List.mem_singleton.mpr rfl))
theorem GathJ.done {C : List (Int × Int)} {f : Int × Int → Int × Int} {v : Int × Int} {left : Lit → Bool} {O : List (Int × Int)} (H : GathJ C f v left O) (h : ∀ k, left k = false) (y : Int × Int) : y ∈ O ↔ y ∈ C ∧ f y = v :=
  ⟨H.sub y, fun ⟨h1, h2⟩ => H.all y h1 (h _) h2⟩

theorem two_cellsJ {W : World} {b : Nat} {u0 u1 v0 v1 : Value} (h0 : W.cell? ⟨b, 0, none⟩ = some v0) (h1 : W.cell? ⟨b, 1, none⟩ = some v1) :
    ((W.setCell ⟨b, 0, none⟩ u0).setCell ⟨b, 1, none⟩ u1).cell? ⟨b, 0, none⟩ = some u0 ∧ ((W.setCell ⟨b, 0, none⟩ u0).setCell ⟨b, 1, none⟩ u1).cell? ⟨b, 1, none⟩ = some u1 := by
  constructor
  · rw [World.cell?_setCell_other _ _ _ _ (by simp)]
    exact World.cell?_setCell_same _ _ _ h0
  · have h1' : (W.setCell ⟨b, 0, none⟩ u0).cell? ⟨b, 1, none⟩ = some v1 := by rw [World.cell?_setCell_other _ _ _ _ (by simp)]; exact h1
    exact World.cell?_setCell_same _ _ _ h1'
/-- What the first loop holds: the box of a, the two boxes that are doubled, the leaves. -/
structure JoS (w : World) (F G : Nat) (a x y : Int × Int) (v : Value) (n : Nat) (xs : List Value) (W : World) : Prop where
  B : Below w.heap.size w W
  lF : w.heap.size < F
  lG : w.heap.size < G
  uF : F < w.heap.size + 4
  uG : G < w.heap.size + 4
  z : w.heap.size + 4 ≤ W.heap.size
  ne : F ≠ G
  a0 : W.cell? ⟨w.heap.size, 0, none⟩ = some (.int .i64 a.1)
  a1 : W.cell? ⟨w.heap.size, 1, none⟩ = some (.int .i64 a.2)
  x0 : W.cell? ⟨F, 0, none⟩ = some (.int .i64 x.1)
  x1 : W.cell? ⟨F, 1, none⟩ = some (.int .i64 x.2)
  y0 : W.cell? ⟨G, 0, none⟩ = some (.int .i64 y.1)
  y1 : W.cell? ⟨G, 1, none⟩ = some (.int .i64 y.2)
  f0 : W.frozen? ⟨F, 0, none⟩ = false
  f1 : W.frozen? ⟨F, 1, none⟩ = false
  g0 : W.frozen? ⟨G, 0, none⟩ = false
  g1 : W.frozen? ⟨G, 1, none⟩ = false
  own : W.ownsRow (w.heap.size + 4) 31 4 v n xs
theorem JoS.on {w W W1 : World} {F G : Nat} {a x y : Int × Int} {v : Value} {n : Nat} {xs : List Value} (H : JoS w F G a x y v n xs W) (hb : Below W.heap.size W W1) : JoS w F G a x y v n xs W1 := by
  have hs := hb.size
  have h1 := H.uF; have h2 := H.uG; have h3 := H.z; have h4 := H.lF
  exact ⟨belowNext H.B hb, H.lF, H.lG, h1, h2, by omega, H.ne, cellThru hb (by omega) H.a0, cellThru hb (by omega) H.a1, cellThru hb (by omega) H.x0, cellThru hb (by omega) H.x1, cellThru hb (by omega) H.y0, cellThru hb (by omega) H.y1, frozThru hb (by omega) H.f0, frozThru hb (by omega) H.f1, frozThru hb (by omega) H.g0, frozThru hb (by omega) H.g1, ownKeepA H.own hb⟩
theorem JoS.drew {w W : World} {F G : Nat} {a x y : Int × Int} {v : Value} {n : Nat} {xs : List Value} (H : JoS w F G a x y v n xs W) : JoS w F G a x y v n xs W.drew :=
  ⟨H.B.drew, H.lF, H.lG, H.uF, H.uG, H.z, H.ne, H.a0, H.a1, H.x0, H.x1, H.y0, H.y1, H.f0, H.f1, H.g0, H.g1, H.own⟩
theorem JoS.putF {w W : World} {F G : Nat} {a x y : Int × Int} {v : Value} {n : Nat} {xs : List Value} (H : JoS w F G a x y v n xs W) (q : Int × Int) : JoS w F G a q y v n xs ((W.setCell ⟨F, 0, none⟩ (.int .i64 q.1)).setCell ⟨F, 1, none⟩ (.int .i64 q.2)) := by
  obtain ⟨c0, c1⟩ := two_cellsJ (u0 := .int .i64 q.1) (u1 := .int .i64 q.2) H.x0 H.x1
  have hne := H.ne
  have h1 := H.lF; have h2 := H.uF; have hz := H.z
  have oth : ∀ (B o : Nat) (u : Value), B ≠ F → W.cell? ⟨B, o, none⟩ = some u → ((W.setCell ⟨F, 0, none⟩ (.int .i64 q.1)).setCell ⟨F, 1, none⟩ (.int .i64 q.2)).cell? ⟨B, o, none⟩ = some u := fun B o u h hc => by
    rw [World.cell?_setCell_other _ _ _ _ (by intro e; injection e; omega), World.cell?_setCell_other _ _ _ _ (by intro e; injection e; omega)]
    exact hc
  exact ⟨(H.B.setCell (by show w.heap.size ≤ F; omega) _).setCell (by show w.heap.size ≤ F; omega) _, H.lF, H.lG, H.uF, H.uG, by simpa using hz, hne, oth _ _ _ (by omega) H.a0, oth _ _ _ (by omega) H.a1, c0, c1, oth _ _ _ (fun e => hne e.symm) H.y0, oth _ _ _ (fun e => hne e.symm) H.y1, by simpa using H.f0, by simpa using H.f1, by simpa using H.g0, by simpa using H.g1, ownsRow_setCell_below (ownsRow_setCell_below H.own (a := ⟨F, 0, none⟩) (by show F < w.heap.size + 4; omega) _) (a := ⟨F, 1, none⟩) (by show F < w.heap.size + 4; omega) _⟩
theorem JoS.putG {w W : World} {F G : Nat} {a x y : Int × Int} {v : Value} {n : Nat} {xs : List Value} (H : JoS w F G a x y v n xs W) (q : Int × Int) : JoS w F G a x q v n xs ((W.setCell ⟨G, 0, none⟩ (.int .i64 q.1)).setCell ⟨G, 1, none⟩ (.int .i64 q.2)) := by
  obtain ⟨c0, c1⟩ := two_cellsJ (u0 := .int .i64 q.1) (u1 := .int .i64 q.2) H.y0 H.y1
  have hne := H.ne
  have h1 := H.lG; have h2 := H.uG; have hz := H.z
  have oth : ∀ (B o : Nat) (u : Value), B ≠ G → W.cell? ⟨B, o, none⟩ = some u → ((W.setCell ⟨G, 0, none⟩ (.int .i64 q.1)).setCell ⟨G, 1, none⟩ (.int .i64 q.2)).cell? ⟨B, o, none⟩ = some u := fun B o u h hc => by
    rw [World.cell?_setCell_other _ _ _ _ (by intro e; injection e; omega), World.cell?_setCell_other _ _ _ _ (by intro e; injection e; omega)]
    exact hc
  exact ⟨(H.B.setCell (by show w.heap.size ≤ G; omega) _).setCell (by show w.heap.size ≤ G; omega) _, H.lF, H.lG, H.uF, H.uG, by simpa using hz, hne, oth _ _ _ (by omega) H.a0, oth _ _ _ (by omega) H.a1, oth _ _ _ hne H.x0, oth _ _ _ hne H.x1, c0, c1, by simpa using H.f0, by simpa using H.f1, by simpa using H.g0, by simpa using H.g1, ownsRow_setCell_below (ownsRow_setCell_below H.own (a := ⟨G, 0, none⟩) (by show G < w.heap.size + 4; omega) _) (a := ⟨G, 1, none⟩) (by show G < w.heap.size + 4; omega) _⟩
/-- .. behind an append. -/
theorem JoS.push {w W W2 : World} {F G : Nat} {a x y : Int × Int} {v v' : Value} {n n' : Nat} {xs xs' : List Value} (H : JoS w F G a x y v n xs W) (hg : W.grownBy W2 v.ownBlock) (hown : W2.ownsRow (w.heap.size + 4) 31 4 v' n' xs') : JoS w F G a x y v' n' xs' W2 := by
  have h1 := H.uF; have h2 := H.uG; have h3 := H.z; have h4 := H.lF
  have hs := hg.size
  have hne : ∀ b, b < w.heap.size + 4 → some b ≠ v.ownBlock := fun b hb e => by have := own_blockL H.own b e.symm; omega
  have hc : ∀ (b o : Nat) (u : Value), b < w.heap.size + 4 → W.cell? ⟨b, o, none⟩ = some u → W2.cell? ⟨b, o, none⟩ = some u := fun b o u hb h => cellGS hg (by omega) (hne b hb) h
  have hf : ∀ (b o : Nat), b < w.heap.size + 4 → W.frozen? ⟨b, o, none⟩ = false → W2.frozen? ⟨b, o, none⟩ = false := fun b o hb h => (World.frozen?_of_block (a := ⟨b, o, none⟩) (hg.block b (by omega) (hne b hb))).trans h
  exact ⟨H.B.grown hg H.B.size (fun j hj => by have := own_blockL H.own j hj; omega), H.lF, H.lG, h1, h2, by omega, H.ne, hc _ _ _ (by omega) H.a0, hc _ _ _ (by omega) H.a1, hc _ _ _ h1 H.x0, hc _ _ _ h1 H.x1, hc _ _ _ h2 H.y0, hc _ _ _ h2 H.y1, hf _ _ h1 H.f0, hf _ _ h1 H.f1, hf _ _ h2 H.g0, hf _ _ h2 H.g1, hown⟩

/-- What the last loop holds. -/
structure SetS (w : World) (S : List (Int × Int)) (j : Nat) (A0 AN : Option Addr) (v : Value) (xs : List Value) (W : World) : Prop where
  B : Below w.heap.size w W
  sets : SetsAt W w.heap.size v ((List.range (j + 1)).map (tJ dbl S)) xs
  fst : InnerS W w.heap.size v.ownBlock A0 S
  nxt : InnerS W w.heap.size v.ownBlock AN (tJ dbl S (j + 1))
  dis : ∃ hi, DisX hi xs ∧ ∀ n c b, (Value.slice AN n c).ownBlock = some b → hi ≤ b
theorem SetS.on {w W W1 : World} {S : List (Int × Int)} {j : Nat} {A0 AN : Option Addr} {v : Value} {xs : List Value} (H : SetS w S j A0 AN v xs W) (hb : Below W.heap.size W W1) : SetS w S j A0 AN v xs W1 :=
  ⟨belowNext H.B hb, H.sets.next hb, H.fst.next hb, H.nxt.next hb, H.dis⟩
theorem tJ_le (S : List (Int × Int)) : ∀ k, (tJ dbl S k).length ≤ S.length
  | 0 => Nat.le_refl _
  | k + 1 => by
    have h := insAll_len ((tJ dbl S k).map dbl)
    rw [List.length_map] at h
    exact Nat.le_trans h (tJ_le S k)

theorem find_back {a : Int × Int} {n : Nat} (hf : findOrb a 65 0 = some n) (h0 : pre a = 0) : orb a n = a ∧ 0 < n ∧ n ≤ 64 := by
  have h := find_le _ _ _ hf
  have h1 := (hit_iff a n).1 h.2.2.1
  rw [h0] at h1
  exact ⟨h1.2, h1.1, by omega⟩
/-- Before the period nothing comes again. -/
theorem find_apart {a : Int × Int} {n : Nat} (hf : findOrb a 65 0 = some n) (h0 : pre a = 0) {i j : Nat} (hij : i < j) (hj : j < n) : orb a i ≠ orb a j := by
  intro e
  obtain ⟨hb, hp, _⟩ := find_back hf h0
  have h := (find_le _ _ _ hf).2.2.2 (n - j + i) (by omega) (by omega)
  have e2 : orb a (n - j + i) = a := by
    have e3 : ∀ k, itJ dbl k (orb a i) = itJ dbl k (orb a j) := fun k => by rw [e]
    have e4 := e3 (n - j)
    rw [← itJ_orb, ← itJ_orb, ← itJ_add, ← itJ_add, itJ_orb, itJ_orb, show n - j + j = n by omega, hb] at e4
    exact e4
  rw [Bool.eq_false_iff] at h
  refine h ((hit_iff _ _).2 ⟨by omega, ?_⟩)
  rw [h0, e2]
  rfl
theorem orb_mod {a : Int × Int} {n : Nat} (h : orb a n = a) (j : Nat) : orb a j = orb a (j % n) := by
  have := orb_per (p := a) (P := 0) (c := n) (by rw [Nat.zero_add]; exact h) j
  rw [Nat.zero_add, Nat.zero_add] at this
  exact this

theorem len_sub : ∀ {l m : List (Int × Int)}, l.Nodup → (∀ x ∈ l, x ∈ m) → l.length ≤ m.length
  | [], _, _, _ => Nat.zero_le _
  | x :: l, m, hn, hs => by
    have hx := hs x (List.mem_cons_self ..)
    have h1 := List.length_erase_of_mem hx
    have h2 : 0 < m.length := List.length_pos_of_mem hx
    have h3 := len_sub (l := l) (m := m.erase x) (List.nodup_cons.mp hn).2 (fun y hy => (List.mem_erase_of_ne (fun e => (List.nodup_cons.mp hn).1 (by rw [← e]; exact hy))).mpr (hs y (List.mem_cons_of_mem _ hy)))
    simp only [List.length_cons]
    omega
theorem totL_flat : ∀ ls : List (List (Int × Int)), totL ls = ls.flatten.length
  | [] => rfl
  | l :: ls => by rw [List.flatten_cons, List.length_append, ← totL_flat ls]; rfl
theorem totL_each {c : Nat} : ∀ {ls : List (List (Int × Int))}, (∀ l ∈ ls, l.length ≤ c) → totL ls ≤ ls.length * c
  | [], _ => by simp [totL]
  | l :: ls, h => by
    have h1 := h l (List.mem_cons_self ..)
    have h2 := totL_each (ls := ls) (fun m hm => h m (List.mem_cons_of_mem _ hm))
    simp only [totL, List.length_cons, Nat.succ_mul]
    omega

/-- Two angles of one period. -/
structure TwoJ (a b : Int × Int) (n : Nat) : Prop where
  ra : Red a
  rb : Red b
  fa : findOrb a 65 0 = some n
  fb : findOrb b 65 0 = some n
  pa : pre a = 0
  pb : pre b = 0
theorem TwoJ.led {a b : Int × Int} {n : Nat} (H : TwoJ a b n) : LedJ (pairJ dbl a b n) dbl n := by
  obtain ⟨ea, hn, _⟩ := find_back H.fa H.pa
  obtain ⟨eb, _, _⟩ := find_back H.fb H.pb
  refine led_pairs (a := a) (b := b) hn ?_ ?_ ?_ ?_ (fun x y m => .inl m) (fun i hi => .inl (pairJ_mem.mpr ⟨i, hi, rfl⟩))
  · rw [itJ_orb]; exact ea
  · rw [itJ_orb]; exact eb
  · intro i _; rw [itJ_orb]; exact redAng (orb_red H.ra i)
  · intro i _; rw [itJ_orb]; exact redAng (orb_red H.rb i)
theorem TwoJ.start {a b : Int × Int} {n : Nat} (H : TwoJ a b n) : a ∈ endsJ (pairJ dbl a b n) := by
  obtain ⟨_, hn, _⟩ := find_back H.fa H.pa
  exact endsJ_mem.mpr ⟨_, pairJ_mem.mpr ⟨0, hn, rfl⟩, .inl rfl⟩
/-- The joins as leaves tie the same. -/
theorem tied_lf {a b : Int × Int} {n : Nat} {x y : Int × Int} : Tied ((lfJ a b n).map pJ) x y ↔ Tied (pairJ dbl a b n) x y := by
  constructor
  · refine fun t => tied_to (fun x y m => ?_) t
    obtain ⟨q, hq, e⟩ := List.mem_map.mp m
    obtain ⟨i, hi, rfl⟩ := lfJ_mem.mp hq
    have hm : (orb a i, orb b i) ∈ pairJ dbl a b n := pairJ_mem.mpr ⟨i, hi, by rw [itJ_orb, itJ_orb]⟩
    rcases lfP_or (orb a i) (orb b i) with h | h
    · rw [h] at e
      injection e with e1 e2
      subst e1; subst e2
      exact .mem hm
    · rw [h] at e
      injection e with e1 e2
      subst e1; subst e2
      exact .symm (.mem hm)
  · refine fun t => tied_to (fun x y m => ?_) t
    obtain ⟨i, hi, e⟩ := pairJ_mem.mp m
    rw [itJ_orb, itJ_orb] at e
    injection e with e1 e2
    subst e1; subst e2
    have hm := List.mem_map_of_mem (f := pJ) (lfJ_mem.mpr ⟨i, hi, rfl⟩ : lfP (orb a i) (orb b i) ∈ lfJ a b n)
    rcases lfP_or (orb a i) (orb b i) with h | h
    · rw [h] at hm; exact .mem hm
    · rw [h] at hm; exact .symm (.mem hm)
theorem cls_lf {a b : Int × Int} {n : Nat} {x : Int × Int} {S : List (Int × Int)} (h : ClsJ ((lfJ a b n).map pJ) x S) : ClsJ (pairJ dbl a b n) x S :=
  ⟨fun y => (h.mem y).trans tied_lf, h.asc, h.ang⟩
theorem stop_one {D : Int × Int → Int × Int} {S : List (Int × Int)} {k j : Nat} (h : StopJ D S k) (g : StopJ D S j) : k = j := by
  rcases Nat.lt_trichotomy k j with e | e | e
  · exact absurd h.end_ (g.none k h.pos e)
  · exact e
  · exact absurd g.end_ (h.none j g.pos e)

/-- The sets of the portrait. -/
def lsJ (S : List (Int × Int)) (k : Nat) : List (List (Int × Int)) := (List.range k).map (tJ dbl S)
theorem lsJ_len (S : List (Int × Int)) (k : Nat) : (lsJ S k).length = k := by simp [lsJ]
theorem lsJ_at {S : List (Int × Int)} {k i : Nat} (h : i < k) : gA (lsJ S k) i = tJ dbl S i := by
  have h1 := gA_some (ls := lsJ S k) (i := i) (by rw [lsJ_len]; exact h)
  unfold lsJ at h1
  rw [List.getElem?_map, List.getElem?_range h] at h1
  exact (Option.some.inj h1).symm
theorem lsJ_mem {S : List (Int × Int)} {k : Nat} {l : List (Int × Int)} : l ∈ lsJ S k ↔ ∃ i, i < k ∧ l = tJ dbl S i := by
  unfold lsJ
  simp only [List.mem_map, List.mem_range]
  exact ⟨fun ⟨i, hi, e⟩ => ⟨i, hi, e.symm⟩, fun ⟨i, hi, e⟩ => ⟨i, hi, e.symm⟩⟩
theorem TwoJ.flat_nodup {a b : Int × Int} {n : Nat} (H : TwoJ a b n) {S : List (Int × Int)} (hc : ClsJ (pairJ dbl a b n) a S) {k : Nat} (hs : StopJ dbl S k) : (lsJ S k).flatten.Nodup := by
  have hL := H.led
  have hst := H.start
  unfold List.Nodup
  rw [List.pairwise_flatten]
  constructor
  · intro l hl
    obtain ⟨i, _, rfl⟩ := lsJ_mem.mp hl
    exact asc_nodup (hL.tCls hst hc i).asc
  · unfold lsJ
    rw [List.pairwise_map]
    refine List.Pairwise.imp_of_mem ?_ List.pairwise_lt_range
    intro i j hi hj hij x hx y hy e
    subst e
    have t1 := ((hL.tCls hst hc i).mem x).mp hx
    have t2 := ((hL.tCls hst hc j).mem x).mp hy
    have hm : itJ dbl j a ∈ tJ dbl S i := ((hL.tCls hst hc i).mem _).mpr (.trans t1 (.symm t2))
    exact hs.none (j - i) (by omega) (by have := List.mem_range.mp hj; omega) (hL.seenFirst hst hc hij hm)
/-- At most twelve sets have at most 64 angles. -/
theorem TwoJ.total {a b : Int × Int} {n : Nat} (H : TwoJ a b n) {S : List (Int × Int)} (hc : ClsJ (pairJ dbl a b n) a S) {k : Nat} (hs : StopJ dbl S k) (hk : k ≤ 12) : totL (lsJ S k) ≤ 64 := by
  have hL := H.led
  have hst := H.start
  obtain ⟨ea, hn, hn64⟩ := find_back H.fa H.pa
  obtain ⟨eb, _, _⟩ := find_back H.fb H.pb
  by_cases hm : ∃ m, b = orb a m
  · obtain ⟨m, hm⟩ := hm
    rw [totL_flat]
    refine Nat.le_trans (len_sub (m := (List.range n).map (orb a)) (H.flat_nodup hc hs) ?_) (by simpa using hn64)
    intro x hx
    obtain ⟨l, hl, hxl⟩ := List.mem_flatten.mp hx
    obtain ⟨i, _, rfl⟩ := lsJ_mem.mp hl
    have hends := tied_ends (((hL.tCls hst hc i).mem x).mp hxl) (hL.itEnds hst i)
    obtain ⟨p, hp, e⟩ := endsJ_mem.mp hends
    obtain ⟨j, hj, rfl⟩ := pairJ_mem.mp hp
    have key : ∀ q, orb a q ∈ (List.range n).map (orb a) := fun q => by
      rw [orb_mod ea q]
      exact List.mem_map.mpr ⟨_, List.mem_range.mpr (Nat.mod_lt _ hn), rfl⟩
    rcases e with rfl | rfl
    · show itJ dbl j a ∈ _
      rw [itJ_orb]; exact key j
    · show itJ dbl j b ∈ _
      rw [hm, ← itJ_orb, ← itJ_add, itJ_orb]; exact key _
  · have each : ∀ l ∈ lsJ S k, l.length ≤ 2 := by
      intro l hl
      obtain ⟨i, _, rfl⟩ := lsJ_mem.mp hl
      have hci := hL.tCls hst hc i
      refine len_sub (m := [orb a i, orb b i]) (asc_nodup hci.asc) (fun y hy => ?_)
      have t := (hci.mem y).mp hy
      rw [itJ_orb] at t
      have far : ∀ p q, orb a p ≠ orb b q := by
        intro p q e
        refine hm ⟨n - q % n + p, ?_⟩
        have e2 : itJ dbl (n - q % n) (orb a p) = itJ dbl (n - q % n) (orb b (q % n)) := by rw [e, orb_mod eb q]
        have hq := Nat.mod_lt q hn
        rw [← itJ_orb, ← itJ_orb, ← itJ_add, ← itJ_add, itJ_orb, itJ_orb, show n - q % n + q % n = n by omega, eb] at e2
        exact e2.symm
      have same : ∀ (c : Int × Int), orb c n = c → findOrb c 65 0 = some n → pre c = 0 → ∀ p q, orb c p = orb c q → p % n = q % n := by
        intro c ec fc pc p q e
        rw [orb_mod ec p, orb_mod ec q] at e
        rcases Nat.lt_trichotomy (p % n) (q % n) with h | h | h
        · exact absurd e (find_apart fc pc h (Nat.mod_lt _ hn))
        · exact h
        · exact absurd e.symm (find_apart fc pc h (Nat.mod_lt _ hn))
      have hcl := (tied_closed (C := fun z => z = orb a i ∨ z = orb b i) (fun x y m => ?_) t).mp (.inl rfl)
      · rcases hcl with e | e
        · rw [e]; simp
        · rw [e]; simp
      · obtain ⟨j, hj, e⟩ := pairJ_mem.mp m
        rw [itJ_orb, itJ_orb] at e
        injection e with e1 e2
        subst e1; subst e2
        constructor
        · rintro (e | e)
          · have h := same a ea H.fa H.pa _ _ e
            exact .inr (by rw [orb_mod eb j, h, ← orb_mod eb i])
          · exact absurd e (far _ _)
        · rintro (e | e)
          · exact absurd e.symm (far _ _)
          · have h := same b eb H.fb H.pb _ _ e
            exact .inl (by rw [orb_mod ea j, h, ← orb_mod ea i])
    have := totL_each each
    rw [lsJ_len] at this
    omega

/-- What PortraitOf answers. -/
inductive PoJ (a b : Int × Int) : List (List (Int × Int)) → Int → Prop where
  | bad (h : (isAng a.1 a.2 && isAng b.1 b.2) = false) : PoJ a b [] 1
  | long (ha : isAng a.1 a.2 = true) (hb : isAng b.1 b.2 = true) (h : findOrb a 65 0 = none ∨ findOrb b 65 0 = none) : PoJ a b [] 3
  | other {n m : Nat} (ha : isAng a.1 a.2 = true) (hb : isAng b.1 b.2 = true) (fa : findOrb a 65 0 = some n) (fb : findOrb b 65 0 = some m) (h : a = b ∨ pre a ≠ 0 ∨ pre b ≠ 0 ∨ n ≠ m) : PoJ a b [] 5
  | many {n k : Nat} {S : List (Int × Int)} (H : TwoJ a b n) (hne : a ≠ b) (hc : ClsJ (pairJ dbl a b n) a S) (hs : StopJ dbl S k) (hkn : k ≤ n) (hk : 12 < k) : PoJ a b [] 3
  | none {n k : Nat} {S : List (Int × Int)} {C : Int} (H : TwoJ a b n) (hne : a ≠ b) (hc : ClsJ (pairJ dbl a b n) a S) (hs : StopJ dbl S k) (hkn : k ≤ n) (hk : k ≤ 12) (ht : totL (lsJ S k) ≤ 64) (hC : CoIs (lsJ S k) C) (h0 : C ≠ 0) : PoJ a b [] 5
  | sets {n k : Nat} {S : List (Int × Int)} (H : TwoJ a b n) (hne : a ≠ b) (hc : ClsJ (pairJ dbl a b n) a S) (hs : StopJ dbl S k) (hkn : k ≤ n) (hk : k ≤ 12) (ht : totL (lsJ S k) ≤ 64) (hC : CoIs (lsJ S k) 0) : PoJ a b (lsJ S k) 0
/-- The class of an end, told in order. -/
theorem LedJ.some {L : List ((Int × Int) × (Int × Int))} {n : Nat} (H : LedJ L dbl n) {x : Int × Int} (hx : x ∈ endsJ L) : ∃ S, ClsJ L x S := by
  have hall : allAng ((endsJ L).filter fun y => @decide (Tied L x y) (Classical.propDecidable _)) = true := allAng_of fun q hq => H.ang q (List.mem_filter.mp hq).1
  refine ⟨insAll ((endsJ L).filter fun y => @decide (Tied L x y) (Classical.propDecidable _)), fun y => ?_, insAll_asc hall, allAng_ins hall⟩
  rw [insAll_mem, List.mem_filter, @decide_eq_true_eq _ (Classical.propDecidable _)]
  exact ⟨fun h => h.2, fun h => ⟨tied_ends h hx, h⟩⟩
theorem po_ex (a b : Int × Int) : ∃ ls c, PoJ a b ls c := by
  cases h : (isAng a.1 a.2 && isAng b.1 b.2)
  · exact ⟨_, _, .bad h⟩
  rw [Bool.and_eq_true] at h
  obtain ⟨ha, hb⟩ := h
  cases fa : findOrb a 65 0 with
  | none => exact ⟨_, _, .long ha hb (.inl fa)⟩
  | some n =>
    cases fb : findOrb b 65 0 with
    | none => exact ⟨_, _, .long ha hb (.inr fb)⟩
    | some m =>
      by_cases h : a = b ∨ pre a ≠ 0 ∨ pre b ≠ 0 ∨ n ≠ m
      · exact ⟨_, _, .other ha hb fa fb h⟩
      · have h1 : a ≠ b := fun e => h (.inl e)
        have h2 : pre a = 0 := Classical.byContradiction fun e => h (.inr (.inl e))
        have h3 : pre b = 0 := Classical.byContradiction fun e => h (.inr (.inr (.inl e)))
        have h4 : n = m := Classical.byContradiction fun e => h (.inr (.inr (.inr e)))
        subst h4
        have H : TwoJ a b n := ⟨isAng_yes ha, isAng_yes hb, fa, fb, h2, h3⟩
        obtain ⟨S, hc⟩ := H.led.some H.start
        obtain ⟨k, hkn, hs⟩ := H.led.stop H.start hc
        by_cases hk : k ≤ 12
        · have ht := H.total hc hs hk
          obtain ⟨C, hC⟩ := co_ex (lsJ S k)
          by_cases h0 : C = 0
          · subst h0
            exact ⟨_, _, .sets H h1 hc hs hkn hk ht hC⟩
          · exact ⟨_, _, .none H h1 hc hs hkn hk ht hC h0⟩
        · exact ⟨_, _, .many H h1 hc hs hkn (by omega)⟩

theorem infoSJ : (Try.prog.info? 73).map (fun i => (i.zero, i.size, i.bytes)) = some (some (.slice none 0 0), 1, 24) := by kernel_rfl
/-- What joinedSets answers. -/
def JnIs (w : World) (a b : Int × Int) (n : Nat) (e : Ending) (w' : World) : Prop :=
  ∃ S k A cap xs, ClsJ ((lfJ a b n).map pJ) a S ∧ StopJ dbl S k ∧ k ≤ n ∧ e = .returned (.slice A k cap) ∧ SetsAt w' w.heap.size (.slice A k cap) ((List.range k).map (tJ dbl S)) xs ∧ (∃ hi, DisX hi xs) ∧ Below w.heap.size w w'

set_option maxRecDepth 100000 in
set_option maxHeartbeats 4000000 in
theorem implJoined (a1 a2 b1 b2 : Int) (n : Nat) (w : World) (ha : isAng a1 a2 = true) (hb : isAng b1 b2 = true) (hn : 0 < n) (hm : n ≤ 340) (ea : orb (a1, a2) n = (a1, a2)) (eb : orb (b1, b2) n = (b1, b2)) :
    Calls Try.prog 58 #[ang a1 a2, ang b1 b2, .int .i64 n] w (JnIs w (a1, a2) (b1, b2) n) := by
  obtain ⟨i0, hi, hz0, hz1, hz2⟩ := infoAg_parts infoLf
  have hRa : Red (a1, a2) := isAng_yes ha
  have hRb : Red (b1, b2) := isAng_yes hb
  have dblOf : ∀ (p : Int × Int), Red p → ∀ k W, Calls Try.prog 96 #[ang (orb p k).1 (orb p k).2] W fun e w' => e = .returned (ang (orb p (k + 1)).1 (orb p (k + 1)).2) ∧ Below W.heap.size W w' := fun p h k W => by
    have g := orb_red h k
    exact implDbl (orb p k).1 (orb p k).2 W (by have := g.1; omega) (by have := g.2.1; omega) (by have := g.2.2.1; omega) (by have := g.2.2.2.1; have := g.2.1; omega)
  have HDa := Lib.hid (dblOf _ hRa)
  have HDb := Lib.hid (dblOf _ hRb)
  have HLB := Lib.hid (fun k W => implLB (orb (a1, a2) k).1 (orb (a1, a2) k).2 (orb (b1, b2) k).1 (orb (b1, b2) k).2 W (isAng_ok (redAng (orb_red hRa k))) (isAng_ok (redAng (orb_red hRb k))))
  have HLe := Lib.hid (fun (A : Option Addr) (cap : Nat) W (hr : LfRow W W.heap.size A (lfJ (a1, a2) (b1, b2) n)) => implLeast A n cap (lfJ (a1, a2) (b1, b2) n) W hr (lfJ_len _ _ _) (by omega) (lfJ_ang hRa hRb n))
  have HLd := Lib.hid (lfJ_led hRa hRb hn ea eb)
  have HAE := Lib.hid (lfJ_start (a := (a1, a2)) (b := (b1, b2)) hn)
  have HNX := Lib.hid (fun k => lfJ_next (a1, a2) (b1, b2) k)
  have HL0 : Hid (lfJ (a1, a2) (b1, b2) 0 = []) := Lib.hid rfl
  obtain ⟨L, hL⟩ : ∃ L, lfJ (a1, a2) (b1, b2) = L := ⟨_, rfl⟩
  have HL := Lib.hid hL
  rw [hL] at HLe HLd HAE HNX HL0
  clear hL
  obtain ⟨oa, hoa⟩ : ∃ o, orb (a1, a2) = o := ⟨_, rfl⟩
  obtain ⟨ob, hob⟩ : ∃ o, orb (b1, b2) = o := ⟨_, rfl⟩
  have HOA : Hid (oa 0 = (a1, a2)) := Lib.hid (by rw [← hoa]; rfl)
  have HOB : Hid (ob 0 = (b1, b2)) := Lib.hid (by rw [← hob]; rfl)
  rw [hoa] at HDa HLB HNX
  rw [hob] at HDb HLB HNX
  clear ha hb ea eb hRa hRb dblOf hoa hob
  go_enter Try.func58, Try.ntmps58
  go_upto_region 2 with fail
  go_cut [8, 9] (fun s8 s9 wy => ∃ F G, s8 = .pointer (some ⟨F, 0, none⟩) ∧ s9 = .pointer (some ⟨G, 0, none⟩) ∧ Hid (JoS w F G (a1, a2) (a1, a2) (b1, b2) (.slice none 0 0) 0 [] wy))
  case first =>
    go_region
    all_goals
      go_wp2_with fail
      go_meet
      refine ⟨_, _, rfl, rfl, Lib.hid ⟨?_, ?_, ?_, ?_, ?_, ?_, ?_, ?_, ?_, ?_, ?_, ?_, ?_, ?_, ?_, ?_, ?_, own_noneL⟩⟩
      all_goals first | (simp; done) | (simp; omega) | (simp [go_sem]; done) | ((repeat' (first | (with_reducible exact Below.refl _ _) | (with_reducible assumption) | (with_reducible refine belowNext ?_ (by with_reducible assumption)) | (with_reducible refine belowAlloc ?_ _) | (with_reducible refine Below.drew ?_) | (with_reducible refine below_drewN ?_ _) | (with_reducible refine Below.setCell ?_ ?_ _) | go_size | (with_reducible refine sizeOf' ?_) | (with_reducible refine sizeAdd ?_) | (dsimp only; first | (with_reducible refine sizeOf' ?_) | (with_reducible refine sizeAdd ?_)))))
  case rest =>
    obtain ⟨F, G, rfl, rfl, HS⟩ := hcut
    have HS0 : Hid (JoS w F G (a1, a2) (oa 0) (ob 0) (.slice none 0 0) 0 (flatL (L 0)) wc) := Lib.hid (by rw [HOA.out, HOB.out, HL0.out]; exact HS.out)
    clear HS
    go_wp2_with fail
    go_loopg [7, 20] n (fun g s7 s20 wr => ∃ (k : Nat) (A : Option Addr) (cap : Nat), k + g = n ∧ s20 = .int .i64 k ∧ s7 = .slice A k cap ∧ Hid (JoS w F G (a1, a2) (oa k) (ob k) (.slice A k cap) k (flatL (L k)) wr))
    case atStart => exact ⟨0, none, 0, by omega, rfl, rfl, HS0⟩
    case round =>
      clear HS0
      obtain ⟨k, A, cap, hkg, rfl, rfl, HS⟩ := hrel
      cases gk with
      | succ g =>
        have hkn : k < n := by omega
        have H1 := Lib.hid (HLB.out k)
        have H2 := Lib.hid (HDa.out k)
        have H3 := Lib.hid (HDb.out k)
        have HE : Hid (flatL (L k) ++ [.int .i64 (lfP (oa k) (ob k)).1, .int .i64 (lfP (oa k) (ob k)).2.1, .int .i64 (lfP (oa k) (ob k)).2.2.1, .int .i64 (lfP (oa k) (ob k)).2.2.2] = flatL (L (k + 1))) := Lib.hid (by
          rw [HNX.out k, flatL_app]
          rfl)
        unfold lfP at HE
        dsimp only at HE
        have HKG := Lib.hid hkg
        obtain ⟨⟨s, s'⟩, hs⟩ : ∃ s, oa k = s := ⟨_, rfl⟩
        obtain ⟨⟨t, t'⟩, ht⟩ : ∃ s, oa (k + 1) = s := ⟨_, rfl⟩
        obtain ⟨⟨u, u'⟩, hu⟩ : ∃ s, ob k = s := ⟨_, rfl⟩
        obtain ⟨⟨v, v'⟩, hv⟩ : ∃ s, ob (k + 1) = s := ⟨_, rfl⟩
        rw [hs] at H1 H2 HS HE
        rw [ht] at H2
        rw [hu] at H1 H3 HS HE
        rw [hv] at H3
        dsimp only at H1 H2 H3 HE
        have HT := Lib.hid (And.intro ht hv)
        generalize lfA s s' u u' = p1 at *
        generalize lfB s s' u u' = p2 at *
        generalize lfC s s' u u' = p3 at *
        generalize lfD s s' u u' = p4 at *
        have x0 := HS.out.x0
        have x1 := HS.out.x1
        have y0 := HS.out.y0
        have y1 := HS.out.y1
        have zz := HS.out.z
        clear hs ht hu hv hkg
        go_wp2_with fail
        refine (H1.out _).mono ?_
        rintro e w3 ⟨rfl, hb3⟩
        have HS3 := Lib.hid (HS.out.on hb3)
        have z3 := HS3.out.z
        clear hb3 HS x0 x1 y0 y1 zz
        go_wp2_with (at_builtin; refine wpList_append_own_at _ rfl _ _ 26 rfl (w.heap.size + 4) 31 i0 (.agg #[.int .i64 0, .int .i64 0, .int .i64 0, .int .i64 0]) 4 32 Try.underlying26 hi hz0 hz1 hz2 rfl (by decide) (.slice A k cap) k (flatL (L k)) rfl (World.ownsRow.alloc HS3.out.own _) ⟨w3.heap.size, 0, none⟩ 1 1 [.int .i64 p1, .int .i64 p2, .int .i64 p3, .int .i64 p4] rfl rfl ?c1 ?c2 ?c3 ?c4 ?c5 ?_)
        case c1 => exact cell_four_newL w3 _ _ _ _ _
        case c2 => intro q hq; simp at hq; rcases hq with rfl | rfl | rfl | rfl <;> rfl
        case c3 => unfold maxLen; omega
        case c4 => omega
        case c5 => simp; omega
        intro v2 w5 hown' hgrow _ _
        rw [HE.out] at hown'
        obtain ⟨gn, capn, rfl⟩ := ownSuccK hown'
        have HS5 := Lib.hid ((HS3.out.on (belowAlloc (Below.refl _ _) _)).push hgrow hown')
        have x0 := HS5.out.x0
        have x1 := HS5.out.x1
        have y0 := HS5.out.y0
        have y1 := HS5.out.y1
        have z5 := HS5.out.z
        clear hown' hgrow HS3 z3 HE
        go_upto_region 6 with fail
        have f0 := HS5.out.f0
        have f1 := HS5.out.f1
        have g0 := HS5.out.g0
        have g1 := HS5.out.g1
        have hFG := HS5.out.ne
        have hGF : ¬ G = F := fun e => hFG e.symm
        go_region_with (first | (go_at_call 96; (with_reducible refine (H2.out _).mono ?_); rintro e w6 ⟨rfl, hb6⟩; have S6 := HS5.out.drew.on hb6; have x0 := S6.x0; have x1 := S6.x1; have y0 := S6.y0; have y1 := S6.y1; have f0 := S6.f0; have f1 := S6.f1; have g0 := S6.g0; have g1 := S6.g1) | (go_at_call 96; (with_reducible refine (H3.out _).mono ?_); rintro e w7 ⟨rfl, hb7⟩; (first | (have S7 := S6.on hb7; have x0 := S7.x0; have x1 := S7.x1; have y0 := S7.y0; have y1 := S7.y1; have f0 := S7.f0; have f1 := S7.f1; have g0 := S7.g0; have g1 := S7.g1) | (have S7 := (S6.putF (t, t')).on hb7; have x0 := S7.x0; have x1 := S7.x1; have y0 := S7.y0; have y1 := S7.y1; have f0 := S7.f0; have f1 := S7.f1; have g0 := S7.g0; have g1 := S7.g1))))
        all_goals
          go_wp2
          go_roundg g
          case measure => omega
          case rel =>
            refine ⟨k + 1, _, _, by have := HKG.out; omega, by go_num, rfl, ?_⟩
            rw [HT.out.1, HT.out.2]
            first
              | exact Lib.hid ((S7.putF (t, t')).putG (v, v'))
              | exact Lib.hid (S7.putG (v, v'))
              | exact Lib.hid ((S7.putG (v, v')).putF (t, t'))
              | exact Lib.hid ((S7.drew.putF (t, t')).putG (v, v'))
      | zero =>
        obtain rfl : k = n := by omega
        have hrow := rowL_of (by have := HS.out.own.1; rw [flatL_len] at this; omega) HS.out.own
        have HLr := Lib.hid hrow
        have HB0 := HS.out.B
        have a0 := HS.out.a0
        have a1' := HS.out.a1
        have z0 := HS.out.z
        clear hrow HS HLB HDa HDb HNX HL0 HOA HOB hkg hn
        go_wp2_with fail
        refine (HLe.out _ _ _ HLr.out).mono ?_
        rintro e w3 ⟨J, f, rfl, ⟨n0, D, hD, hn0, hM⟩, hgd, hcl, hb3, hJ⟩
        have HM := Lib.hid hM
        have HGd := Lib.hid hgd
        have HCl := Lib.hid hcl
        have HN0 : Hid (n0 ≤ 1000000) := Lib.hid (by
          have h1 : L k = L k := rfl
          have h2 : (L k).length = k := by have := lfJ_len (a1, a2) (b1, b2) k; rw [HL.out] at this; exact this
          rw [h2] at hn0
          have h3 : 2 * k * (2 * k) ≤ 680 * 680 := Nat.mul_le_mul (by omega) (by omega)
          omega)
        have HEa : Hid (∀ q ∈ endsJ ((L k).map pJ), isAng q.1 q.2 = true) := Lib.hid HLd.out.ang
        obtain ⟨C, hC⟩ : ∃ C, endsJ ((L k).map pJ) = C := ⟨_, rfl⟩
        have HCe := Lib.hid hC
        rw [hC] at HM HEa HAE
        have HMp := Lib.hid hD
        have HBJ := Lib.hid (And.intro (belowNext HB0 hb3) (show w.heap.size < J by omega))
        have a0 := cellThru hb3 (by omega) a0
        have a1' := cellThru hb3 (by omega) a1'
        have z3 := hb3.size
        have hJw : J < w3.heap.size := hD.lt
        clear hD hn0 hM hgd hcl hb3 hJ hC HB0 HLr HLe
        go_wp2_with (at_range; refine wpList_range_own _ rfl _ 71 rfl 29 29 angLawS Try.underlying71 angElem J n0 D rfl HMp.out ?_; intro w4 hrg4 hg4 hs4)
        go_frame
        have HRG := Lib.hid hrg4
        obtain ⟨j0, hj, hy0, hy1, hy2⟩ := infoAg_parts infoAg
        have HS4 : Hid (Below w.heap.size w w4 ∧ w4.cell? ⟨w.heap.size, 0, none⟩ = some (.int .i64 a1) ∧ w4.cell? ⟨w.heap.size, 1, none⟩ = some (.int .i64 a2) ∧ w3.heap.size < w4.heap.size) := Lib.hid ⟨HBJ.out.1.grown hg4 HBJ.out.1.size (fun j hj => by cases hj), cellGS hg4 (by omega) (fun e => by cases e) a0, cellGS hg4 (by omega) (fun e => by cases e) a1', by omega⟩
        have HGa : Hid (GathJ C f (f (a1, a2)) (Maps.has D) []) := Lib.hid (GathJ.start fun x hx => (HM.out.has _).mpr ⟨x, hx, rfl⟩)
        have HSz : Hid (Maps.size D ≤ n0) := Lib.hid hrg4.owns.size_le
        have hwr : w.heap.size < w3.heap.size := by omega
        have hwJ := HBJ.out.2
        clear hrg4 hg4 hs4 HMp HBJ a0 a1' z0 z3
        generalize w3.heap.size = r at *
        go_loopg [11] (Maps.size D) (fun g s11 wr => ∃ (left : Lit → Bool) (O : List (Int × Int)) (A : Option Addr) (cap : Nat), s11 = .slice A O.length cap ∧ Hid (wr.ranges Try.prog 29 angElem J r n0 D left g) ∧ Hid (GathJ C f (f (a1, a2)) left O) ∧ Hid (wr.ownsRow (r + 1) 29 2 (.slice A O.length cap) O.length (flatA O)) ∧ Hid (O.length + g ≤ n0) ∧ Hid (Below w.heap.size w wr ∧ wr.cell? ⟨w.heap.size, 0, none⟩ = some (.int .i64 a1) ∧ wr.cell? ⟨w.heap.size, 1, none⟩ = some (.int .i64 a2) ∧ r < wr.heap.size))
        case atStart => exact ⟨_, [], none, 0, rfl, HRG, HGa, Lib.hid ownNone, Lib.hid (by simpa using HSz.out), HS4⟩
        case round =>
          clear HRG HGa HSz HS4
          obtain ⟨left, O, A, cap, rfl, HRG, HG, HO, HLn, HS⟩ := hrel
          have hrg := HRG.out
          go_wp2_with (at_next; refine wpList_next_angJ _ rfl _ rfl J r n0 D C f HM.out HEa.out left _ rfl hrg ?_ ?_; intro hl0; rotate_left; intro x w5 cnt5 hx hlx hrg5 hlt5 hg5 hs5 hen; have HS5 := Lib.hid hs5; clear hs5)
          · obtain ⟨x1, x2⟩ := x
            have hs5 := HS5.out
            have zr := HS.out.2.2.2
            have hb5 : Below w.heap.size w w5 := HS.out.1.grown hg5 HS.out.1.size (fun j hj => by have := Option.some.inj hj; omega)
            have a0 := cellGS hg5 (by omega) (fun e => by have := Option.some.inj e; omega) HS.out.2.1
            have a1' := cellGS hg5 (by omega) (fun e => by have := Option.some.inj e; omega) HS.out.2.2.1
            have hAx := HEa.out _ hx
            have hAa := HEa.out _ HAE.out
            have HKx := Lib.hid (angKeyS x1 x2 (red_wfS (o := ((x1, x2) : Int × Int)) (isAng_yes hAx)).1 (red_wfS (o := ((x1, x2) : Int × Int)) (isAng_yes hAx)).2)
            have HKa := Lib.hid (angKeyS a1 a2 (red_wfS (o := ((a1, a2) : Int × Int)) (isAng_yes hAa)).1 (red_wfS (o := ((a1, a2) : Int × Int)) (isAng_yes hAa)).2)
            obtain ⟨⟨p1, p2⟩, hp⟩ : ∃ z, f (x1, x2) = z := ⟨_, rfl⟩
            obtain ⟨⟨q1, q2⟩, hq⟩ : ∃ z, f (a1, a2) = z := ⟨_, rfl⟩
            have hat1 : ∀ z, D.atKey (kl (x1, x2)) z = aJ (p1, p2) := fun z => hp ▸ HM.out.val _ hx z
            have hat2 : ∀ z, D.atKey (kl (a1, a2)) z = aJ (q1, q2) := fun z => hq ▸ HM.out.val _ HAE.out z
            have HPQ := Lib.hid (And.intro hp hq)
            have HR6 := Lib.hid (hrg5.alloc (.cells #[.int .i64 x1, .int .i64 x2] 29))
            have HO6 := Lib.hid (World.ownsRow.alloc (ownTurnL HO.out hg5 (fun j hj => by have := Option.some.inj hj; omega)) (.cells #[.int .i64 x1, .int .i64 x2] 29))
            have HB6 := Lib.hid (belowAlloc hb5 (.cells #[.int .i64 x1, .int .i64 x2] 29))
            have HX := Lib.hid (And.intro hx hlt5)
            have la1 := run_lookJ HR6.out.owns.drew HKx.out hat1
            have la2 := run_lookJ HR6.out.owns.drew HKa.out hat2
            have z5 : w.heap.size < w5.heap.size := by omega
            have r5 : r < w5.heap.size := by omega
            clear hx hlx hrg5 hlt5 hg5 hs5 hb5 hAx hAa hp hq hat1 hat2 HRG HO HS hrg zr
            go_wp2_with fail
            have c0 : (w5.alloc (.cells #[.int .i64 x1, .int .i64 x2] 29)).cell? ⟨w5.heap.size, 0, none⟩ = some (.int .i64 x1) := by simp [go_sem]
            have c1 : (w5.alloc (.cells #[.int .i64 x1, .int .i64 x2] 29)).cell? ⟨w5.heap.size, 1, none⟩ = some (.int .i64 x2) := by simp [go_sem]
            have a0 := cellThru (belowAlloc (Below.refl _ _) (.cells #[.int .i64 x1, .int .i64 x2] 29)) z5 a0
            have a1' := cellThru (belowAlloc (Below.refl _ _) (.cells #[.int .i64 x1, .int .i64 x2] 29)) z5 a1'
            have hz6 : w5.heap.size < (w5.alloc (.cells #[.int .i64 x1, .int .i64 x2] 29)).heap.size := by simp
            generalize w5.alloc (.cells #[.int .i64 x1, .int .i64 x2] 29) = W6 at *
            by_cases e : ((p1, p2) : Int × Int) = (q1, q2)
            · have Q : ∀ W, (binOp .eql 29 (ang p1 p2) (ang q1 q2)).run Try.prog W = .ok (.bool true) W := fun W => by injection e with e1 e2; subst e1; subst e2; simp [go_sem]
              have HG7 := Lib.hid (HG.out.yes HEa.out HX.out.1 (by rw [HPQ.out.1, HPQ.out.2]; exact e))
              clear e HG
              go_region
              all_goals
                go_wp2_with (at_builtin; refine wpList_append_own_at _ rfl _ _ 73 rfl (r + 1) 29 j0 (.agg #[.int .i64 0, .int .i64 0]) 2 16 Try.underlying73 hj hy0 hy1 hy2 rfl (by decide) (.slice A O.length cap) O.length (flatA O) rfl (World.ownsRow.alloc (w := W6.drew) HO6.out _) ⟨W6.heap.size, 0, none⟩ 1 1 [.int .i64 x1, .int .i64 x2] rfl rfl ?c1 ?c2 ?c3 ?c4 ?c5 ?_)
                case c1 => exact cell_two_new W6.drew _ _ _
                case c2 => intro q hq; simp at hq; rcases hq with rfl | rfl <;> rfl
                case c3 => have := HLn.out; have := HN0.out; unfold maxLen; omega
                case c4 => have := HLn.out; have := HN0.out; omega
                case c5 => simp; omega
                intro v2 w7 hown' hgrow _ _
                have e1 : (O ++ [((x1, x2) : Int × Int)]).length = O.length + 1 := by simp
                have e2 : flatA (O ++ [((x1, x2) : Int × Int)]) = flatA O ++ [.int .i64 x1, .int .i64 x2] := by rw [flatA_app]; rfl
                rw [← e2] at hown'
                obtain ⟨gn, capn, rfl⟩ := ownSuccK hown'
                rw [← e1] at hown'
                have hne : ∀ b, b ≤ r → some b ≠ (Value.slice A O.length cap).ownBlock := fun b hb e => by have := own_blockL HO6.out b e.symm; omega
                have HR7 := Lib.hid ((World.ranges.alloc (show W6.drew.ranges Try.prog 29 angElem J r n0 D (fun z => left z && !z.sameKey (kl (x1, x2))) cnt5 from HR6.out) (.cells #[.int .i64 x1, .int .i64 x2] 29)).kept hgrow (hne _ (by omega)) (hne _ (by omega)))
                have HO7 := Lib.hid hown'
                have B7 : Below w.heap.size w w7 := (belowAlloc HB6.out.drew (.cells #[.int .i64 x1, .int .i64 x2] 29)).grown hgrow (belowAlloc HB6.out.drew (.cells #[.int .i64 x1, .int .i64 x2] 29)).size (fun j hj => by have := own_blockL HO6.out j hj; omega)
                have a0 := cellGS hgrow (by simp; omega) (hne _ (by omega)) (cellThru (belowAlloc (Below.refl _ W6.drew) (.cells #[.int .i64 x1, .int .i64 x2] 29)) (show w.heap.size < W6.drew.heap.size by simp; omega) a0)
                have a1' := cellGS hgrow (by simp; omega) (hne _ (by omega)) (cellThru (belowAlloc (Below.refl _ W6.drew) (.cells #[.int .i64 x1, .int .i64 x2] 29)) (show w.heap.size < W6.drew.heap.size by simp; omega) a1')
                have z7 : r < w7.heap.size := by have := hgrow.size; simp at this; omega
                have HS7 := Lib.hid (And.intro B7 (And.intro a0 (And.intro a1' z7)))
                have HE1 := Lib.hid e1
                clear hown' hgrow B7 a0 a1' z7 e1 e2 hne c0 c1 la1 la2
                go_wp2
                go_roundg cnt5
                case measure => exact HX.out.2
                case rel => exact ⟨fun z => left z && !z.sameKey (kl (x1, x2)), O ++ [(x1, x2)], _, capn, by rw [HE1.out], HR7, HG7, HO7, Lib.hid (by have := HE1.out; have := HLn.out; have := HX.out.2; omega), HS7⟩
            · have Q : ∀ W, (binOp .eql 29 (ang p1 p2) (ang q1 q2)).run Try.prog W = .ok (.bool false) W := fun W => by
                have hn : eqA p1 p2 q1 q2 = false := by
                  cases h : eqA p1 p2 q1 q2
                  · rfl
                  · exact absurd ((eqA_iffO (p1, p2) (q1, q2)).mp h) e
                rw [eqlAng, hn]
              have HG7 := Lib.hid (HG.out.no HEa.out HX.out.1 (by rw [HPQ.out.1, HPQ.out.2]; exact e))
              clear e HG
              go_region
              all_goals
                go_wp2
                go_roundg cnt5
                case measure => exact HX.out.2
                case rel => exact ⟨fun z => left z && !z.sameKey (kl (x1, x2)), O, A, cap, rfl, HR6, HG7, HO6, Lib.hid (by have := HLn.out; have := HX.out.2; omega), Lib.hid ⟨HB6.out.drew, a0, a1', by simp; omega⟩⟩
          · have hall : allAng O = true := allAng_of fun q hq => HEa.out _ (HG.out.sub q hq).1
            have hst : (a1, a2) ∈ endsJ ((L k).map pJ) := by rw [HCe.out]; exact HAE.out
            have hcls : ClsJ ((L k).map pJ) (a1, a2) (insAll O) := cls_least HGd.out (fun p hp => by obtain ⟨q, hq, rfl⟩ := List.mem_map.mp hp; exact HCl.out q hq) HLd.out.ang hst (fun y => by rw [HCe.out]; exact HG.out.done hl0 y)
            obtain ⟨m, hmk, hstop⟩ := HLd.out.stop hst hcls
            have hOn : O.length ≤ 1000000 := by have := HLn.out; have := HN0.out; omega
            have HSo := Lib.hid (implSortA A O.length cap O wr (ownA_of rfl HO.out).row rfl (by omega) (insAll O) 0 (.inl ⟨hall, rfl, rfl⟩))
            have hSl := Nat.le_trans (insAll_len O) hOn
            have hSa := allAng_ins hall
            obtain ⟨S, hS⟩ : ∃ S, insAll O = S := ⟨_, rfl⟩
            rw [hS] at hcls hstop HSo hSl hSa
            have HB := Lib.hid HS.out.1
            have HAE2 := Lib.hid hst
            have HCS := Lib.hid (And.intro hcls (And.intro hstop (And.intro hmk (And.intro hSl hSa))))
            clear hl0 hall hst hcls hstop hmk hOn hSl hSa hS HG HO HRG hrg HLn HS HM HGd HCl HCe HEa HN0
            first | refine HSo.out.mono ?_ | (go_wp2_with fail; refine HSo.out.mono ?_)
            rintro e w5 ⟨A5, c5, rfl, ho5, hb5⟩
            have HD5 := Lib.hid (fun (A : Option Addr) (c : Nat) (T : List (Int × Int)) W (hr : AngRow W W.heap.size A T) (hl : T.length ≤ 1000000) (hT : allAng T = true) => implDoubles A T.length c T W hr rfl hl hT)
            have HO5 := Lib.hid ho5
            have HB5 := Lib.hid (belowNext HB.out hb5)
            have HI5 : Hid (InnerS w5 w.heap.size none A5 S) := Lib.hid (InnerS.fresh ho5 (by have := HB.out.size; omega) (fun b e => by cases e))
            clear ho5 hb5 HB HSo
            go_wp2_with fail
            refine (HD5.out _ _ S _ (HO5.out.row.next (belowAlloc (Below.refl _ _) _)) HCS.out.2.2.2.1 HCS.out.2.2.2.2).mono ?_
            rintro e w6 ⟨A6, c6, rfl, ho6, hb6⟩
            have hzz : w.heap.size ≤ w5.heap.size := HB5.out.size
            have hg1 : w5.grownBy (w5.alloc (.cells #[.slice A5 S.length c5] 73)) none := World.grownBy_alloc w5 _ none
            have hI1 : InnerS (w5.alloc (.cells #[.slice A5 S.length c5] 73)) w.heap.size (some w5.heap.size) A5 S := HI5.out.turn hg1 (.inr ⟨_, rfl, Nat.le_refl _⟩)
            have HNeT : Hid (∀ q, tJ dbl S q ≠ []) := Lib.hid (fun q h => by have h1 := ((HLd.out.tCls HAE2.out HCS.out.1 q).mem (itJ dbl q (a1, a2))).mpr (.refl _); rw [h] at h1; cases h1)
            have HNe : Hid (S ≠ []) := Lib.hid (HNeT.out 0)
            have HNe1 : Hid (insAll (dblL S) ≠ []) := Lib.hid (HNeT.out 1)
            have HSt : Hid (SetS w S 0 A5 A6 (.slice (some ⟨w5.heap.size, 0, none⟩) 1 1) [.slice A5 S.length c5] w6) := Lib.hid ⟨belowNext (belowAlloc HB5.out _) hb6,
              SetsAt.next (W := w5.alloc (.cells #[.slice A5 S.length c5] 73)) ⟨⟨rfl, .inr ⟨w5.heap.size, 1, #[.slice A5 S.length c5], rfl, hzz, heap_alloc_new w5 (.cells #[.slice A5 S.length c5] 73), by simp, by unfold maxLen; omega, rfl, rfl⟩⟩, fun i l hil => by
                match i, hil with
                | 0, hil =>
                  obtain rfl : S = l := by simpa [tJ] using hil
                  exact ⟨A5, c5, rfl, hI1⟩
                | i + 1, hil => simp at hil⟩ hb6, hI1.next hb6, InnerS.fresh ho6 (by simp; omega) (fun b e => by obtain rfl := Option.some.inj e; simp), ⟨(w5.alloc (.cells #[.slice A5 S.length c5] 73)).heap.size, DisX.one (fun b hb => (hI1.block HNe.out hb).2), fun n c b hb => (ho6.block HNe1.out hb).1⟩⟩
            have HEq := Lib.hid (fun (A : Option Addr) (c : Nat) (T : List (Int × Int)) W (hr : AngRow W W.heap.size A T) (hl : T.length ≤ 1000000) (hr2 : AngRow W W.heap.size A5 S) => implEqual A T.length c T A5 S.length c5 S W hr rfl (by omega) hr2 rfl)
            have HTl : Hid (∀ q, (tJ dbl S q).length ≤ 1000000) := Lib.hid (fun q => Nat.le_trans (tJ_le S q) HCS.out.2.2.2.1)
            have HTa : Hid (∀ q, allAng (tJ dbl S q) = true) := Lib.hid (fun q => (HLd.out.tCls HAE2.out HCS.out.1 q).ang)
            obtain ⟨k0, hk, hx0, hx1, hx2⟩ := infoAg_parts infoSJ
            have HSt1 : Hid (∃ T, T = tJ dbl S 1 ∧ insAll (dblL S) = T) := Lib.hid ⟨_, rfl, rfl⟩
            obtain ⟨T1, hT1, hT2⟩ := HSt1.out
            rw [hT2]
            subst hT1
            clear hT2 HSt1 hzz hg1 hI1 ho6 hb6 HO5 HB5 HI5
            go_wp2_with fail
            go_loopg [15, 16] (m - 1) (fun g s15 s16 wr => ∃ (j : Nat) (B : Option Addr) (cB : Nat) (A7 : Option Addr) (c7 : Nat) (xs : List Value), j + 1 + g = m ∧ s15 = .slice B (j + 1) cB ∧ s16 = .slice A7 (tJ dbl S (j + 1)).length c7 ∧ Hid (SetS w S j A5 A7 (.slice B (j + 1) cB) xs wr))
            case atStart => exact ⟨0, _, _, _, _, _, by have := HCS.out.2.1.pos; omega, rfl, rfl, HSt⟩
            case round =>
              clear HSt
              obtain ⟨j, B, cB, A7, c7, xs, hjg, rfl, rfl, HSt⟩ := hrel
              have HTj := Lib.hid (HTl.out (j + 1))
              have HTb := Lib.hid (HTa.out (j + 1))
              obtain ⟨T, hT⟩ : ∃ T, tJ dbl S (j + 1) = T := ⟨_, rfl⟩
              rw [hT] at HTj HTb ⊢
              have HT := Lib.hid hT
              have HR7 : Hid (AngRow wr wr.heap.size A7 T) := Lib.hid (by rw [← hT]; exact HSt.out.nxt.own.row)
              have HR5 := Lib.hid HSt.out.fst.own.row
              have HJG := Lib.hid hjg
              clear hT hjg
              cases gk with
              | zero =>
                go_wp2_with fail
                refine (HEq.out _ _ T _ HR7.out HTj.out HR5.out).mono ?_
                rintro e w7 ⟨⟨rr, rfl, hr⟩, hb7⟩
                have hjm : j + 1 = m := by have := HJG.out; omega
                obtain rfl : rr = true := hr.out.mpr (by rw [← HT.out, hjm]; exact HCS.out.2.1.end_)
                have HS7 := Lib.hid (HSt.out.on hb7)
                have HJM := Lib.hid hjm
                clear hr hb7 HSt hjm
                go_wp2
                first | go_ret2 | go_ret
                exact ⟨S, m, B, cB, xs, by rw [HL.out]; exact HCS.out.1, HCS.out.2.1, HCS.out.2.2.1, by rw [HJM.out]; rfl, by have h := HS7.out.sets; rw [HJM.out] at h; exact h, HS7.out.dis.imp (fun _ h => h.1), HS7.out.B⟩
              | succ g =>
                go_wp2_with fail
                refine (HEq.out _ _ T _ HR7.out HTj.out HR5.out).mono ?_
                rintro e w7 ⟨⟨rr, rfl, hr⟩, hb7⟩
                obtain rfl : rr = false := by
                  cases rr
                  · rfl
                  · exact absurd (hr.out.mp rfl) (by rw [← HT.out]; exact HCS.out.2.1.none (j + 1) (by omega) (by have := HJG.out; omega))
                have HS7 := Lib.hid (HSt.out.on hb7)
                have HOw : Hid (w7.ownsRow w.heap.size 73 1 (.slice B (j + 1) cB) (j + 1) xs) := Lib.hid (by have h := HS7.out.sets.own; rw [List.length_map, List.length_range] at h; exact h)
                have hjk : j ≤ 340 := by have := HJG.out; have := HCS.out.2.2.1; omega
                have hw7 := HS7.out.B.size
                clear hr hb7 HSt
                go_wp2_with (at_builtin; refine wpList_append_own_at _ rfl _ _ 43 rfl w.heap.size 73 k0 (.slice none 0 0) 1 24 Try.underlying43 hk hx0 hx1 hx2 rfl (by decide) (.slice B (j + 1) cB) (j + 1) xs rfl (World.ownsRow.alloc HOw.out _) ⟨w7.heap.size, 0, none⟩ 1 1 [.slice A7 T.length c7] rfl rfl (cell_one_new _ _ _) ?c2 ?c3 ?c4 ?c5 ?_)
                case c2 => first | rfl | (intro u hu; simp at hu; subst hu; rfl)
                case c3 => unfold maxLen; omega
                case c4 => omega
                case c5 => first | omega | (simp; omega)
                intro v2 w8 hown' hgrow _ hat
                obtain ⟨gn, capn, rfl⟩ := ownSuccK hown'
                have hbA : Below w7.heap.size w7 (w7.alloc (.cells #[.slice A7 T.length c7] 73)) := belowAlloc (Below.refl _ _) _
                have hv : (Value.slice (some ⟨gn, 0, none⟩) (j + 1 + 1) capn).ownBlock = (Value.slice B (j + 1) cB).ownBlock ∨ ∃ b, (Value.slice (some ⟨gn, 0, none⟩) (j + 1 + 1) capn).ownBlock = some b ∧ (w7.alloc (.cells #[.slice A7 T.length c7] 73)).heap.size ≤ b := hat.imp id (fun h => ⟨w7.heap.size + 1, h, by simp⟩)
                have hn1 : InnerS (w7.alloc (.cells #[.slice A7 T.length c7] 73)) w.heap.size (Value.slice B (j + 1) cB).ownBlock A7 T := by have h := HS7.out.nxt.next hbA; rw [HT.out] at h; exact h
                have hp := SetsAt.push (HS7.out.sets.next hbA) (cap := c7) hn1 (by rw [List.length_map, List.length_range]; exact hown') hgrow hv
                have hls : (List.range (j + 1)).map (tJ dbl S) ++ [T] = (List.range (j + 1 + 1)).map (tJ dbl S) := by rw [List.range_succ (n := j + 1), List.map_append, ← HT.out]; rfl
                rw [hls] at hp
                have HE : Hid (tJ dbl S (j + 1 + 1) = insAll (dblL T)) := Lib.hid (by rw [← HT.out]; rfl)
                have HN8 := Lib.hid (hn1.turn hgrow hv)
                have HF8 := Lib.hid ((HS7.out.fst.next hbA).turn hgrow hv)
                have HP := Lib.hid hp
                have HB8 : Hid (Below w.heap.size w w8) := Lib.hid ((belowNext HS7.out.B hbA).grown hgrow (belowNext HS7.out.B hbA).size (fun q hq => by have := own_blockL HOw.out q hq; omega))
                have HG8 : Hid (gn < w8.heap.size) := Lib.hid (own_ltL hown' gn rfl)
                have HT1 : Hid (T ≠ []) := Lib.hid (by rw [← HT.out]; exact HNeT.out _)
                have HT2 : Hid (insAll (dblL T) ≠ []) := Lib.hid (by rw [← HE.out]; exact HNeT.out _)
                have HD8 : Hid (DisX w8.heap.size (xs ++ [.slice A7 T.length c7])) := Lib.hid (by
                  obtain ⟨hi, hd1, hd2⟩ := HS7.out.dis
                  have hs8 : w7.heap.size ≤ w8.heap.size := Nat.le_trans hbA.size hgrow.size
                  have hix : ∀ b, (Value.slice A7 T.length c7).ownBlock = some b → hi ≤ b ∧ b < w8.heap.size := fun b hb => ⟨hd2 _ _ b hb, (HN8.out.block HT1.out hb).2⟩
                  by_cases hle : hi ≤ w8.heap.size
                  · exact hd1.push hle hix
                  · obtain ⟨b8, hb8⟩ : ∃ b, (Value.slice A7 T.length c7).ownBlock = some b := by
                      obtain ⟨b', off, rfl, _⟩ := HN8.out HT1.out
                      exact ⟨b', rfl⟩
                    have := hix b8 hb8
                    omega)
                clear hown' hgrow hat hbA hv hn1 hp hls HOw HS7
                go_wp2_with fail
                refine (HD5.out _ _ T _ HN8.out.own.row HTj.out HTb.out).mono ?_
                rintro e w9 ⟨A9, c9, rfl, ho9, hb9⟩
                have HS9 : Hid (SetS w S (j + 1) A5 A9 (.slice (some ⟨gn, 0, none⟩) (j + 1 + 1) capn) (xs ++ [.slice A7 T.length c7]) w9) := Lib.hid ⟨belowNext HB8.out hb9, HP.out.next hb9, HF8.out.next hb9, by
                  rw [HE.out]
                  exact InnerS.fresh ho9 HB8.out.size (fun b e => by obtain rfl := Option.some.inj e; exact HG8.out), ⟨w8.heap.size, HD8.out, fun n c b hb => (ho9.block HT2.out hb).1⟩⟩
                clear ho9 hb9 HP HF8 HN8
                go_wp2
                go_roundg g
                case measure => omega
                case rel => exact ⟨j + 1, _, _, _, _, _, by have := HJG.out; omega, rfl, by rw [HE.out], HS9⟩

/-- Worlds that differ in n cells of a block. -/
structure TurnJ (w w' : World) (b o n : Nat) : Prop where
  size : w'.heap.size = w.heap.size
  cell : ∀ p : Addr, ¬ (p.block = b ∧ o ≤ p.off ∧ p.off < o + n) → w'.cell? p = w.cell? p
  frz : ∀ p : Addr, w'.frozen? p = w.frozen? p
theorem TurnJ.refl (w : World) (b o : Nat) : TurnJ w w b o 0 := ⟨rfl, fun _ _ => rfl, fun _ => rfl⟩
theorem TurnJ.set {w w' : World} {b o n q : Nat} (h : TurnJ w w' b o n) (v : Value) (hq : q = o + n) : TurnJ w (w'.setCell ⟨b, q, none⟩ v) b o (n + 1) := by
  subst hq
  refine ⟨by simpa using h.size, fun p hp => ?_, fun p => by simpa using h.frz p⟩
  rw [World.cell?_setCell_other _ _ _ _ (by intro e; subst e; exact hp ⟨rfl, by simp, by simp <;> omega⟩)]
  exact h.cell p fun ⟨a, b, c⟩ => hp ⟨a, b, by omega⟩

/-- Rows of angles that a call owns: no two of them share a block. -/
structure SgAt (w : World) (lo g off : Nat) (bb oo : Nat → Nat) (n : Nat) (ln : Nat → Nat) : Prop where
  glo : lo ≤ g
  gz : g < w.heap.size
  head : ∀ i, i < n → ∃ Ai ci, w.cell? ⟨g, off + i, none⟩ = some (.slice Ai (ln i) ci) ∧ (0 < ln i → Ai = some ⟨bb i, oo i, none⟩)
  row : ∀ i, i < n → 0 < ln i → lo ≤ bb i ∧ bb i < w.heap.size ∧ bb i ≠ g
  cell : ∀ i j, i < n → j < 2 * ln i → (∃ v, w.cell? ⟨bb i, oo i + j, none⟩ = some v) ∧ w.frozen? ⟨bb i, oo i + j, none⟩ = false
  apart : ∀ i k, i < n → k < n → i ≠ k → 0 < ln i → 0 < ln k → bb i ≠ bb k
/-- How many cells the first rows have. -/
def cumJ (ln : Nat → Nat) : Nat → Nat
  | 0 => 0
  | k + 1 => cumJ ln k + 2 * ln k
theorem cumJ_le (ln : Nat → Nat) {k : Nat} : ∀ {n : Nat}, k ≤ n → cumJ ln k ≤ cumJ ln n
  | 0, h => by obtain rfl : k = 0 := by omega
               exact Nat.le_refl _
  | n + 1, h => by
    by_cases e : k = n + 1
    · subst e; exact Nat.le_refl _
    · have := cumJ_le ln (k := k) (n := n) (by omega); simp only [cumJ]; omega
theorem cumJ_row (ln : Nat → Nat) {k n : Nat} (h : k < n) : cumJ ln k + 2 * ln k ≤ cumJ ln n := cumJ_le ln (k := k + 1) h
/-- The first k rows bear their marks. -/
def MkdJ (w : World) (bb oo : Nat → Nat) (ln : Nat → Nat) (k : Nat) : Prop := ∀ i j, i < k → j < 2 * ln i → w.cell? ⟨bb i, oo i + j, none⟩ = some (.int .i64 (1 + (cumJ ln i : Int) + (j : Int)))

set_option maxHeartbeats 1000000 in
theorem markRowJ (A : Option Addr) (b o len cap : Nat) (lo : Nat) (k0 : Int) (w : World)
    (hr : 0 < len → A = some ⟨b, o, none⟩ ∧ lo ≤ b ∧ b < w.heap.size ∧ ∀ j, j < 2 * len → (∃ v, w.cell? ⟨b, o + j, none⟩ = some v) ∧ w.frozen? ⟨b, o + j, none⟩ = false)
    (hk0 : 0 ≤ k0) (hk1 : k0 ≤ 1000000000) (hm : len ≤ 1000000000) :
    Calls Try.prog 49 #[.slice A len cap, .int .i64 k0] w fun e w' => e = .returned (.int .i64 (k0 + 2 * (len : Int))) ∧ Hid (Below lo w w' ∧ TurnJ w w' b o (2 * len) ∧ ∀ j, j < 2 * len → w'.cell? ⟨b, o + j, none⟩ = some (.int .i64 (k0 + (j : Int)))) := by
  have HR := Lib.hid hr
  clear hr
  go_enter Try.func49, Try.ntmps49
  go_wp2
  go_loopw [1, 5] (fun q i wr => ∃ k : Nat, k ≤ len ∧ i = .int .i64 k ∧ q = .int .i64 (k0 + 2 * (k : Int)) ∧ Hid (Below lo w wr ∧ TurnJ w wr b o (2 * k) ∧ ∀ j, j < 2 * k → wr.cell? ⟨b, o + j, none⟩ = some (.int .i64 (k0 + (j : Int))))) (fun _ i _ => len - (intOf i).toNat)
  case atStart => exact ⟨0, by omega, rfl, by simp, Lib.hid ⟨Below.refl _ _, TurnJ.refl _ _ _, fun j hj => absurd hj (by omega)⟩⟩
  case round =>
    obtain ⟨k, hk, rfl, rfl, H⟩ := hrel
    by_cases hlt : k < len
    · obtain ⟨rfl, hlo, hbb, hcells⟩ := HR.out (by omega)
      have e0 : o + 2 * k = o + k * 2 := by omega
      have e1 : o + (2 * k + 1) = o + k * 2 + 1 := by omega
      obtain ⟨⟨v0, x0⟩, f0⟩ := hcells (2 * k) (by omega)
      obtain ⟨⟨v1, x1⟩, f1⟩ := hcells (2 * k + 1) (by omega)
      have x0 : wr.cell? ⟨b, o + k * 2, none⟩ = some v0 := by rw [← e0]; exact (H.out.2.1.cell ⟨b, o + 2 * k, none⟩ (by rintro ⟨_, _, h⟩; simp at h)).trans x0
      have x1 : wr.cell? ⟨b, o + k * 2 + 1, none⟩ = some v1 := by rw [← e1]; exact (H.out.2.1.cell ⟨b, o + (2 * k + 1), none⟩ (by rintro ⟨_, _, h⟩; simp at h; omega)).trans x1
      have f0 : wr.frozen? ⟨b, o + k * 2, none⟩ = false := by rw [← e0]; exact (H.out.2.1.frz _).trans f0
      have f1 : wr.frozen? ⟨b, o + k * 2 + 1, none⟩ = false := by rw [← e1]; exact (H.out.2.1.frz _).trans f1
      have HLo := Lib.hid hlo
      clear hcells e0 e1 hlo
      go_wp2
      go_roundw
      case rel =>
        refine ⟨k + 1, by omega, by go_num, by go_num, Lib.hid ⟨(H.out.1.setCell HLo.out _).setCell HLo.out _, (H.out.2.1.set _ (by omega)).set _ (by omega), fun j hj => ?_⟩⟩
        by_cases e : j = 2 * k + 1
        · subst e
          rw [show o + (2 * k + 1) = o + k * 2 + 1 by omega]
          refine (World.cell?_setCell_same _ _ _ ((World.cell?_setCell_other _ _ _ _ (by intro e; injection e; omega)).trans x1)).trans ?_
          congr 2; omega
        · rw [World.cell?_setCell_other _ _ _ _ (by intro e2; injection e2; omega)]
          by_cases e2 : j = 2 * k
          · subst e2
            rw [show o + 2 * k = o + k * 2 by omega]
            refine (World.cell?_setCell_same _ _ _ x0).trans ?_
            congr 2 <;> omega
          · rw [World.cell?_setCell_other _ _ _ _ (by intro e2; injection e2; omega)]
            exact H.out.2.2 j (by omega)
      case measure => simp [intOf]; omega
    · obtain rfl : k = len := by omega
      go_wp2
      go_ret
      exact ⟨rfl, H⟩

theorem SgAt.turn {w w' : World} {lo g off : Nat} {bb oo : Nat → Nat} {n : Nat} {ln : Nat → Nat} (h : SgAt w lo g off bb oo n ln) {k : Nat} (hk : k < n) (ht : TurnJ w w' (bb k) (oo k) (2 * ln k))
    (hv : ∀ j, j < 2 * ln k → w'.cell? ⟨bb k, oo k + j, none⟩ = some (.int .i64 (1 + (cumJ ln k : Int) + (j : Int)))) (hm : MkdJ w bb oo ln k) : SgAt w' lo g off bb oo n ln ∧ MkdJ w' bb oo ln (k + 1) := by
  have far : ∀ i j, i < n → i ≠ k → 0 < ln i → w'.cell? ⟨bb i, oo i + j, none⟩ = w.cell? ⟨bb i, oo i + j, none⟩ := fun i j hi e h0 => by
    refine ht.cell _ fun ⟨a, b, c⟩ => ?_
    simp only at a b c
    exact h.apart i k hi hk e h0 (by omega) a
  refine ⟨⟨h.glo, by rw [ht.size]; exact h.gz, fun i hi => ?_, fun i hi h0 => by rw [ht.size]; exact h.row i hi h0, fun i j hi hj => ?_, h.apart⟩, fun i j hi hj => ?_⟩
  · obtain ⟨Ai, ci, h1, h2⟩ := h.head i hi
    refine ⟨Ai, ci, (ht.cell ⟨g, off + i, none⟩ fun ⟨a, b, c⟩ => ?_).trans h1, h2⟩
    simp only at a b c
    exact (h.row k hk (by omega)).2.2 a.symm
  · obtain ⟨h1, h2⟩ := h.cell i j hi hj
    refine ⟨?_, (ht.frz _).trans h2⟩
    by_cases e : i = k
    · subst e; exact ⟨_, hv j hj⟩
    · rw [far i j hi e (by omega)]; exact h1
  · by_cases e : i = k
    · subst e; exact hv j hj
    · rw [far i j (by omega) e (by omega)]; exact hm i j (by omega) hj

set_option maxHeartbeats 1000000 in
theorem markSg (g off n cap : Nat) (bb oo ln : Nat → Nat) (lo : Nat) (w : World) (hr : SgAt w lo g off bb oo n ln) (hm : n ≤ 1000000) (ht : cumJ ln n ≤ 1000000) :
    Calls Try.prog 24 #[.slice (some ⟨g, off, none⟩) n cap, .int .i64 1] w fun e w' => e = .returned (.int .i64 (1 + (cumJ ln n : Int))) ∧ Hid (SgAt w' lo g off bb oo n ln ∧ MkdJ w' bb oo ln n ∧ Below lo w w' ∧ w.heap.size ≤ w'.heap.size) := by
  have HT := Lib.hid hr
  have HM := Lib.hid ht
  clear hr ht
  go_enter Try.func24, Try.ntmps24
  go_wp2
  go_loopg [1, 5] n (fun gk s1 ix wr => ∃ k : Nat, k + gk = n ∧ ix = .int .i64 k ∧ s1 = .int .i64 (1 + (cumJ ln k : Int)) ∧ Hid (SgAt wr lo g off bb oo n ln ∧ MkdJ wr bb oo ln k ∧ Below lo w wr ∧ w.heap.size ≤ wr.heap.size))
  case atStart => exact ⟨0, by omega, rfl, by simp [cumJ], Lib.hid ⟨HT.out, fun i j hi => absurd hi (by omega), Below.refl _ _, Nat.le_refl _⟩⟩
  case round =>
    obtain ⟨k, hkg, rfl, rfl, H⟩ := hrel
    cases gk with
    | zero =>
      obtain rfl : k = n := by omega
      clear hkg
      go_wp2
      go_ret
      exact ⟨rfl, H⟩
    | succ gk =>
      have hkn : k < n := by omega
      obtain ⟨Ai, ci, x0, hA⟩ := H.out.1.head k hkn
      have htk := Nat.le_trans (cumJ_row ln hkn) HM.out
      have HMk := Lib.hid (markRowJ Ai (bb k) (oo k) (ln k) ci lo (1 + (cumJ ln k : Int)) wr
        (fun h0 => ⟨hA h0, (H.out.1.row k hkn h0).1, (H.out.1.row k hkn h0).2.1, fun j hj => H.out.1.cell k j hkn hj⟩) (by omega) (by omega) (by omega))
      obtain ⟨len, hlen⟩ : ∃ len, ln k = len := ⟨_, rfl⟩
      have HLn := Lib.hid hlen
      rw [hlen] at x0 HMk htk
      obtain ⟨T, hT⟩ : ∃ T, cumJ ln k = T := ⟨_, rfl⟩
      have HTk := Lib.hid hT
      rw [hT] at HMk htk ⊢
      have HKG := Lib.hid hkg
      clear hA hlen hT hkg
      go_wp2_with fail
      refine HMk.out.mono ?_
      rintro e w3 ⟨rfl, H3⟩
      have H4 : Hid (SgAt w3 lo g off bb oo n ln ∧ MkdJ w3 bb oo ln (k + 1) ∧ Below lo w w3 ∧ w.heap.size ≤ w3.heap.size) := by
        have hl := HLn.out
        have hh := H.out.1.turn hkn (by rw [hl]; exact H3.out.2.1) (by rw [hl, HTk.out]; exact H3.out.2.2) H.out.2.1
        exact Lib.hid ⟨hh.1, hh.2, H.out.2.2.1.trans H3.out.1, by rw [H3.out.2.1.size]; exact H.out.2.2.2⟩
      have HE : Hid ((1 : Int) + (T : Int) + 2 * (len : Int) = 1 + (cumJ ln (k + 1) : Int)) := Lib.hid (by simp only [cumJ]; rw [HTk.out, HLn.out]; omega)
      clear H H3 x0 HMk
      go_wp2
      go_roundg gk
      case measure => omega
      case rel => exact ⟨k + 1, by have := HKG.out; omega, by go_num, by rw [HE.out], H4⟩

/-- Marked rows, as they are looked at. -/
def MkRdJ (w : World) (A : Option Addr) (n : Nat) (ln : Nat → Nat) : Prop := ∃ g off, A = some ⟨g, off, none⟩ ∧ g < w.heap.size ∧ ∀ i, i < n → ∃ Ai ci, w.cell? ⟨g, off + i, none⟩ = some (.slice Ai (ln i) ci) ∧ AngRow w w.heap.size Ai (marks (1 + (cumJ ln i : Int)) (ln i))
theorem SgAt.look {w : World} {lo g off : Nat} {bb oo : Nat → Nat} {n : Nat} {ln : Nat → Nat} (h : SgAt w lo g off bb oo n ln) (hm : MkdJ w bb oo ln n) : MkRdJ w (some ⟨g, off, none⟩) n ln := by
  refine ⟨g, off, rfl, h.gz, fun i hi => ?_⟩
  obtain ⟨Ai, ci, h1, h2⟩ := h.head i hi
  refine ⟨Ai, ci, h1, fun hne => ?_⟩
  have h0 : 0 < ln i := by
    rcases Nat.eq_zero_or_pos (ln i) with e | e
    · rw [e] at hne; exact absurd rfl hne
    · exact e
  refine ⟨bb i, oo i, h2 h0, (h.row i hi h0).2.1, fun j x y hj => ?_⟩
  have hjl : j < ln i := by
    rcases Nat.lt_or_ge j (ln i) with e | e
    · exact e
    · rw [List.getElem?_eq_none (by rw [marks_len]; exact e)] at hj; cases hj
  rw [marks_at hjl] at hj
  injection hj with hj
  injection hj with e1 e2
  have c0 := hm i (2 * j) hi (by omega)
  have c1 := hm i (2 * j + 1) hi (by omega)
  rw [show oo i + 2 * j = oo i + j * 2 by omega] at c0
  rw [show oo i + (2 * j + 1) = oo i + j * 2 + 1 by omega] at c1
  refine ⟨c0.trans ?_, c1.trans ?_⟩
  · rw [← e1]; congr 2 <;> omega
  · rw [← e2]; congr 2 <;> omega
theorem MkRdJ.next {w w' : World} {A : Option Addr} {n : Nat} {ln : Nat → Nat} (h : MkRdJ w A n ln) (hb : Below w.heap.size w w') : MkRdJ w' A n ln := by
  obtain ⟨g, off, e, hg, hc⟩ := h
  refine ⟨g, off, e, Nat.lt_of_lt_of_le hg hb.size, fun i hi => ?_⟩
  obtain ⟨Ai, ci, h1, h2⟩ := hc i hi
  exact ⟨Ai, ci, (hb.cell (p := ⟨g, off + i, none⟩) hg).trans h1, h2.next hb⟩

set_option maxHeartbeats 1000000 in
theorem heldSg (A : Option Addr) (n cap : Nat) (ln : Nat → Nat) (w : World) (hr : 0 < n → MkRdJ w A n ln) (hm : n ≤ 1000000) (ht : cumJ ln n ≤ 1000000) :
    Calls Try.prog 25 #[.slice A n cap, .int .i64 1] w fun e w' => e = .returned (.int .i64 (1 + (cumJ ln n : Int))) ∧ w = w' := by
  have HR := Lib.hid hr
  have HM := Lib.hid ht
  clear hr ht
  go_enter Try.func25, Try.ntmps25
  go_wp2
  go_loopg [1, 5] n (fun gk s1 ix wr => ∃ k : Nat, k + gk = n ∧ ix = .int .i64 k ∧ s1 = .int .i64 (1 + (cumJ ln k : Int)) ∧ w = wr)
  case atStart => exact ⟨0, by omega, rfl, by simp [cumJ], rfl⟩
  case round =>
    obtain ⟨k, hkg, rfl, rfl, rfl⟩ := hrel
    cases gk with
    | zero =>
      obtain rfl : k = n := by omega
      clear hkg
      go_wp2
      go_ret
      exact ⟨rfl, rfl⟩
    | succ gk =>
      have hkn : k < n := by omega
      obtain ⟨g, off, rfl, hg, hc⟩ := HR.out (by omega)
      obtain ⟨Ai, ci, x0, hrow⟩ := hc k hkn
      have htk := Nat.le_trans (cumJ_row ln hkn) HM.out
      have HMk := Lib.hid (heldAng Ai (ln k) ci (1 + (cumJ ln k : Int)) w hrow (by omega) (by omega) (by omega))
      obtain ⟨len, hlen⟩ : ∃ len, ln k = len := ⟨_, rfl⟩
      have HLn := Lib.hid hlen
      rw [hlen] at x0 HMk htk
      obtain ⟨T, hT⟩ : ∃ T, cumJ ln k = T := ⟨_, rfl⟩
      have HTk := Lib.hid hT
      rw [hT] at HMk htk ⊢
      have HKG := Lib.hid hkg
      have nn : (1 + (T : Int) + 2 * (len : Int) < 0) = False := by simp; omega
      clear hc hrow hlen hT hkg
      go_wp2_with fail
      refine HMk.out.mono ?_
      rintro e w3 ⟨rfl, rfl⟩
      have HE : Hid ((1 : Int) + (T : Int) + 2 * (len : Int) = 1 + (cumJ ln (k + 1) : Int)) := Lib.hid (by simp only [cumJ]; rw [HTk.out, HLn.out]; omega)
      clear x0 HMk
      go_wp2
      go_roundg gk
      case measure => omega
      case rel => exact ⟨k + 1, by have := HKG.out; omega, by go_num, by rw [HE.out], rfl⟩
end Go.Proofs.Ytdmppdfncbljoaa

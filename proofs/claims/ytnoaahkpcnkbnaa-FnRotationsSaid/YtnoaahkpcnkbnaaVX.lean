/-
  Rows of leaves that a call holds: their cells, appends, what turns beside them.
  Plain mathematics: a leaf put in its place among leaves in order. No program in sight.
  Contracts: a leaf put in its place among leaves in order, as the model does it.
  Contracts: leaves in order searched for the place of one, by halving.
  Contracts: slices.Grow, slices.Concat and slices.Clone at lists of leaves.
  Contracts: a leaf added to a lamination, as the program does it.
-/
import Derived.Test.YtnoaahkpcnkbnaaV9
import Derived.Deep.LoopGhost
import Derived.Deep.AppendLies
import Derived.Maps.AppendAt
import Derived.WalkMore
import Derived.Test.YtnoaahkpcnkbnaaVL
import Derived.Test.YtnoaahkpcnkbnaaV13
import Derived.Test.YtnoaahkpcnkbnaaV17
import Derived.Still
import Derived.StillTactics
import Derived.StillTailTactics
import Derived.Lib.AppendZeros
import Derived.Lib.AppendZerosOnto
import Derived.Laws.OwnMore
import Derived.Test.YtnoaahkpcnkbnaaV24
import Derived.Test.YtnoaahkpcnkbnaaV11
namespace Go.Proofs.Ytnoaahkpcnkbnaa
open Go.RowKit

/-- The cells of a list of pairs. -/
def flatL : List Lf4 → List Value
  | [] => []
  | p :: l => .int .i64 p.1 :: .int .i64 p.2.1 :: .int .i64 p.2.2.1 :: .int .i64 p.2.2.2 :: flatL l
theorem flatL_app : ∀ (l m : List Lf4), flatL (l ++ m) = flatL l ++ flatL m
  | [], m => rfl
  | p :: l, m => by simp [flatL, flatL_app l m]
theorem flatL_len : ∀ l : List Lf4, (flatL l).length = l.length * 4
  | [] => rfl
  | p :: l => by simp [flatL, flatL_len l]; omega
theorem flatL_at : ∀ {l : List Lf4} {i : Nat} {a b c d : Int}, l[i]? = some (a, b, c, d) → (flatL l)[i * 4]? = some (.int .i64 a) ∧ (flatL l)[i * 4 + 1]? = some (.int .i64 b) ∧ (flatL l)[i * 4 + 2]? = some (.int .i64 c) ∧ (flatL l)[i * 4 + 3]? = some (.int .i64 d)
  | [], i, a, b, c, d, h => by simp at h
  | p :: l, 0, a, b, c, d, h => by simp at h; subst h; simp [flatL]
  | p :: l, i + 1, a, b, c, d, h => by
    simp at h
    obtain ⟨h1, h2, h3, h4⟩ := flatL_at h
    have e1 : (i + 1) * 4 = i * 4 + 1 + 1 + 1 + 1 := by omega
    rw [e1]
    simp only [flatL, List.getElem?_cons_succ]
    exact ⟨h1, h2, h3, h4⟩
theorem flatL_take : ∀ (l : List Lf4) (k : Nat), flatL (l.take k) = (flatL l).take (k * 4)
  | [], k => by simp [flatL]
  | p :: l, 0 => by simp [flatL]
  | p :: l, k + 1 => by
    rw [List.take_succ_cons, show (k + 1) * 4 = k * 4 + 1 + 1 + 1 + 1 by omega]
    simp only [flatL, List.take_succ_cons, flatL_take l k]
theorem flatL_drop : ∀ (l : List Lf4) (k : Nat), flatL (l.drop k) = (flatL l).drop (k * 4)
  | [], k => by simp [flatL]
  | p :: l, 0 => by simp
  | p :: l, k + 1 => by
    rw [List.drop_succ_cons, show (k + 1) * 4 = k * 4 + 1 + 1 + 1 + 1 by omega]
    simp only [flatL, List.drop_succ_cons, flatL_drop l k]
theorem flatL_one : ∀ (l : List Lf4), ∀ u ∈ flatL l, u.oneCell' = true
  | [], u, h => by simp [flatL] at h
  | p :: l, u, h => by
    simp only [flatL, List.mem_cons] at h
    rcases h with rfl | rfl | rfl | rfl | h
    · rfl
    · rfl
    · rfl
    · rfl
    · exact flatL_one l u h
/-- A row that turns elsewhere is as it was. -/
theorem ownTurnL {w w1 : World} {row : Option Nat} {lo : Nat} {e : TypeId} {k : Nat} {v : Value} {n : Nat} {xs : List Value} (h : w.ownsRow lo e k v n xs) (hg : w.grownBy w1 row) (hr : ∀ j, row = some j → j < lo) : w1.ownsRow lo e k v n xs := by
  obtain ⟨hx, h2⟩ := h
  rcases h2 with h3 | ⟨g, cap, cur, e1, hlo, hc, hrest⟩
  · exact ⟨hx, .inl h3⟩
  · have hlt : g < w.heap.size := (Array.getElem?_eq_some_iff.1 hc).1
    exact ⟨hx, .inr ⟨g, cap, cur, e1, hlo, (hg.block g hlt (fun e2 => by have := hr g e2.symm; omega)).trans hc, hrest⟩⟩
theorem own_blockL {w : World} {lo : Nat} {e : TypeId} {k : Nat} {v : Value} {n : Nat} {xs : List Value} (h : w.ownsRow lo e k v n xs) : ∀ j, v.ownBlock = some j → lo ≤ j := by
  intro j e1
  rcases h.2 with ⟨hv, _⟩ | ⟨g0, c0, cur, hv, hlo, _⟩
  · rw [hv] at e1; simp [Value.ownBlock] at e1
  · rw [hv] at e1; simp [Value.ownBlock] at e1; omega
theorem ownMonoL {w : World} {lo lo' : Nat} {e : TypeId} {k : Nat} {v : Value} {n : Nat} {xs : List Value} (h : w.ownsRow lo e k v n xs) (hl : lo' ≤ lo) : w.ownsRow lo' e k v n xs := by
  obtain ⟨hx, h2⟩ := h
  rcases h2 with h3 | ⟨g, cap, cur, e1, hlo, hrest⟩
  · exact ⟨hx, .inl h3⟩
  · exact ⟨hx, .inr ⟨g, cap, cur, e1, Nat.le_trans hl hlo, hrest⟩⟩
theorem own_noneL {w : World} {lo : Nat} {e : TypeId} {k : Nat} : w.ownsRow lo e k (.slice none 0 0) 0 [] := ⟨by simp, .inl ⟨rfl, rfl⟩⟩
/-- A row that turns is another one. -/
theorem ownFarL {w w1 : World} {row : Option Nat} {lo : Nat} {e : TypeId} {k : Nat} {v : Value} {n : Nat} {xs : List Value} (h : w.ownsRow lo e k v n xs) (hg : w.grownBy w1 row) (hr : ∀ j, row = some j → v.ownBlock ≠ some j) : w1.ownsRow lo e k v n xs := by
  obtain ⟨hx, h2⟩ := h
  rcases h2 with h3 | ⟨g, cap, cur, e1, hlo, hc, hrest⟩
  · exact ⟨hx, .inl h3⟩
  · have hlt : g < w.heap.size := (Array.getElem?_eq_some_iff.1 hc).1
    exact ⟨hx, .inr ⟨g, cap, cur, e1, hlo, (hg.block g hlt (fun e2 => hr g e2.symm (by rw [e1]; rfl))).trans hc, hrest⟩⟩
theorem own_ltL {w : World} {lo : Nat} {e : TypeId} {k : Nat} {v : Value} {n : Nat} {xs : List Value} (h : w.ownsRow lo e k v n xs) : ∀ j, v.ownBlock = some j → j < w.heap.size := by
  intro j e1
  rcases h.2 with ⟨hv, _⟩ | ⟨g0, c0, cur, hv, hlo, hc, _⟩
  · rw [hv] at e1; simp [Value.ownBlock] at e1
  · rw [hv] at e1
    simp [Value.ownBlock] at e1
    subst e1
    exact (Array.getElem?_eq_some_iff.1 hc).1
/-- Cells to be appended, read out of a row that is held. -/
theorem news_of_rowL {w : World} {lo g n cap : Nat} {e : TypeId} {xs : List Value} (h : w.ownsRow lo e 4 (.slice (some ⟨g, 0, none⟩) n cap) n xs) (o : Nat) (news : List Value) (hn : ∀ i u, news[i]? = some u → xs[o + i]? = some u) :
    ∀ i u, news[i]? = some u → w.cell? ((⟨g, o, none⟩ : Addr).add i) = some u := by
  intro i u hu
  have hadd : (⟨g, o, none⟩ : Addr).add i = ⟨g, o + i, none⟩ := by unfold Addr.add; split <;> simp_all
  have hx := hn i u hu
  have hl := (List.getElem?_eq_some_iff.1 hx).1
  rw [h.1] at hl
  rw [hadd]
  exact (h.cellAt (o + i) hl).trans hx
/-- An append at a step of a region that draws its order; nothing may be appended. -/
theorem step_append_atL {P : Program} (w : World) {ops : Array Oper} {o : Oper} {a : Act} {K : Act → World → Prop} {Q : Exit → Act → World → Prop} {E : Prop} (hgd : o.guard = none) (s x : Operand) (t : TypeId)
    (ho : o.op = .call { callee := .builtin .append, args := #[s, x], argTypes := #[t, t] })
    (base : Nat) (e : TypeId) (i : TypeInfo) (z : Value) (size bytes : Nat) (ht : P.underlying t = some (.slice e)) (hi : P.info? e = some i) (hz : i.zero = some z)
    (hsize : i.size = size) (hby : i.bytes = bytes) (hzs : z.cells.size = size) (hsz : 0 < size)
    (v : Value) (n : Nat) (xs : List Value) (hs : a.eval s = v) (hown : w.ownsRow base e size v n xs)
    (ad : Addr) (m c : Nat) (news : List Value) (hx : a.eval x = .slice (some ad) m c) (hl : news.length = m * size) (hnews : ∀ j u, news[j]? = some u → w.cell? (ad.add j) = some u) (h1 : ∀ u ∈ news, u.oneCell' = true)
    (h63 : n + m ≤ maxLen) (hbytes : (n + m) * bytes ≤ 140737488355328) (hbase : base ≤ w.heap.size)
    (h : ∀ v' w', w'.ownsRow base e size v' (n + m) (xs ++ news) → w.grownBy w' v.ownBlock → K (a.put o.dst v') w') :
    if Region.wanted o (yielded ops a.tmps) = true then Oper.wp P o a w K Q else E := by
  obtain ⟨v', w', hr, h2, h3, _, _⟩ := run_append_own_at (P := P) w base t o.type e i z size bytes ht hi hz hsize hby hzs hsz v n xs hown ad m c news hl hnews h1 h63 hbytes hbase
  have hw : Region.wanted o (yielded ops a.tmps) = true := by simp [Region.wanted, hgd]
  rw [if_pos hw]
  unfold Oper.wp execOp
  simp only [ho, resolve, invoke, builtin, Sem.run_bind, Sem.run_pure, Result.andThen_ok, List.map_toArray, List.map_cons, List.map_nil, hs, hx, hr]
  exact h v' w' h2 h3
/-- What the condition of the inner loop tells. -/
theorem belowGL {W W1 : World} (hb : Below W.heap.size W W1) : W.grownBy W1 none := ⟨hb.os, hb.tape, hb.output, hb.size, fun i hi _ => hb.block i hi⟩
theorem cellGL {W W' : World} {row : Option Nat} (hg : W.grownBy W' row) {b o : Nat} {v : Value} (hlt : b < W.heap.size) (hne : some b ≠ row) (hc : W.cell? ⟨b, o, none⟩ = some v) : W'.cell? ⟨b, o, none⟩ = some v :=
  (World.cell?_of_block (hg.block b hlt hne)).trans hc
theorem cell_four_newL (w : World) (a b c d : Value) (t : TypeId) : ∀ j u, [a, b, c, d][j]? = some u → (w.alloc (.cells #[a, b, c, d] t)).cell? ((⟨w.heap.size, 0, none⟩ : Addr).add j) = some u := by
  intro j u hj
  match j, hj with
  | 0, hj => simp at hj; subst hj; simp [Addr.add]
  | 1, hj => simp at hj; subst hj; simp [Addr.add]
  | 2, hj => simp at hj; subst hj; simp [Addr.add]
  | 3, hj => simp at hj; subst hj; simp [Addr.add]

/-- How many leaves at the head of a list are lesser. -/
def lessNL (out : List Lf4) (p : Lf4) : Nat := out.findIdx fun q => !lessX q p
/-- A leaf put in its place, if it is new. -/
def insL (out : List Lf4) (p : Lf4) : List Lf4 := if out[lessNL out p]? = some p then out else out.take (lessNL out p) ++ p :: out.drop (lessNL out p)
theorem insL_old {out : List Lf4} {p : Lf4} (h : out[lessNL out p]? = some p) : insL out p = out := by unfold insL; rw [if_pos h]
theorem insL_new {out : List Lf4} {p : Lf4} (h : ¬ out[lessNL out p]? = some p) : insL out p = out.take (lessNL out p) ++ p :: out.drop (lessNL out p) := by unfold insL; rw [if_neg h]
theorem insL_len {out : List Lf4} {p : Lf4} (h : ¬ out[lessNL out p]? = some p) : (insL out p).length = out.length + 1 := by
  rw [insL_new h]
  have : lessNL out p ≤ out.length := List.findIdx_le_length
  simp only [List.length_append, List.length_cons, List.length_take, List.length_drop]
  omega
theorem lessNL_le (out : List Lf4) (p : Lf4) : lessNL out p ≤ out.length := List.findIdx_le_length
theorem lessNL_lt {out : List Lf4} {p : Lf4} {j : Nat} (h : j < lessNL out p) {q : Lf4} (hq : out[j]? = some q) : lessX q p = true := by
  obtain ⟨hj, rfl⟩ := List.getElem?_eq_some_iff.1 hq
  have := List.not_of_lt_findIdx h
  simpa using this
theorem lessNL_at {out : List Lf4} {p : Lf4} {q : Lf4} (hq : out[lessNL out p]? = some q) : lessX q p = false := by
  obtain ⟨hj, rfl⟩ := List.getElem?_eq_some_iff.1 hq
  have := List.findIdx_getElem (xs := out) (p := fun q => !lessX q p) (w := hj)
  have h2 : (!lessX out[lessNL out p] p) = true := this
  cases h3 : lessX out[lessNL out p] p
  · rfl
  · rw [h3] at h2; cases h2
theorem lessNL_stop {out : List Lf4} {p : Lf4} {k : Nat} (hk : k < out.length) (h : ∀ j, j < k → ∀ q, out[j]? = some q → lessX q p = true) {q : Lf4} (hq : out[k]? = some q) (hn : lessX q p = false) : lessNL out p = k := by
  rcases Nat.lt_trichotomy (lessNL out p) k with h1 | h1 | h1
  · have hl : lessNL out p < out.length := by omega
    have e := List.getElem?_eq_getElem hl
    have a := h _ h1 _ e
    have b := lessNL_at e
    rw [a] at b; cases b
  · exact h1
  · have := lessNL_lt h1 hq
    rw [this] at hn; cases hn
theorem lessNL_end {out : List Lf4} {p : Lf4} (h : ∀ j, j < out.length → ∀ q, out[j]? = some q → lessX q p = true) : lessNL out p = out.length := by
  rcases Nat.lt_or_ge (lessNL out p) out.length with h1 | h1
  · have e := List.getElem?_eq_getElem h1
    have a := h _ h1 _ e
    have b := lessNL_at e
    rw [a] at b; cases b
  · have := lessNL_le out p; omega
theorem ltA_trL {a b c d e f : Int} (hb : 0 < b) (hd : 0 < d) (hf : 0 < f) (h1 : ltA a b c d = true) (h2 : ltA c d e f = true) : ltA a b e f = true := by
  unfold ltA at *
  have h1 := of_decide_eq_true h1
  have h2 := of_decide_eq_true h2
  refine decide_eq_true (Int.lt_of_mul_lt_mul_right (a := d) ?_ (by omega))
  have p1 := Int.mul_lt_mul_of_pos_right h1 hf
  have p2 := Int.mul_lt_mul_of_pos_right h2 hb
  have e1 : a * d * f = a * f * d := by rw [Int.mul_assoc, Int.mul_comm d f, ← Int.mul_assoc]
  have e2 : c * b * f = c * f * b := by rw [Int.mul_assoc, Int.mul_comm b f, ← Int.mul_assoc]
  have e3 : e * d * b = e * b * d := by rw [Int.mul_assoc, Int.mul_comm d b, ← Int.mul_assoc]
  omega
/-- What is asked of the angles of a leaf here: Dens above 0. -/
def posX (x : Lf4) : Prop := 0 < x.2.1 ∧ 0 < x.2.2.2
theorem lf_pos {x : Lf4} (h : isLf x.1 x.2.1 x.2.2.1 x.2.2.2 = true) : posX x := by
  obtain ⟨⟨h1, _⟩, ⟨h2, _⟩, _⟩ := isLf_yes h
  exact ⟨by dsimp only at h1; omega, by dsimp only at h2; omega⟩
theorem lessX_tr {x y z : Lf4} (hx : posX x) (hy : posX y) (hz : posX z) (h1 : lessX x y = true) (h2 : lessX y z = true) : lessX x z = true := by
  obtain ⟨a, b, c, d⟩ := x
  obtain ⟨e, f, g, h⟩ := y
  obtain ⟨i, j, k, l⟩ := z
  unfold posX at hx hy hz
  unfold lessX at *
  dsimp only at *
  cases q1 : eqA a b e f <;> cases q2 : eqA e f i j
  · rw [q1] at h1
    rw [q2] at h2
    have t := ltA_trL hx.1 hy.1 hz.1 h1 h2
    have := lt_ne t
    rw [eqA_comm] at this
    rw [this]
    exact t
  · rw [q1] at h1
    obtain ⟨rfl, rfl⟩ := (eqA_iff _ _ _ _).1 q2
    rw [q1]
    exact h1
  · rw [q2] at h2
    obtain ⟨rfl, rfl⟩ := (eqA_iff _ _ _ _).1 q1
    rw [q2]
    exact h2
  · rw [q1] at h1
    rw [q2] at h2
    obtain ⟨rfl, rfl⟩ := (eqA_iff _ _ _ _).1 q1
    rw [q2]
    exact ltA_trL hx.2 hy.2 hz.2 h1 h2
theorem lessX_self (x : Lf4) : lessX x x = false := by
  unfold lessX
  rw [(eqA_iff _ _ _ _).2 ⟨rfl, rfl⟩]
  exact ltA_self _ _
theorem allLf_pos {l : List Lf4} (h : allLf l = true) {k : Nat} {x : Lf4} (hx : l[k]? = some x) : posX x := lf_pos (allLf_at h (n := x.1) (d := x.2.1) (m := x.2.2.1) (c := x.2.2.2) hx)
/-- Leaves in order: each is behind all that come before it. -/
theorem asc_all {l : List Lf4} (h : Asc l) (ha : allLf l = true) : ∀ (i j : Nat) (x y : Lf4), i < j → l[i]? = some x → l[j]? = some y → lessX x y = true
  | i, 0, _, _, hij, _, _ => absurd hij (by omega)
  | i, j + 1, x, y, hij, hx, hy => by
    have hj : j < l.length := by
      have := (List.getElem?_eq_some_iff.1 hy).1; omega
    have ez := List.getElem?_eq_getElem hj
    generalize l[j] = z at *
    have hzy := h j z y ez hy
    by_cases e : i = j
    · subst e
      rw [hx] at ez
      injection ez with ez
      rw [ez]; exact hzy
    · exact lessX_tr (allLf_pos ha hx) (allLf_pos ha ez) (allLf_pos ha hy) (asc_all h ha i j x z (by omega) hx ez) hzy
/-- What is lesser stands at the head. -/
theorem head_less {l : List Lf4} (h : Asc l) (ha : allLf l = true) {p : Lf4} (hp : posX p) {k : Nat} {x : Lf4} (hx : l[k]? = some x) (hl : lessX x p = true) : ∀ j, j ≤ k → ∀ y, l[j]? = some y → lessX y p = true := by
  intro j hj y hy
  by_cases e : j = k
  · subst e
    rw [hx] at hy
    injection hy with hy
    rw [← hy]; exact hl
  · exact lessX_tr (allLf_pos ha hy) (allLf_pos ha hx) hp (asc_all h ha j k y x (by omega) hy hx) hl
theorem tail_not {l : List Lf4} (h : Asc l) (ha : allLf l = true) {p : Lf4} (hp : posX p) {k : Nat} {x : Lf4} (hx : l[k]? = some x) (hl : lessX x p = false) : ∀ j, k ≤ j → ∀ y, l[j]? = some y → lessX y p = false := by
  intro j hj y hy
  cases hq : lessX y p
  · rfl
  · have := head_less h ha hp hy hq k hj x hx
    rw [this] at hl; cases hl
/-- A leaf of the list stands in its place. -/
theorem in_place {l : List Lf4} (h : Asc l) (ha : allLf l = true) {k : Nat} {p : Lf4} (hp : l[k]? = some p) : lessNL l p = k :=
  lessNL_stop (List.getElem?_eq_some_iff.1 hp).1 (fun j hj q hq => asc_all h ha j k q p hj hq hp) hp (lessX_self p)
theorem mem_place {l : List Lf4} (h : Asc l) (ha : allLf l = true) {p : Lf4} (hp : p ∈ l) : l[lessNL l p]? = some p := by
  obtain ⟨k, hk, e⟩ := List.getElem_of_mem hp
  have e2 : l[k]? = some p := by rw [List.getElem?_eq_getElem hk, e]
  rw [in_place h ha e2]; exact e2

theorem lf_low {a b c d : Int} (h : isLf a b c d = true) : angOk a b := by
  obtain ⟨h1, h2, h3, h4, _⟩ := (isLf_yes h).1
  exact ⟨h1, h2, h3, h4⟩
theorem lf_up {a b c d : Int} (h : isLf a b c d = true) : angOk c d := by
  obtain ⟨h1, h2, h3, h4, _⟩ := (isLf_yes h).2.1
  exact ⟨h1, h2, h3, h4⟩
theorem ownsCapL {W : World} {e : TypeId} {size : Nat} {A : Option Addr} {n cap : Nat} {xs : List Value} {lo : Nat} (h : W.ownsRow lo e size (.slice A n cap) n xs) : n ≤ cap := by
  rcases h.2 with ⟨a, b⟩ | ⟨g, cap', cur, a, _, _, b, _⟩
  · omega
  · injection a with _ _ hc; omega
theorem eqL_iff4 (a b c d e f g h : Int) : eqL a b c d e f g h = true ↔ (a, b, c, d) = (e, f, g, h) := by
  rw [eqL_iff]; simp
theorem infoL_parts {t : TypeId} {z : Value} {s b : Nat} (h : (Try.prog.info? t).map (fun i => (i.zero, i.size, i.bytes)) = some (some z, s, b)) : ∃ i, Try.prog.info? t = some i ∧ i.zero = some z ∧ i.size = s ∧ i.bytes = b := by
  cases hi : Try.prog.info? t with
  | none => rw [hi] at h; cases h
  | some i =>
    rw [hi] at h
    simp only [Option.map_some, Option.some.injEq, Prod.mk.injEq] at h
    exact ⟨i, rfl, h.1, h.2.1, h.2.2⟩
/-- What the condition of the loop tells, and what the look at the place. -/
def StopResL (w1 : World) (O : List Lf4) (p : Lf4) (j : Nat) (v : Value) (W : World) : Prop := ∃ t : Bool, v = .bool t ∧ Hid ((t = true → ∃ q, O[j]? = some q ∧ lessX q p = true) ∧ (t = false → lessNL O p = j)) ∧ Below w1.heap.size w1 W
def EqResL (w1 : World) (O : List Lf4) (p : Lf4) (j : Nat) (v : Value) (W : World) : Prop := ∃ t : Bool, v = .bool t ∧ Hid (t = true ↔ O[j]? = some p) ∧ Below w1.heap.size w1 W

theorem lf_lowB {a b c d : Int} (h : isLf a b c d = true) : angOk a b := by
  obtain ⟨h1, h2, h3, h4, _⟩ := (isLf_yes h).1
  exact ⟨h1, h2, h3, h4⟩
theorem lf_upB {a b c d : Int} (h : isLf a b c d = true) : angOk c d := by
  obtain ⟨h1, h2, h3, h4, _⟩ := (isLf_yes h).2.1
  exact ⟨h1, h2, h3, h4⟩
theorem cmpL_eq {a b c d e f g h : Int} (hx : isLf a b c d = true) (hy : isLf e f g h = true) : cmpL a b c d e f g h = 0 ↔ (a, b, c, d) = (e, f, g, h) := by
  obtain ⟨r1, r2, -⟩ := isLf_yes hx
  obtain ⟨r3, r4, -⟩ := isLf_yes hy
  constructor
  · intro h0
    unfold cmpL at h0
    split at h0
    · next h1 =>
      have e1 := redEq r1 r3 (cmpI_zero h1)
      have e2 := redEq r2 r4 (cmpI_zero h0)
      simp only [Prod.mk.injEq] at e1 e2 ⊢
      exact ⟨e1.1, e1.2, e2.1, e2.2⟩
    · next h1 => exact absurd h0 h1
  · intro h0
    simp only [Prod.mk.injEq] at h0
    obtain ⟨rfl, rfl, rfl, rfl⟩ := h0
    unfold cmpL
    rw [cmpI_same, cmpI_same]
    rfl

theorem ownSliceL {W : World} {e : TypeId} {size : Nat} {v : Value} {n : Nat} {xs : List Value} {lo : Nat} (h : W.ownsRow lo e size v n xs) : ∃ A cap, v = .slice A n cap := by
  rcases h.2 with ⟨a, b⟩ | ⟨g, cap, cur, a, _⟩
  · exact ⟨none, 0, by rw [a, b]⟩
  · exact ⟨_, cap, a⟩
theorem news_of_lf {w : World} {b : Nat} : ∀ (l : List Lf4) (off : Nat), (∀ i n d m c, l[i]? = some (n, d, m, c) → w.cell? ⟨b, off + i * 4, none⟩ = some (.int .i64 n) ∧ w.cell? ⟨b, off + i * 4 + 1, none⟩ = some (.int .i64 d) ∧ w.cell? ⟨b, off + i * 4 + 2, none⟩ = some (.int .i64 m) ∧ w.cell? ⟨b, off + i * 4 + 3, none⟩ = some (.int .i64 c)) →
    ∀ j u, (flatL l)[j]? = some u → w.cell? ⟨b, off + j, none⟩ = some u
  | [], _, _, j, u, h => by simp [flatL] at h
  | (p1, p2, p3, p4) :: l, off, hc, j, u, h => by
    obtain ⟨h0, h1, h2, h3⟩ := hc 0 p1 p2 p3 p4 rfl
    match j, h with
    | 0, h => simp [flatL] at h; subst h; simpa using h0
    | 1, h => simp [flatL] at h; subst h; simpa using h1
    | 2, h => simp [flatL] at h; subst h; simpa using h2
    | 3, h => simp [flatL] at h; subst h; simpa using h3
    | j + 4, h =>
      have := news_of_lf l (off + 4) (fun i n d m c hi => by
        have := hc (i + 1) n d m c (by simpa using hi)
        rw [show off + (i + 1) * 4 = off + 4 + i * 4 by omega] at this
        exact this) j u (by simpa [flatL] using h)
      rw [show off + (j + 4) = off + 4 + j by omega]
      exact this
theorem news_of_row4 {w : World} {A : Option Addr} {B : Nat} {l : List Lf4} (hr : LfRow w B A l) {a : Addr} (ha : A = some a) : ∀ j u, (flatL l)[j]? = some u → w.cell? (a.add j) = some u := by
  intro j u h
  have hne : l ≠ [] := by intro e; rw [e] at h; simp [flatL] at h
  obtain ⟨b, off, e, _, hc⟩ := hr hne
  rw [ha] at e
  injection e with e
  subst e
  have hadd : (⟨b, off, none⟩ : Addr).add j = ⟨b, off + j, none⟩ := by unfold Addr.add; split <;> simp_all
  rw [hadd]
  exact news_of_lf l off hc j u h

/-- A slice that holds the leaves l. -/
def SlOk (w : World) (v : Value) (l : List Lf4) : Prop := ∃ (A : Option Addr) (c : Nat), v = .slice A l.length c ∧ LfRow w w.heap.size A l ∧ (A = none → c = 0)
theorem SlOk.next {w w' : World} {v : Value} {l : List Lf4} (h : SlOk w v l) (hb : Below w.heap.size w w') : SlOk w' v l := by
  obtain ⟨A, c, h1, h2, h3⟩ := h
  exact ⟨A, c, h1, h2.next hb, h3⟩
/-- The first k of some lists, one behind the other. -/
def accL (ls : Nat → List Lf4) : Nat → List Lf4
  | 0 => []
  | k + 1 => accL ls k ++ ls k

/-- A boxed leaf, kept. -/
structure BoxL (w W : World) (a b c d : Int) : Prop where
  B : Below w.heap.size w W
  z : w.heap.size < W.heap.size
  c0 : W.cell? ⟨w.heap.size, 0, none⟩ = some (.int .i64 a)
  c1 : W.cell? ⟨w.heap.size, 1, none⟩ = some (.int .i64 b)
  c2 : W.cell? ⟨w.heap.size, 2, none⟩ = some (.int .i64 c)
  c3 : W.cell? ⟨w.heap.size, 3, none⟩ = some (.int .i64 d)
theorem BoxL.on {w W w1 : World} {a b c d : Int} (H : BoxL w W a b c d) (hb : Below W.heap.size W w1) : BoxL w w1 a b c d :=
  ⟨belowNext H.B hb, Nat.lt_of_lt_of_le H.z hb.size, cellThru hb H.z H.c0, cellThru hb H.z H.c1, cellThru hb H.z H.c2, cellThru hb H.z H.c3⟩
/-- What AddLeaf answers: R and C. -/
def AddIs (l : List Lf4) (p1 p2 p3 p4 : Int) (R : List Lf4) (C : Int) : Prop :=
  (¬ (Lam l ∧ isLf p1 p2 p3 p4 = true) ∧ R = [] ∧ C = 1) ∨
  ((Lam l ∧ isLf p1 p2 p3 p4 = true) ∧ l[lessNL l (p1, p2, p3, p4)]? = some (p1, p2, p3, p4) ∧ R = l ∧ C = 0) ∨
  ((Lam l ∧ isLf p1 p2 p3 p4 = true) ∧ ¬ l[lessNL l (p1, p2, p3, p4)]? = some (p1, p2, p3, p4) ∧ CrossOne (p1, p2, p3, p4) l ∧ R = [] ∧ C = 5) ∨
  ((Lam l ∧ isLf p1 p2 p3 p4 = true) ∧ ¬ l[lessNL l (p1, p2, p3, p4)]? = some (p1, p2, p3, p4) ∧ ¬ CrossOne (p1, p2, p3, p4) l ∧ l.length = 200 ∧ R = [] ∧ C = 3) ∨
  ((Lam l ∧ isLf p1 p2 p3 p4 = true) ∧ ¬ l[lessNL l (p1, p2, p3, p4)]? = some (p1, p2, p3, p4) ∧ ¬ CrossOne (p1, p2, p3, p4) l ∧ l.length < 200 ∧ R = insL l (p1, p2, p3, p4) ∧ C = 0)
theorem addIs_ex (l : List Lf4) (p1 p2 p3 p4 : Int) : ∃ R C, AddIs l p1 p2 p3 p4 R C := by
  by_cases h1 : Lam l ∧ isLf p1 p2 p3 p4 = true
  · by_cases h2 : l[lessNL l (p1, p2, p3, p4)]? = some (p1, p2, p3, p4)
    · exact ⟨_, _, .inr (.inl ⟨h1, h2, rfl, rfl⟩)⟩
    · by_cases h3 : CrossOne (p1, p2, p3, p4) l
      · exact ⟨_, _, .inr (.inr (.inl ⟨h1, h2, h3, rfl, rfl⟩))⟩
      · by_cases h4 : l.length = 200
        · exact ⟨_, _, .inr (.inr (.inr (.inl ⟨h1, h2, h3, h4, rfl, rfl⟩)))⟩
        · exact ⟨_, _, .inr (.inr (.inr (.inr ⟨h1, h2, h3, by have := h1.1.1; omega, rfl, rfl⟩)))⟩
  · exact ⟨_, _, .inl ⟨h1, rfl, rfl⟩⟩

theorem LfRow.drop {w : World} {B b off : Nat} {l : List Lf4} (h : LfRow w B (some ⟨b, off, none⟩) l) (k : Nat) : LfRow w B (some ⟨b, off + k * 4, none⟩) (l.drop k) := by
  intro hne
  have hl : l ≠ [] := by intro e; rw [e] at hne; simp at hne
  obtain ⟨b', off', e, h2, h3⟩ := h hl
  obtain ⟨rfl, rfl⟩ : b = b' ∧ off = off' := by simpa using e
  refine ⟨b, off + k * 4, rfl, h2, fun i n d m c hi => ?_⟩
  rw [List.getElem?_drop] at hi
  have := h3 (k + i) n d m c hi
  rw [show off + k * 4 + i * 4 = off + (k + i) * 4 by omega]
  exact this
/-- The three parts of a list with a new leaf. -/
def partsL (l : List Lf4) (k : Nat) (p : Lf4) : Nat → List Lf4
  | 0 => l.take k
  | 1 => [p]
  | _ => l.drop k
def partsV (v0 v1 v2 : Value) : Nat → Value
  | 0 => v0
  | 1 => v1
  | _ => v2
end Go.Proofs.Ytnoaahkpcnkbnaa

/-
  Rows of leaves that a call holds: their cells, appends, what turns beside them.
  Plain mathematics: a leaf put in its place among leaves in order. No program in sight.
  Contracts: a leaf put in its place among leaves in order, as the model does it.
  Contracts: leaves in order searched for the place of one, by halving.
  Contracts: slices.Grow, slices.Concat and slices.Clone at lists of leaves.
  Contracts: a leaf added to a lamination, as the program does it.
-/
import Derived.Test.YtdmppdfncbljoaaV9
import Derived.Deep.LoopGhost
import Derived.Deep.AppendLies
import Derived.Maps.AppendAt
import Derived.WalkMore
import Derived.Test.YtdmppdfncbljoaaVL
import Derived.Test.YtdmppdfncbljoaaV13
import Derived.Test.YtdmppdfncbljoaaV17
import Derived.Still
import Derived.StillTactics
import Derived.StillTailTactics
import Derived.Lib.AppendZeros
import Derived.Lib.AppendZerosOnto
import Derived.Laws.OwnMore
import Derived.Test.YtdmppdfncbljoaaV24
import Derived.Test.YtdmppdfncbljoaaV11
namespace Go.Proofs.Ytdmppdfncbljoaa
open Go.RowKit

/-- The cells of a list of pairs. -/
def flatL : List Lf4 → List Value
  | [] => []
  | p :: l => .int .i64 p.1 :: .int .i64 p.2.1 :: .int .i64 p.2.2.1 :: .int .i64 p.2.2.2 :: flatL l
theorem flatL_app : ∀ (l m : List Lf4), flatL (l ++ m) = flatL l ++ flatL m
  | [], m => rfl
  | p :: l, m => by simp [flatL, flatL_app l m]
theorem flatL_len : ∀ l : List Lf4, (flatL l).length = l.length * 4
  | [] => rfl
  | p :: l => by simp [flatL, flatL_len l]; omega
theorem flatL_at : ∀ {l : List Lf4} {i : Nat} {a b c d : Int}, l[i]? = some (a, b, c, d) → (flatL l)[i * 4]? = some (.int .i64 a) ∧ (flatL l)[i * 4 + 1]? = some (.int .i64 b) ∧ (flatL l)[i * 4 + 2]? = some (.int .i64 c) ∧ (flatL l)[i * 4 + 3]? = some (.int .i64 d)
  | [], i, a, b, c, d, h => by simp at h
  | p :: l, 0, a, b, c, d, h => by simp at h; subst h; simp [flatL]
  | p :: l, i + 1, a, b, c, d, h => by
    simp at h
    obtain ⟨h1, h2, h3, h4⟩ := flatL_at h
    have e1 : (i + 1) * 4 = i * 4 + 1 + 1 + 1 + 1 := by omega
    rw [e1]
    simp only [flatL, List.getElem?_cons_succ]
    exact ⟨h1, h2, h3, h4⟩
theorem flatL_take : ∀ (l : List Lf4) (k : Nat), flatL (l.take k) = (flatL l).take (k * 4)
  | [], k => by simp [flatL]
  | p :: l, 0 => by simp [flatL]
  | p :: l, k + 1 => by
    rw [List.take_succ_cons, show (k + 1) * 4 = k * 4 + 1 + 1 + 1 + 1 by omega]
    simp only [flatL, List.take_succ_cons, flatL_take l k]
theorem flatL_drop : ∀ (l : List Lf4) (k : Nat), flatL (l.drop k) = (flatL l).drop (k * 4)
  | [], k => by simp [flatL]
  | p :: l, 0 => by simp
  | p :: l, k + 1 => by
    rw [List.drop_succ_cons, show (k + 1) * 4 = k * 4 + 1 + 1 + 1 + 1 by omega]
    simp only [flatL, List.drop_succ_cons, flatL_drop l k]
theorem flatL_one : ∀ (l : List Lf4), ∀ u ∈ flatL l, u.oneCell' = true
  | [], u, h => by simp [flatL] at h
  | p :: l, u, h => by
    simp only [flatL, List.mem_cons] at h
    rcases h with rfl | rfl | rfl | rfl | h
    · rfl
    · rfl
    · rfl
    · rfl
    · exact flatL_one l u h
/-- Cells to be appended, read out of a row that is held. -/
theorem rowL_of {w : World} {lo : Nat} {l : List Lf4} {A : Option Addr} {len cap : Nat} (hl : l.length = len) (h : w.ownsRow lo 31 4 (.slice A len cap) len (flatL l)) : LfRow w w.heap.size A l := by
  intro hne
  have hk : 0 < len := by
    rcases Nat.eq_zero_or_pos len with h0 | h0
    · rw [h0] at hl; exact absurd (List.eq_nil_of_length_eq_zero hl) hne
    · exact h0
  obtain ⟨g, c, hv, hlo, hg⟩ := h.form hk
  obtain ⟨rfl, rfl⟩ : A = some ⟨g, 0, none⟩ ∧ cap = c := by injection hv with hA hn hc; exact ⟨hA, hc⟩
  refine ⟨g, 0, rfl, hg, fun i a b c' d hi => ?_⟩
  have hik : i < len := by
    rcases Nat.lt_or_ge i l.length with h1 | h1
    · omega
    · rw [List.getElem?_eq_none h1] at hi; cases hi
  obtain ⟨f1, f2, f3, f4⟩ := flatL_at hi
  rw [show 0 + i * 4 = i * 4 by omega]
  exact ⟨(h.cellAt _ (by omega)).trans f1, (h.cellAt _ (by omega)).trans f2, (h.cellAt _ (by omega)).trans f3, (h.cellAt _ (by omega)).trans f4⟩
theorem infoLf : (Try.prog.info? 31).map (fun i => (i.zero, i.size, i.bytes)) = some (some (.agg #[.int .i64 0, .int .i64 0, .int .i64 0, .int .i64 0]), 4, 32) := by kernel_rfl
theorem ownL_of {w : World} {lo : Nat} {l : List Lf4} {A : Option Addr} {len cap : Nat} (hl : l.length = len) (h : w.ownsRow lo 31 4 (.slice A len cap) len (flatL l)) : LfOwn w lo A l := by
  intro hne
  have hk : 0 < len := by
    rcases Nat.eq_zero_or_pos len with h0 | h0
    · rw [h0] at hl; exact absurd (List.eq_nil_of_length_eq_zero hl) hne
    · exact h0
  obtain ⟨g, c, hv, hlo, hg⟩ := h.form hk
  obtain ⟨rfl, rfl⟩ : A = some ⟨g, 0, none⟩ ∧ cap = c := by injection hv with hA hn hc; exact ⟨hA, hc⟩
  refine ⟨g, 0, rfl, hlo, hg, fun i a b c' d hi => ?_⟩
  have hik : i < len := by
    rcases Nat.lt_or_ge i l.length with h1 | h1
    · omega
    · rw [List.getElem?_eq_none h1] at hi; cases hi
  obtain ⟨f1, f2, f3, f4⟩ := flatL_at hi
  rw [show 0 + i * 4 = i * 4 by omega]
  exact ⟨⟨(h.cellAt _ (by omega)).trans f1, (h.cellAt _ (by omega)).trans f2, (h.cellAt _ (by omega)).trans f3, (h.cellAt _ (by omega)).trans f4⟩, ⟨h.frozenAt _, h.frozenAt _, h.frozenAt _, h.frozenAt _⟩⟩
/-- A row that turns elsewhere is as it was. -/
theorem ownTurnL {w w1 : World} {row : Option Nat} {lo : Nat} {e : TypeId} {k : Nat} {v : Value} {n : Nat} {xs : List Value} (h : w.ownsRow lo e k v n xs) (hg : w.grownBy w1 row) (hr : ∀ j, row = some j → j < lo) : w1.ownsRow lo e k v n xs := by
  obtain ⟨hx, h2⟩ := h
  rcases h2 with h3 | ⟨g, cap, cur, e1, hlo, hc, hrest⟩
  · exact ⟨hx, .inl h3⟩
  · have hlt : g < w.heap.size := (Array.getElem?_eq_some_iff.1 hc).1
    exact ⟨hx, .inr ⟨g, cap, cur, e1, hlo, (hg.block g hlt (fun e2 => by have := hr g e2.symm; omega)).trans hc, hrest⟩⟩
theorem own_blockL {w : World} {lo : Nat} {e : TypeId} {k : Nat} {v : Value} {n : Nat} {xs : List Value} (h : w.ownsRow lo e k v n xs) : ∀ j, v.ownBlock = some j → lo ≤ j := by
  intro j e1
  rcases h.2 with ⟨hv, _⟩ | ⟨g0, c0, cur, hv, hlo, _⟩
  · rw [hv] at e1; simp [Value.ownBlock] at e1
  · rw [hv] at e1; simp [Value.ownBlock] at e1; omega
theorem ownMonoL {w : World} {lo lo' : Nat} {e : TypeId} {k : Nat} {v : Value} {n : Nat} {xs : List Value} (h : w.ownsRow lo e k v n xs) (hl : lo' ≤ lo) : w.ownsRow lo' e k v n xs := by
  obtain ⟨hx, h2⟩ := h
  rcases h2 with h3 | ⟨g, cap, cur, e1, hlo, hrest⟩
  · exact ⟨hx, .inl h3⟩
  · exact ⟨hx, .inr ⟨g, cap, cur, e1, Nat.le_trans hl hlo, hrest⟩⟩
theorem own_noneL {w : World} {lo : Nat} {e : TypeId} {k : Nat} : w.ownsRow lo e k (.slice none 0 0) 0 [] := ⟨by simp, .inl ⟨rfl, rfl⟩⟩
/-- A row that turns is another one. -/
theorem ownFarL {w w1 : World} {row : Option Nat} {lo : Nat} {e : TypeId} {k : Nat} {v : Value} {n : Nat} {xs : List Value} (h : w.ownsRow lo e k v n xs) (hg : w.grownBy w1 row) (hr : ∀ j, row = some j → v.ownBlock ≠ some j) : w1.ownsRow lo e k v n xs := by
  obtain ⟨hx, h2⟩ := h
  rcases h2 with h3 | ⟨g, cap, cur, e1, hlo, hc, hrest⟩
  · exact ⟨hx, .inl h3⟩
  · have hlt : g < w.heap.size := (Array.getElem?_eq_some_iff.1 hc).1
    exact ⟨hx, .inr ⟨g, cap, cur, e1, hlo, (hg.block g hlt (fun e2 => hr g e2.symm (by rw [e1]; rfl))).trans hc, hrest⟩⟩
theorem own_ltL {w : World} {lo : Nat} {e : TypeId} {k : Nat} {v : Value} {n : Nat} {xs : List Value} (h : w.ownsRow lo e k v n xs) : ∀ j, v.ownBlock = some j → j < w.heap.size := by
  intro j e1
  rcases h.2 with ⟨hv, _⟩ | ⟨g0, c0, cur, hv, hlo, hc, _⟩
  · rw [hv] at e1; simp [Value.ownBlock] at e1
  · rw [hv] at e1
    simp [Value.ownBlock] at e1
    subst e1
    exact (Array.getElem?_eq_some_iff.1 hc).1
/-- Cells to be appended, read out of a row that is held. -/
theorem news_of_rowL {w : World} {lo g n cap : Nat} {e : TypeId} {xs : List Value} (h : w.ownsRow lo e 4 (.slice (some ⟨g, 0, none⟩) n cap) n xs) (o : Nat) (news : List Value) (hn : ∀ i u, news[i]? = some u → xs[o + i]? = some u) :
    ∀ i u, news[i]? = some u → w.cell? ((⟨g, o, none⟩ : Addr).add i) = some u := by
  intro i u hu
  have hadd : (⟨g, o, none⟩ : Addr).add i = ⟨g, o + i, none⟩ := by unfold Addr.add; split <;> simp_all
  have hx := hn i u hu
  have hl := (List.getElem?_eq_some_iff.1 hx).1
  rw [h.1] at hl
  rw [hadd]
  exact (h.cellAt (o + i) hl).trans hx
/-- An append at a step of a region that draws its order; nothing may be appended. -/
theorem step_append_atL {P : Program} (w : World) {ops : Array Oper} {o : Oper} {a : Act} {K : Act → World → Prop} {Q : Exit → Act → World → Prop} {E : Prop} (hgd : o.guard = none) (s x : Operand) (t : TypeId)
    (ho : o.op = .call { callee := .builtin .append, args := #[s, x], argTypes := #[t, t] })
    (base : Nat) (e : TypeId) (i : TypeInfo) (z : Value) (size bytes : Nat) (ht : P.underlying t = some (.slice e)) (hi : P.info? e = some i) (hz : i.zero = some z)
    (hsize : i.size = size) (hby : i.bytes = bytes) (hzs : z.cells.size = size) (hsz : 0 < size)
    (v : Value) (n : Nat) (xs : List Value) (hs : a.eval s = v) (hown : w.ownsRow base e size v n xs)
    (ad : Addr) (m c : Nat) (news : List Value) (hx : a.eval x = .slice (some ad) m c) (hl : news.length = m * size) (hnews : ∀ j u, news[j]? = some u → w.cell? (ad.add j) = some u) (h1 : ∀ u ∈ news, u.oneCell' = true)
    (h63 : n + m ≤ maxLen) (hbytes : (n + m) * bytes ≤ 140737488355328) (hbase : base ≤ w.heap.size)
    (h : ∀ v' w', w'.ownsRow base e size v' (n + m) (xs ++ news) → w.grownBy w' v.ownBlock → K (a.put o.dst v') w') :
    if Region.wanted o (yielded ops a.tmps) = true then Oper.wp P o a w K Q else E := by
  obtain ⟨v', w', hr, h2, h3, _, _⟩ := run_append_own_at (P := P) w base t o.type e i z size bytes ht hi hz hsize hby hzs hsz v n xs hown ad m c news hl hnews h1 h63 hbytes hbase
  have hw : Region.wanted o (yielded ops a.tmps) = true := by simp [Region.wanted, hgd]
  rw [if_pos hw]
  unfold Oper.wp execOp
  simp only [ho, resolve, invoke, builtin, Sem.run_bind, Sem.run_pure, Result.andThen_ok, List.map_toArray, List.map_cons, List.map_nil, hs, hx, hr]
  exact h v' w' h2 h3
/-- What the condition of the inner loop tells. -/
theorem belowGL {W W1 : World} (hb : Below W.heap.size W W1) : W.grownBy W1 none := ⟨hb.os, hb.tape, hb.output, hb.size, fun i hi _ => hb.block i hi⟩
theorem cellGL {W W' : World} {row : Option Nat} (hg : W.grownBy W' row) {b o : Nat} {v : Value} (hlt : b < W.heap.size) (hne : some b ≠ row) (hc : W.cell? ⟨b, o, none⟩ = some v) : W'.cell? ⟨b, o, none⟩ = some v :=
  (World.cell?_of_block (hg.block b hlt hne)).trans hc
theorem cell_four_newL (w : World) (a b c d : Value) (t : TypeId) : ∀ j u, [a, b, c, d][j]? = some u → (w.alloc (.cells #[a, b, c, d] t)).cell? ((⟨w.heap.size, 0, none⟩ : Addr).add j) = some u := by
  intro j u hj
  match j, hj with
  | 0, hj => simp at hj; subst hj; simp [Addr.add]
  | 1, hj => simp at hj; subst hj; simp [Addr.add]
  | 2, hj => simp at hj; subst hj; simp [Addr.add]
  | 3, hj => simp at hj; subst hj; simp [Addr.add]

/-- How many leaves at the head of a list are lesser. -/
def lessNL (out : List Lf4) (p : Lf4) : Nat := out.findIdx fun q => !lessX q p
/-- A leaf put in its place, if it is new. -/
def insL (out : List Lf4) (p : Lf4) : List Lf4 := if out[lessNL out p]? = some p then out else out.take (lessNL out p) ++ p :: out.drop (lessNL out p)
theorem insL_old {out : List Lf4} {p : Lf4} (h : out[lessNL out p]? = some p) : insL out p = out := by unfold insL; rw [if_pos h]
theorem insL_new {out : List Lf4} {p : Lf4} (h : ¬ out[lessNL out p]? = some p) : insL out p = out.take (lessNL out p) ++ p :: out.drop (lessNL out p) := by unfold insL; rw [if_neg h]
theorem insL_len {out : List Lf4} {p : Lf4} (h : ¬ out[lessNL out p]? = some p) : (insL out p).length = out.length + 1 := by
  rw [insL_new h]
  have : lessNL out p ≤ out.length := List.findIdx_le_length
  simp only [List.length_append, List.length_cons, List.length_take, List.length_drop]
  omega
theorem lessNL_le (out : List Lf4) (p : Lf4) : lessNL out p ≤ out.length := List.findIdx_le_length
theorem lessNL_lt {out : List Lf4} {p : Lf4} {j : Nat} (h : j < lessNL out p) {q : Lf4} (hq : out[j]? = some q) : lessX q p = true := by
  obtain ⟨hj, rfl⟩ := List.getElem?_eq_some_iff.1 hq
  have := List.not_of_lt_findIdx h
  simpa using this
theorem lessNL_at {out : List Lf4} {p : Lf4} {q : Lf4} (hq : out[lessNL out p]? = some q) : lessX q p = false := by
  obtain ⟨hj, rfl⟩ := List.getElem?_eq_some_iff.1 hq
  have := List.findIdx_getElem (xs := out) (p := fun q => !lessX q p) (w := hj)
  have h2 : (!lessX out[lessNL out p] p) = true := this
  cases h3 : lessX out[lessNL out p] p
  · rfl
  · rw [h3] at h2; cases h2
theorem lessNL_stop {out : List Lf4} {p : Lf4} {k : Nat} (hk : k < out.length) (h : ∀ j, j < k → ∀ q, out[j]? = some q → lessX q p = true) {q : Lf4} (hq : out[k]? = some q) (hn : lessX q p = false) : lessNL out p = k := by
  rcases Nat.lt_trichotomy (lessNL out p) k with h1 | h1 | h1
  · have hl : lessNL out p < out.length := by omega
    have e := List.getElem?_eq_getElem hl
    have a := h _ h1 _ e
    have b := lessNL_at e
    rw [a] at b; cases b
  · exact h1
  · have := lessNL_lt h1 hq
    rw [this] at hn; cases hn
theorem lessNL_end {out : List Lf4} {p : Lf4} (h : ∀ j, j < out.length → ∀ q, out[j]? = some q → lessX q p = true) : lessNL out p = out.length := by
  rcases Nat.lt_or_ge (lessNL out p) out.length with h1 | h1
  · have e := List.getElem?_eq_getElem h1
    have a := h _ h1 _ e
    have b := lessNL_at e
    rw [a] at b; cases b
  · have := lessNL_le out p; omega
theorem ltA_trL {a b c d e f : Int} (hb : 0 < b) (hd : 0 < d) (hf : 0 < f) (h1 : ltA a b c d = true) (h2 : ltA c d e f = true) : ltA a b e f = true := by
  unfold ltA at *
  have h1 := of_decide_eq_true h1
  have h2 := of_decide_eq_true h2
  refine decide_eq_true (Int.lt_of_mul_lt_mul_right (a := d) ?_ (by omega))
  have p1 := Int.mul_lt_mul_of_pos_right h1 hf
  have p2 := Int.mul_lt_mul_of_pos_right h2 hb
  have e1 : a * d * f = a * f * d := by rw [Int.mul_assoc, Int.mul_comm d f, ← Int.mul_assoc]
  have e2 : c * b * f = c * f * b := by rw [Int.mul_assoc, Int.mul_comm b f, ← Int.mul_assoc]
  have e3 : e * d * b = e * b * d := by rw [Int.mul_assoc, Int.mul_comm d b, ← Int.mul_assoc]
  omega
/-- What is asked of the angles of a leaf here: Dens above 0. -/
def posX (x : Lf4) : Prop := 0 < x.2.1 ∧ 0 < x.2.2.2
theorem lf_pos {x : Lf4} (h : isLf x.1 x.2.1 x.2.2.1 x.2.2.2 = true) : posX x := by
  obtain ⟨⟨h1, _⟩, ⟨h2, _⟩, _⟩ := isLf_yes h
  exact ⟨by dsimp only at h1; omega, by dsimp only at h2; omega⟩
theorem lessX_tr {x y z : Lf4} (hx : posX x) (hy : posX y) (hz : posX z) (h1 : lessX x y = true) (h2 : lessX y z = true) : lessX x z = true := by
  obtain ⟨a, b, c, d⟩ := x
  obtain ⟨e, f, g, h⟩ := y
  obtain ⟨i, j, k, l⟩ := z
  unfold posX at hx hy hz
  unfold lessX at *
  dsimp only at *
  cases q1 : eqA a b e f <;> cases q2 : eqA e f i j
  · rw [q1] at h1
    rw [q2] at h2
    have t := ltA_trL hx.1 hy.1 hz.1 h1 h2
    have := lt_ne t
    rw [eqA_comm] at this
    rw [this]
    exact t
  · rw [q1] at h1
    obtain ⟨rfl, rfl⟩ := (eqA_iff _ _ _ _).1 q2
    rw [q1]
    exact h1
  · rw [q2] at h2
    obtain ⟨rfl, rfl⟩ := (eqA_iff _ _ _ _).1 q1
    rw [q2]
    exact h2
  · rw [q1] at h1
    rw [q2] at h2
    obtain ⟨rfl, rfl⟩ := (eqA_iff _ _ _ _).1 q1
    rw [q2]
    exact ltA_trL hx.2 hy.2 hz.2 h1 h2
theorem lessX_self (x : Lf4) : lessX x x = false := by
  unfold lessX
  rw [(eqA_iff _ _ _ _).2 ⟨rfl, rfl⟩]
  exact ltA_self _ _
theorem allLf_pos {l : List Lf4} (h : allLf l = true) {k : Nat} {x : Lf4} (hx : l[k]? = some x) : posX x := lf_pos (allLf_at h (n := x.1) (d := x.2.1) (m := x.2.2.1) (c := x.2.2.2) hx)
/-- Leaves in order: each is behind all that come before it. -/
theorem asc_all {l : List Lf4} (h : Asc l) (ha : allLf l = true) : ∀ (i j : Nat) (x y : Lf4), i < j → l[i]? = some x → l[j]? = some y → lessX x y = true
  | i, 0, _, _, hij, _, _ => absurd hij (by omega)
  | i, j + 1, x, y, hij, hx, hy => by
    have hj : j < l.length := by
      have := (List.getElem?_eq_some_iff.1 hy).1; omega
    have ez := List.getElem?_eq_getElem hj
    generalize l[j] = z at *
    have hzy := h j z y ez hy
    by_cases e : i = j
    · subst e
      rw [hx] at ez
      injection ez with ez
      rw [ez]; exact hzy
    · exact lessX_tr (allLf_pos ha hx) (allLf_pos ha ez) (allLf_pos ha hy) (asc_all h ha i j x z (by omega) hx ez) hzy
/-- What is lesser stands at the head. -/
theorem head_less {l : List Lf4} (h : Asc l) (ha : allLf l = true) {p : Lf4} (hp : posX p) {k : Nat} {x : Lf4} (hx : l[k]? = some x) (hl : lessX x p = true) : ∀ j, j ≤ k → ∀ y, l[j]? = some y → lessX y p = true := by
  intro j hj y hy
  by_cases e : j = k
  · subst e
    rw [hx] at hy
    injection hy with hy
    rw [← hy]; exact hl
  · exact lessX_tr (allLf_pos ha hy) (allLf_pos ha hx) hp (asc_all h ha j k y x (by omega) hy hx) hl
theorem tail_not {l : List Lf4} (h : Asc l) (ha : allLf l = true) {p : Lf4} (hp : posX p) {k : Nat} {x : Lf4} (hx : l[k]? = some x) (hl : lessX x p = false) : ∀ j, k ≤ j → ∀ y, l[j]? = some y → lessX y p = false := by
  intro j hj y hy
  cases hq : lessX y p
  · rfl
  · have := head_less h ha hp hy hq k hj x hx
    rw [this] at hl; cases hl
/-- A leaf of the list stands in its place. -/
theorem in_place {l : List Lf4} (h : Asc l) (ha : allLf l = true) {k : Nat} {p : Lf4} (hp : l[k]? = some p) : lessNL l p = k :=
  lessNL_stop (List.getElem?_eq_some_iff.1 hp).1 (fun j hj q hq => asc_all h ha j k q p hj hq hp) hp (lessX_self p)
theorem mem_place {l : List Lf4} (h : Asc l) (ha : allLf l = true) {p : Lf4} (hp : p ∈ l) : l[lessNL l p]? = some p := by
  obtain ⟨k, hk, e⟩ := List.getElem_of_mem hp
  have e2 : l[k]? = some p := by rw [List.getElem?_eq_getElem hk, e]
  rw [in_place h ha e2]; exact e2

theorem lf_low {a b c d : Int} (h : isLf a b c d = true) : angOk a b := by
  obtain ⟨h1, h2, h3, h4, _⟩ := (isLf_yes h).1
  exact ⟨h1, h2, h3, h4⟩
theorem lf_up {a b c d : Int} (h : isLf a b c d = true) : angOk c d := by
  obtain ⟨h1, h2, h3, h4, _⟩ := (isLf_yes h).2.1
  exact ⟨h1, h2, h3, h4⟩
theorem ownsCapL {W : World} {e : TypeId} {size : Nat} {A : Option Addr} {n cap : Nat} {xs : List Value} {lo : Nat} (h : W.ownsRow lo e size (.slice A n cap) n xs) : n ≤ cap := by
  rcases h.2 with ⟨a, b⟩ | ⟨g, cap', cur, a, _, _, b, _⟩
  · omega
  · injection a with _ _ hc; omega
theorem eqL_iff4 (a b c d e f g h : Int) : eqL a b c d e f g h = true ↔ (a, b, c, d) = (e, f, g, h) := by
  rw [eqL_iff]; simp
theorem infoL_parts {t : TypeId} {z : Value} {s b : Nat} (h : (Try.prog.info? t).map (fun i => (i.zero, i.size, i.bytes)) = some (some z, s, b)) : ∃ i, Try.prog.info? t = some i ∧ i.zero = some z ∧ i.size = s ∧ i.bytes = b := by
  cases hi : Try.prog.info? t with
  | none => rw [hi] at h; cases h
  | some i =>
    rw [hi] at h
    simp only [Option.map_some, Option.some.injEq, Prod.mk.injEq] at h
    exact ⟨i, rfl, h.1, h.2.1, h.2.2⟩
/-- What the condition of the loop tells, and what the look at the place. -/
def StopResL (w1 : World) (O : List Lf4) (p : Lf4) (j : Nat) (v : Value) (W : World) : Prop := ∃ t : Bool, v = .bool t ∧ Hid ((t = true → ∃ q, O[j]? = some q ∧ lessX q p = true) ∧ (t = false → lessNL O p = j)) ∧ Below w1.heap.size w1 W
def EqResL (w1 : World) (O : List Lf4) (p : Lf4) (j : Nat) (v : Value) (W : World) : Prop := ∃ t : Bool, v = .bool t ∧ Hid (t = true ↔ O[j]? = some p) ∧ Below w1.heap.size w1 W

set_option maxRecDepth 100000 in
set_option maxHeartbeats 2000000 in
theorem specInsert (lo b c : Nat) (O : List Lf4) (p1 p2 p3 p4 : Int) (w : World) (hlo : lo ≤ w.heap.size) (hok : allLf O = true) (hp : isLf p1 p2 p3 p4 = true) (hm : O.length ≤ 2000) (hown : w.ownsRow lo 31 4 (.slice (some ⟨b, 0, none⟩) O.length c) O.length (flatL O)) :
    Calls Try.prog 68 #[.slice (some ⟨b, 0, none⟩) O.length c, leafV p1 p2 p3 p4] w fun e w' => ∃ b' c', e = .returned (.slice (some ⟨b', 0, none⟩) (insL O (p1, p2, p3, p4)).length c') ∧ w'.ownsRow lo 31 4 (.slice (some ⟨b', 0, none⟩) (insL O (p1, p2, p3, p4)).length c') (insL O (p1, p2, p3, p4)).length (flatL (insL O (p1, p2, p3, p4))) ∧ Below w.heap.size w w' := by
  have HOk := Lib.hid hok
  have HP := Lib.hid hp
  obtain ⟨i0, hi, hz0, hz1, hz2⟩ := infoL_parts infoLf
  have HW0 := Lib.hid hown
  clear hok hp hown
  go_enter Try.func68, Try.ntmps68
  go_wp2_with fail
  obtain ⟨w1, hw1⟩ : ∃ w1, w.alloc (.cells #[.int .i64 p1, .int .i64 p2, .int .i64 p3, .int .i64 p4] 31) = w1 := ⟨_, rfl⟩
  have hg1 : w.heap.size < w1.heap.size := by rw [← hw1]; simp
  have y0 : w1.cell? ⟨w.heap.size, 0, none⟩ = some (.int .i64 p1) := by rw [← hw1]; simp [go_sem]
  have y1 : w1.cell? ⟨w.heap.size, 1, none⟩ = some (.int .i64 p2) := by rw [← hw1]; simp [go_sem]
  have y2 : w1.cell? ⟨w.heap.size, 2, none⟩ = some (.int .i64 p3) := by rw [← hw1]; simp [go_sem]
  have y3 : w1.cell? ⟨w.heap.size, 3, none⟩ = some (.int .i64 p4) := by rw [← hw1]; simp [go_sem]
  have B1 : Hid (Below w.heap.size w w1) := Lib.hid (by rw [← hw1]; exact belowAlloc (Below.refl _ _) _)
  have HW1 : Hid (w1.ownsRow lo 31 4 (.slice (some ⟨b, 0, none⟩) O.length c) O.length (flatL O)) := Lib.hid (by rw [← hw1]; exact World.ownsRow.alloc HW0.out _)
  rw [hw1]
  have hbw : b < w1.heap.size := own_ltL HW1.out b rfl
  clear hw1 HW0
  go_loopg [5] O.length (fun g2 s5 wx => ∃ j : Nat, j + g2 = O.length ∧ s5 = .int .i64 j ∧ Hid (∀ i, i < j → ∀ q, O[i]? = some q → lessX q (p1, p2, p3, p4) = true) ∧ Hid (Below w1.heap.size w1 wx))
  case atStart => exact ⟨0, by omega, rfl, Lib.hid (fun i h => absurd h (by omega)), Lib.hid (Below.refl _ _)⟩
  case round =>
    obtain ⟨j, hjg, rfl, HJ, BX⟩ := hrel
    have a0 := cellThru BX.out hg1 y0
    have a1 := cellThru BX.out hg1 y1
    have a2 := cellThru BX.out hg1 y2
    have a3 := cellThru BX.out hg1 y3
    have hg2 : w.heap.size < wr.heap.size := Nat.lt_of_lt_of_le hg1 BX.out.size
    have hb2 : b < wr.heap.size := Nat.lt_of_lt_of_le hbw BX.out.size
    go_upto_region 2 with fail
    go_cut [18] (fun s18 wy => StopResL w1 O (p1, p2, p3, p4) j s18 wy)
    case first =>
      cases gk with
      | zero =>
        have HST : Hid (lessNL O (p1, p2, p3, p4) = j) := Lib.hid (by
          obtain rfl : j = O.length := by omega
          exact lessNL_end HJ.out)
        have hn : ¬ ((j : Int) < (O.length : Int)) := by omega
        have hn2 : ((j : Int) < (O.length : Int)) = False := by simp; omega
        have hn3 : ¬ (j < O.length) := by omega
        clear hjg
        refine wp_region_any (by kernel_rfl) ?_
        try (change wpAny _ _ _ _ _ _ _ (World.drew _))
        refine wpAny_take (i := 0) (v := ?_) rfl (by kernel_rfl) (by kernel_rfl) (by kernel_rfl) (fun _ _ _ h => h) (Or.inl ⟨by kernel_rfl, ?_⟩) ?_
        rotate_left
        · intro w; first | (go_simp; done) | (go_simp; with_reducible rfl)
        refine wpAny_take (i := 1) (v := ?_) rfl (by kernel_rfl) (by kernel_rfl) (by kernel_rfl) (fun _ _ _ h => h) (Or.inl ⟨by kernel_rfl, ?_⟩) ?_
        rotate_left
        · intro w; first | (go_simp; done) | (go_simp; with_reducible rfl)
        refine wpAny_take (i := 2) (v := ?_) rfl (by kernel_rfl) (by kernel_rfl) (by kernel_rfl) (fun _ _ _ h => h) (Or.inl ⟨by kernel_rfl, ?_⟩) ?_
        rotate_left
        · intro w; first | (go_simp; done) | (go_simp; with_reducible rfl)
        refine wpAny_take (i := 3) (v := ?_) rfl (by kernel_rfl) (by kernel_rfl) (by kernel_rfl) (fun _ _ _ h => h) (Or.inl ⟨by kernel_rfl, ?_⟩) ?_
        rotate_left
        · intro w; first | (go_simp; done) | (go_simp; with_reducible rfl)
        refine wpAny_take (i := 4) (v := ?_) rfl (by kernel_rfl) (by kernel_rfl) (by kernel_rfl) (fun _ _ _ h => h) (Or.inl ⟨by kernel_rfl, ?_⟩) ?_
        rotate_left
        · intro w; first | (go_simp; done) | (go_simp; with_reducible rfl)
        refine wpAny_take (i := 5) (v := undef) rfl (by kernel_rfl) (by kernel_rfl) (by kernel_rfl) (fun _ _ _ h => h) (Or.inr ⟨by kernel_rfl, rfl⟩) ?_
        go_simp
        refine wpAny_take (i := 6) (v := undef) rfl (by kernel_rfl) (by kernel_rfl) (by kernel_rfl) (fun _ _ _ h => h) (Or.inr ⟨by kernel_rfl, rfl⟩) ?_
        go_simp
        refine wpAny_take (i := 7) (v := undef) rfl (by kernel_rfl) (by kernel_rfl) (by kernel_rfl) (fun _ _ _ h => h) (Or.inr ⟨by kernel_rfl, rfl⟩) ?_
        go_simp
        refine wpAny_take (i := 8) (v := undef) rfl (by kernel_rfl) (by kernel_rfl) (by kernel_rfl) (fun _ _ _ h => h) (Or.inr ⟨by kernel_rfl, rfl⟩) ?_
        go_simp
        refine wpAny_take (i := 9) (v := undef) rfl (by kernel_rfl) (by kernel_rfl) (by kernel_rfl) (fun _ _ _ h => h) (Or.inr ⟨by kernel_rfl, rfl⟩) ?_
        go_simp
        refine wpAny_take (i := 10) (v := undef) rfl (by kernel_rfl) (by kernel_rfl) (by kernel_rfl) (fun _ _ _ h => h) (Or.inr ⟨by kernel_rfl, rfl⟩) ?_
        go_simp
        refine wpAny_take (i := 11) (v := ?_) rfl (by kernel_rfl) (by kernel_rfl) (by kernel_rfl) (fun _ _ _ h => h) (Or.inl ⟨by kernel_rfl, ?_⟩) ?_
        rotate_left
        · intro w; first | (go_simp; done) | (go_simp; with_reducible rfl)
        refine wpAny_done (by kernel_rfl) ?_ _
        have B1 : Below w1.heap.size w1 wr.drew := BX.out.drew
        go_wp2_with fail
        go_meet
        exact ⟨false, rfl, Lib.hid ⟨fun h => (by cases h), fun _ => HST.out⟩, B1⟩
      | succ g2 =>
        have hjl : j < O.length := by omega
        obtain ⟨⟨q1, q2, q3, q4⟩, hq⟩ : ∃ q, O[j]? = some q := ⟨_, List.getElem?_eq_getElem hjl⟩
        obtain ⟨r0, r1, r2, r3⟩ := flatL_at hq
        have o0 := cellThru BX.out hbw ((HW1.out.cellAt (j * 4) (by omega)).trans r0)
        have o1 := cellThru BX.out hbw ((HW1.out.cellAt (j * 4 + 1) (by omega)).trans r1)
        have o2 := cellThru BX.out hbw ((HW1.out.cellAt (j * 4 + 2) (by omega)).trans r2)
        have o3 := cellThru BX.out hbw ((HW1.out.cellAt (j * 4 + 3) (by omega)).trans r3)
        have hlf : isLf q1 q2 q3 q4 = true := allLf_at HOk.out hq
        have HLe := Lib.hid (fun w => specLessL q1 q2 q3 q4 p1 p2 p3 p4 w (lf_low hlf) (lf_up hlf) (lf_low HP.out) (lf_up HP.out))
        obtain ⟨t, ht⟩ : ∃ t, lessL q1 q2 q3 q4 p1 p2 p3 p4 = t := ⟨_, rfl⟩
        rw [ht] at HLe
        have ht' : lessX (q1, q2, q3, q4) (p1, p2, p3, p4) = t := ht
        have HT1 : Hid (t = true → ∃ q, O[j]? = some q ∧ lessX q (p1, p2, p3, p4) = true) := Lib.hid (fun h => ⟨_, hq, ht'.trans h⟩)
        have HT0 : Hid (t = false → lessNL O (p1, p2, p3, p4) = j) := Lib.hid (fun h => lessNL_stop hjl HJ.out hq (ht'.trans h))
        clear hq ht ht' r0 r1 r2 r3 hlf
        refine wp_region_any (by kernel_rfl) ?_
        try (change wpAny _ _ _ _ _ _ _ (World.drew _))
        refine wpAny_take (i := 0) (v := ?_) rfl (by kernel_rfl) (by kernel_rfl) (by kernel_rfl) (fun _ _ _ h => h) (Or.inl ⟨by kernel_rfl, ?_⟩) ?_
        rotate_left
        · intro w; first | (go_simp; done) | (go_simp; with_reducible rfl)
        refine wpAny_take (i := 1) (v := ?_) rfl (by kernel_rfl) (by kernel_rfl) (by kernel_rfl) (fun _ _ _ h => h) (Or.inl ⟨by kernel_rfl, ?_⟩) ?_
        rotate_left
        · intro w; first | (go_simp; done) | (go_simp; with_reducible rfl)
        refine wpAny_take (i := 2) (v := ?_) rfl (by kernel_rfl) (by kernel_rfl) (by kernel_rfl) (fun _ _ _ h => h) (Or.inl ⟨by kernel_rfl, ?_⟩) ?_
        rotate_left
        · intro w; first | (go_simp; done) | (go_simp; with_reducible rfl)
        refine wpAny_take (i := 3) (v := ?_) rfl (by kernel_rfl) (by kernel_rfl) (by kernel_rfl) (fun _ _ _ h => h) (Or.inl ⟨by kernel_rfl, ?_⟩) ?_
        rotate_left
        · intro w; first | (go_simp; done) | (go_simp; with_reducible rfl)
        refine wpAny_take (i := 4) (v := ?_) rfl (by kernel_rfl) (by kernel_rfl) (by kernel_rfl) (fun _ _ _ h => h) (Or.inl ⟨by kernel_rfl, ?_⟩) ?_
        rotate_left
        · intro w; first | (go_simp; done) | (go_simp; with_reducible rfl)
        refine wpAny_take (i := 5) (v := ?_) rfl (by kernel_rfl) (by kernel_rfl) (by kernel_rfl) (fun _ _ _ h => h) (Or.inl ⟨by kernel_rfl, ?_⟩) ?_
        rotate_left
        · intro w; first | (go_simp; done) | (go_simp; with_reducible rfl)
        refine wpAny_take (i := 6) (v := ?_) rfl (by kernel_rfl) (by kernel_rfl) (by kernel_rfl) (fun _ _ _ h => h) (Or.inl ⟨by kernel_rfl, ?_⟩) ?_
        rotate_left
        · intro w; first | (go_simp; done) | (go_simp; with_reducible rfl)
        refine wpAny_take (i := 7) (v := ?_) rfl (by kernel_rfl) (by kernel_rfl) (by kernel_rfl) (fun _ _ _ h => h) (Or.inl ⟨by kernel_rfl, ?_⟩) ?_
        rotate_left
        · intro w; first | (go_simp; done) | (go_simp; with_reducible rfl)
        refine wpAny_ready (rs := [8, 9]) (by kernel_rfl) (by simp) ?_
        refine AllReady.cons rfl (fun K hK => ?_) (AllReady.cons rfl (fun K hK => ?_) AllReady.nil)
        · go_simp
          refine hK _ _ ?_
          clear hK K
          refine wpAny_ready (rs := [9]) (by kernel_rfl) (by simp) ?_
          refine AllReady.cons rfl (fun K hK => ?_) AllReady.nil
          go_simp
          refine hK _ _ ?_
          clear hK K
          refine wpAny_ready (rs := [10]) (by kernel_rfl) (by simp) ?_
          refine AllReady.cons rfl (fun K hK => ?_) AllReady.nil
          go_simp
          go_wp2_with (go_at_call 76; (with_reducible refine (HLe.out _).mono ?_); rintro e w2 ⟨rfl, hb2⟩)
          refine wpAny_take (i := 11) (v := ?_) rfl (by kernel_rfl) (by kernel_rfl) (by kernel_rfl) (fun _ _ _ h => h) (Or.inl ⟨by kernel_rfl, ?_⟩) ?_
          rotate_left
          · intro w; first | (go_simp; done) | (go_simp; with_reducible rfl)
          refine wpAny_done (by kernel_rfl) ?_ _
          have B1 : Below w1.heap.size w1 w2 := belowNext BX.out.drew hb2
          go_wp2_with fail
          go_meet
          exact ⟨t, rfl, Lib.hid ⟨fun h => HT1.out h, fun h => HT0.out h⟩, B1⟩
        · go_simp
          refine hK _ _ ?_
          clear hK K
          refine wpAny_ready (rs := [8]) (by kernel_rfl) (by simp) ?_
          refine AllReady.cons rfl (fun K hK => ?_) AllReady.nil
          go_simp
          refine hK _ _ ?_
          clear hK K
          refine wpAny_ready (rs := [10]) (by kernel_rfl) (by simp) ?_
          refine AllReady.cons rfl (fun K hK => ?_) AllReady.nil
          go_simp
          go_wp2_with (go_at_call 76; (with_reducible refine (HLe.out _).mono ?_); rintro e w2 ⟨rfl, hb2⟩)
          refine wpAny_take (i := 11) (v := ?_) rfl (by kernel_rfl) (by kernel_rfl) (by kernel_rfl) (fun _ _ _ h => h) (Or.inl ⟨by kernel_rfl, ?_⟩) ?_
          rotate_left
          · intro w; first | (go_simp; done) | (go_simp; with_reducible rfl)
          refine wpAny_done (by kernel_rfl) ?_ _
          have B1 : Below w1.heap.size w1 w2 := belowNext BX.out.drew hb2
          go_wp2_with fail
          go_meet
          exact ⟨t, rfl, Lib.hid ⟨fun h => HT1.out h, fun h => HT0.out h⟩, B1⟩
    case rest =>
      obtain ⟨t, ht, HQ, B2⟩ := hcut
      subst ht
      cases t
      · have hL := HQ.out.2 rfl
        have HBc := Lib.hid B2
        have hjO : j ≤ O.length := by omega
        have hcO : O.length ≤ c := ownsCapL HW1.out
        have HLs := Lib.hid hL
        have s0 := cellThru HBc.out hg1 y0
        have s1 := cellThru HBc.out hg1 y1
        have s2 := cellThru HBc.out hg1 y2
        have s3 := cellThru HBc.out hg1 y3
        have hgc : w.heap.size < wc.heap.size := Nat.lt_of_lt_of_le hg1 HBc.out.size
        have hbc : b < wc.heap.size := Nat.lt_of_lt_of_le hbw HBc.out.size
        clear HQ B2 a0 a1 a2 a3 hg2 hb2 hL BX HJ
        go_upto_region 4 with fail
        go_cut [32] (fun s32 wy => EqResL w1 O (p1, p2, p3, p4) j s32 wy)
        case first =>
          by_cases hjl : j < O.length
          · obtain ⟨⟨q1, q2, q3, q4⟩, hq⟩ : ∃ q, O[j]? = some q := ⟨_, List.getElem?_eq_getElem hjl⟩
            obtain ⟨r0, r1, r2, r3⟩ := flatL_at hq
            have o0 := cellThru HBc.out hbw ((HW1.out.cellAt (j * 4) (by omega)).trans r0)
            have o1 := cellThru HBc.out hbw ((HW1.out.cellAt (j * 4 + 1) (by omega)).trans r1)
            have o2 := cellThru HBc.out hbw ((HW1.out.cellAt (j * 4 + 2) (by omega)).trans r2)
            have o3 := cellThru HBc.out hbw ((HW1.out.cellAt (j * 4 + 3) (by omega)).trans r3)
            obtain ⟨t, ht⟩ : ∃ t, eqL q1 q2 q3 q4 p1 p2 p3 p4 = t := ⟨_, rfl⟩
            have Q1 := fun W => eqlLf q1 q2 q3 q4 p1 p2 p3 p4 W
            rw [ht] at Q1
            have HT2 : Hid (t = true ↔ O[j]? = some (p1, p2, p3, p4)) := Lib.hid (by
              rw [← ht, eqL_iff4, hq, Option.some.injEq])
            clear hq ht r0 r1 r2 r3
            refine wp_region_any (by kernel_rfl) ?_
            try (change wpAny _ _ _ _ _ _ _ (World.drew _))
            refine wpAny_take (i := 0) (v := ?_) rfl (by kernel_rfl) (by kernel_rfl) (by kernel_rfl) (fun _ _ _ h => h) (Or.inl ⟨by kernel_rfl, ?_⟩) ?_
            rotate_left
            · intro w; first | (go_simp; done) | (go_simp; with_reducible rfl)
            refine wpAny_take (i := 1) (v := ?_) rfl (by kernel_rfl) (by kernel_rfl) (by kernel_rfl) (fun _ _ _ h => h) (Or.inl ⟨by kernel_rfl, ?_⟩) ?_
            rotate_left
            · intro w; first | (go_simp; done) | (go_simp; with_reducible rfl)
            refine wpAny_take (i := 2) (v := ?_) rfl (by kernel_rfl) (by kernel_rfl) (by kernel_rfl) (fun _ _ _ h => h) (Or.inl ⟨by kernel_rfl, ?_⟩) ?_
            rotate_left
            · intro w; first | (go_simp; done) | (go_simp; with_reducible rfl)
            refine wpAny_take (i := 3) (v := ?_) rfl (by kernel_rfl) (by kernel_rfl) (by kernel_rfl) (fun _ _ _ h => h) (Or.inl ⟨by kernel_rfl, ?_⟩) ?_
            rotate_left
            · intro w; first | (go_simp; done) | (go_simp; with_reducible rfl)
            refine wpAny_take (i := 4) (v := ?_) rfl (by kernel_rfl) (by kernel_rfl) (by kernel_rfl) (fun _ _ _ h => h) (Or.inl ⟨by kernel_rfl, ?_⟩) ?_
            rotate_left
            · intro w; first | (go_simp; done) | (go_simp; with_reducible rfl)
            refine wpAny_take (i := 5) (v := ?_) rfl (by kernel_rfl) (by kernel_rfl) (by kernel_rfl) (fun _ _ _ h => h) (Or.inl ⟨by kernel_rfl, ?_⟩) ?_
            rotate_left
            · intro w; first | (go_simp; done) | (go_simp; with_reducible rfl)
            refine wpAny_take (i := 6) (v := ?_) rfl (by kernel_rfl) (by kernel_rfl) (by kernel_rfl) (fun _ _ _ h => h) (Or.inl ⟨by kernel_rfl, ?_⟩) ?_
            rotate_left
            · intro w; first | (go_simp; done) | (go_simp; with_reducible rfl)
            refine wpAny_take (i := 7) (v := ?_) rfl (by kernel_rfl) (by kernel_rfl) (by kernel_rfl) (fun _ _ _ h => h) (Or.inl ⟨by kernel_rfl, ?_⟩) ?_
            rotate_left
            · intro w; first | (go_simp; done) | (go_simp; with_reducible rfl)
            refine wpAny_ready (rs := [8, 9]) (by kernel_rfl) (by simp) ?_
            refine AllReady.cons rfl (fun K hK => ?_) (AllReady.cons rfl (fun K hK => ?_) AllReady.nil)
            · go_simp
              refine hK _ _ ?_
              clear hK K
              refine wpAny_ready (rs := [9]) (by kernel_rfl) (by simp) ?_
              refine AllReady.cons rfl (fun K hK => ?_) AllReady.nil
              go_simp
              refine hK _ _ ?_
              clear hK K
              refine wpAny_take (i := 10) (v := ?_) rfl (by kernel_rfl) (by kernel_rfl) (by kernel_rfl) (fun _ _ _ h => h) (Or.inl ⟨by kernel_rfl, ?_⟩) ?_
              rotate_left
              · intro w; first | (go_simp; done) | (go_simp; with_reducible rfl)
              refine wpAny_take (i := 11) (v := ?_) rfl (by kernel_rfl) (by kernel_rfl) (by kernel_rfl) (fun _ _ _ h => h) (Or.inl ⟨by kernel_rfl, ?_⟩) ?_
              rotate_left
              · intro w; first | (go_simp; done) | (go_simp; with_reducible rfl)
              refine wpAny_done (by kernel_rfl) ?_ _
              have B3 : Below w1.heap.size w1 wc.drew := HBc.out.drew
              go_wp2_with fail
              go_meet
              exact ⟨t, rfl, HT2, B3⟩
            · go_simp
              refine hK _ _ ?_
              clear hK K
              refine wpAny_ready (rs := [8]) (by kernel_rfl) (by simp) ?_
              refine AllReady.cons rfl (fun K hK => ?_) AllReady.nil
              go_simp
              refine hK _ _ ?_
              clear hK K
              refine wpAny_take (i := 10) (v := ?_) rfl (by kernel_rfl) (by kernel_rfl) (by kernel_rfl) (fun _ _ _ h => h) (Or.inl ⟨by kernel_rfl, ?_⟩) ?_
              rotate_left
              · intro w; first | (go_simp; done) | (go_simp; with_reducible rfl)
              refine wpAny_take (i := 11) (v := ?_) rfl (by kernel_rfl) (by kernel_rfl) (by kernel_rfl) (fun _ _ _ h => h) (Or.inl ⟨by kernel_rfl, ?_⟩) ?_
              rotate_left
              · intro w; first | (go_simp; done) | (go_simp; with_reducible rfl)
              refine wpAny_done (by kernel_rfl) ?_ _
              have B3 : Below w1.heap.size w1 wc.drew := HBc.out.drew
              go_wp2_with fail
              go_meet
              exact ⟨t, rfl, HT2, B3⟩
          · have HNo : Hid (¬ O[j]? = some (p1, p2, p3, p4)) := Lib.hid (by
              rw [List.getElem?_eq_none (by omega)]; simp)
            have hn : ¬ ((j : Int) < (O.length : Int)) := by omega
            have hn2 : ((j : Int) < (O.length : Int)) = False := by simp; omega
            clear hjg
            refine wp_region_any (by kernel_rfl) ?_
            try (change wpAny _ _ _ _ _ _ _ (World.drew _))
            refine wpAny_take (i := 0) (v := ?_) rfl (by kernel_rfl) (by kernel_rfl) (by kernel_rfl) (fun _ _ _ h => h) (Or.inl ⟨by kernel_rfl, ?_⟩) ?_
            rotate_left
            · intro w; first | (go_simp; done) | (go_simp; with_reducible rfl)
            refine wpAny_take (i := 1) (v := ?_) rfl (by kernel_rfl) (by kernel_rfl) (by kernel_rfl) (fun _ _ _ h => h) (Or.inl ⟨by kernel_rfl, ?_⟩) ?_
            rotate_left
            · intro w; first | (go_simp; done) | (go_simp; with_reducible rfl)
            refine wpAny_take (i := 2) (v := ?_) rfl (by kernel_rfl) (by kernel_rfl) (by kernel_rfl) (fun _ _ _ h => h) (Or.inl ⟨by kernel_rfl, ?_⟩) ?_
            rotate_left
            · intro w; first | (go_simp; done) | (go_simp; with_reducible rfl)
            refine wpAny_take (i := 3) (v := ?_) rfl (by kernel_rfl) (by kernel_rfl) (by kernel_rfl) (fun _ _ _ h => h) (Or.inl ⟨by kernel_rfl, ?_⟩) ?_
            rotate_left
            · intro w; first | (go_simp; done) | (go_simp; with_reducible rfl)
            refine wpAny_take (i := 4) (v := ?_) rfl (by kernel_rfl) (by kernel_rfl) (by kernel_rfl) (fun _ _ _ h => h) (Or.inl ⟨by kernel_rfl, ?_⟩) ?_
            rotate_left
            · intro w; first | (go_simp; done) | (go_simp; with_reducible rfl)
            refine wpAny_take (i := 5) (v := undef) rfl (by kernel_rfl) (by kernel_rfl) (by kernel_rfl) (fun _ _ _ h => h) (Or.inr ⟨by kernel_rfl, rfl⟩) ?_
            go_simp
            refine wpAny_take (i := 6) (v := undef) rfl (by kernel_rfl) (by kernel_rfl) (by kernel_rfl) (fun _ _ _ h => h) (Or.inr ⟨by kernel_rfl, rfl⟩) ?_
            go_simp
            refine wpAny_take (i := 7) (v := undef) rfl (by kernel_rfl) (by kernel_rfl) (by kernel_rfl) (fun _ _ _ h => h) (Or.inr ⟨by kernel_rfl, rfl⟩) ?_
            go_simp
            refine wpAny_take (i := 8) (v := undef) rfl (by kernel_rfl) (by kernel_rfl) (by kernel_rfl) (fun _ _ _ h => h) (Or.inr ⟨by kernel_rfl, rfl⟩) ?_
            go_simp
            refine wpAny_take (i := 9) (v := undef) rfl (by kernel_rfl) (by kernel_rfl) (by kernel_rfl) (fun _ _ _ h => h) (Or.inr ⟨by kernel_rfl, rfl⟩) ?_
            go_simp
            refine wpAny_take (i := 10) (v := undef) rfl (by kernel_rfl) (by kernel_rfl) (by kernel_rfl) (fun _ _ _ h => h) (Or.inr ⟨by kernel_rfl, rfl⟩) ?_
            go_simp
            refine wpAny_take (i := 11) (v := ?_) rfl (by kernel_rfl) (by kernel_rfl) (by kernel_rfl) (fun _ _ _ h => h) (Or.inl ⟨by kernel_rfl, ?_⟩) ?_
            rotate_left
            · intro w; first | (go_simp; done) | (go_simp; with_reducible rfl)
            refine wpAny_done (by kernel_rfl) ?_ _
            have B3 : Below w1.heap.size w1 wc.drew := HBc.out.drew
            go_wp2_with fail
            go_meet
            exact ⟨false, rfl, Lib.hid ⟨fun h => (by cases h), fun h => absurd h HNo.out⟩, B3⟩
        case rest =>
          obtain ⟨t, ht, HQ, B3⟩ := hcut
          subst ht
          have HWd : Hid (wc.ownsRow lo 31 4 (.slice (some ⟨b, 0, none⟩) O.length c) O.length (flatL O)) := Lib.hid (ownTurnL HW1.out (belowGL B3) (fun j e => by cases e))
          have HBd := Lib.hid (B1.out.trans (B3.mono B1.out.size))
          cases t
          · have HNw : Hid (¬ O[lessNL O (p1, p2, p3, p4)]? = some (p1, p2, p3, p4)) := Lib.hid (by
              rw [HLs.out]; intro h; have := HQ.out.2 h; cases this)
            have s0 := cellThru B3 hg1 y0
            have s1 := cellThru B3 hg1 y1
            have s2 := cellThru B3 hg1 y2
            have s3 := cellThru B3 hg1 y3
            have hgd : w.heap.size < wc.heap.size := Nat.lt_of_lt_of_le hg1 B3.size
            have hbd : b < wc.heap.size := Nat.lt_of_lt_of_le hbw B3.size
            clear HQ B3 HBc HW1 B1 y0 y1 y2 y3 hg1 hbw hgc hbc
            by_cases hcj : c = j
            · have hm0 : O.length = j := by omega
              have hd : O.drop j = [] := by rw [← hm0]; exact List.drop_length
              go_wp2_with fail
              refine wp_region_any (by kernel_rfl) ?_
              try (change wpAny _ _ _ _ _ _ _ (World.drew _))
              refine wpAny_take (i := 2) (v := ?_) rfl (by kernel_rfl) (by kernel_rfl) (by kernel_rfl) (fun _ _ _ h => h) (Or.inl ⟨by kernel_rfl, ?_⟩) ?_
              rotate_left
              · intro w; first | (go_simp; done) | (go_simp; with_reducible rfl)
              refine wpAny_take (i := 3) (v := ?_) rfl (by kernel_rfl) (by kernel_rfl) (by kernel_rfl) (fun _ _ _ h => h) (Or.inl ⟨by kernel_rfl, ?_⟩) ?_
              rotate_left
              · intro w; first | (go_simp; done) | (go_simp; with_reducible rfl)
              refine wpAny_take (i := 4) (v := ?_) rfl (by kernel_rfl) (by kernel_rfl) (by kernel_rfl) (fun _ _ _ h => h) (Or.inl ⟨by kernel_rfl, ?_⟩) ?_
              rotate_left
              · intro w; first | (go_simp; done) | (go_simp; with_reducible rfl)
              refine wpAny_ready (rs := [0]) (by kernel_rfl) (by simp) ?_
              refine AllReady.cons rfl (fun K hK => ?_) AllReady.nil
              go_simp
              refine hK _ _ ?_
              clear hK K
              refine wpAny_ready (rs := [1]) (by kernel_rfl) (by simp) ?_
              refine AllReady.cons rfl (fun K hK => ?_) AllReady.nil
              go_simp
              refine hK _ _ ?_
              clear hK K
              refine wpAny_ready (rs := [5]) (by kernel_rfl) (by simp) ?_
              refine AllReady.cons rfl (fun K hK => ?_) AllReady.nil
              refine step_append_atL _ rfl (.tmp 35) (.tmp 38) 26 rfl wc.heap.size 31 i0 (.agg #[.int .i64 0, .int .i64 0, .int .i64 0, .int .i64 0]) 4 32 Try.underlying26 hi hz0 hz1 hz2 rfl (by decide) (.slice (some ⟨wc.heap.size, 0, none⟩) 1 1) 1 [.int .i64 p1, .int .i64 p2, .int .i64 p3, .int .i64 p4] rfl ⟨rfl, .inr ⟨wc.heap.size, 1, #[.int .i64 p1, .int .i64 p2, .int .i64 p3, .int .i64 p4], rfl, Nat.le_refl _, heap_alloc_new wc (.cells #[.int .i64 p1, .int .i64 p2, .int .i64 p3, .int .i64 p4] 31), by omega, by unfold maxLen; omega, rfl, rfl⟩⟩ _ _ _ (flatL (O.drop j)) rfl ?r1 ?r2 ?r3 ?r4 ?r5 ?r6 ?_
              case r1 => have e := flatL_len (O.drop j); rw [List.length_drop] at e; omega
              case r2 => rw [hd]; intro i u hu; simp [flatL] at hu
              case r3 => exact flatL_one _
              case r4 => unfold maxLen; omega
              case r5 => omega
              case r6 => simp
              intro v9 w9 hown9 hgrow9
              refine hK _ _ ?_
              clear hK K
              refine wpAny_take (i := 6) (v := ?_) rfl (by kernel_rfl) (by kernel_rfl) (by kernel_rfl) (fun _ _ _ h => h) (Or.inl ⟨by kernel_rfl, ?_⟩) ?_
              rotate_left
              · intro w; first | (go_simp; done) | (go_simp; with_reducible rfl)
              refine wpAny_done (by kernel_rfl) ?_ _
              have hown9' : w9.ownsRow wc.heap.size 31 4 v9 (O.length - j + 1) (flatL ((p1, p2, p3, p4) :: O.drop j)) := by
                have e0 : O.length - j + 1 = 1 + (O.length - j) := by omega
                rw [e0]
                rw [show O.length - j = 0 by omega]
                exact hown9
              obtain ⟨gr, cr, rfl⟩ := ownsRow_succ hown9'
              have hgr : wc.heap.size ≤ gr := own_blockL hown9' gr rfl
              have hgl : gr < w9.heap.size := own_ltL hown9' gr rfl
              have HR9 := Lib.hid hown9'
              have hs9 : wc.heap.size < w9.heap.size := by have := hgrow9.size; simp at this; omega
              have HW9 : Hid (w9.ownsRow lo 31 4 (.slice (some ⟨b, 0, none⟩) O.length c) O.length (flatL O)) := Lib.hid (ownFarL (show World.ownsRow ((wc.alloc (.cells #[.int .i64 p1, .int .i64 p2, .int .i64 p3, .int .i64 p4] 31)).drew) lo 31 4 (.slice (some ⟨b, 0, none⟩) O.length c) O.length (flatL O) from World.ownsRow.alloc HWd.out _) hgrow9 (fun j e => by simp [Value.ownBlock] at e ⊢; omega))
              have HB9 : Hid (Below w.heap.size w w9) := Lib.hid ((belowAlloc HBd.out (.cells #[.int .i64 p1, .int .i64 p2, .int .i64 p3, .int .i64 p4] 31)).drew.grown hgrow9 (by simp; omega) (fun j e => by simp [Value.ownBlock] at e; omega))
              have hcO2 : j ≤ c := by omega
              clear hown9 hown9' hgrow9 s0 s1 s2 s3 HWd HBd
              go_wp2_with (at_builtin; refine wpList_append_own_at _ rfl _ _ 26 rfl wc.heap.size 31 i0 (.agg #[.int .i64 0, .int .i64 0, .int .i64 0, .int .i64 0]) 4 32 Try.underlying26 hi hz0 hz1 hz2 rfl (by decide) (.slice (some ⟨w9.heap.size, 0, none⟩) 0 0) 0 [] rfl ⟨rfl, .inr ⟨w9.heap.size, 0, #[], rfl, Nat.le_of_lt hs9, heap_alloc_new w9 (.cells #[] 31), by omega, by unfold maxLen; omega, rfl, rfl⟩⟩ ⟨b, 0, none⟩ j _ (flatL (O.take j)) rfl ?r1 ?r2 ?r3 ?r4 ?r5 ?r6 ?_)
              case r1 => have e := flatL_len (O.take j); rw [List.length_take] at e; omega
              case r2 => exact news_of_rowL (World.ownsRow.alloc HW9.out _) 0 _ (fun i u hu => by rw [flatL_take] at hu; rw [Nat.zero_add]; rw [List.getElem?_take] at hu; split at hu; exact hu; cases hu)
              case r3 => exact flatL_one _
              case r4 => unfold maxLen; omega
              case r5 => omega
              case r6 => simp; omega
              intro v10 w10 hown10 hgrow10 _ _
              have HR10 : Hid (w10.ownsRow wc.heap.size 31 4 (.slice (some ⟨gr, 0, none⟩) (O.length - j + 1) cr) (O.length - j + 1) (flatL ((p1, p2, p3, p4) :: O.drop j))) := Lib.hid (ownFarL (World.ownsRow.alloc HR9.out (.cells #[] 31)) hgrow10 (fun j e => by simp [Value.ownBlock] at e ⊢; omega))
              have HB10 : Hid (Below w.heap.size w w10) := Lib.hid ((belowAlloc HB9.out (.cells #[] 31)).grown hgrow10 (by simp; omega) (fun j e => by simp [Value.ownBlock] at e; omega))
              have hs10 : wc.heap.size < w10.heap.size := by have := hgrow10.size; simp at this; omega
              have HO10 := Lib.hid hown10
              clear hown10 hgrow10 HR9 HW9 HB9
              go_wp2_with (at_builtin; refine wpList_append_own_at _ rfl _ _ 26 rfl wc.heap.size 31 i0 (.agg #[.int .i64 0, .int .i64 0, .int .i64 0, .int .i64 0]) 4 32 Try.underlying26 hi hz0 hz1 hz2 rfl (by decide) v10 j (flatL (O.take j)) rfl HO10.out ⟨gr, 0, none⟩ _ _ (flatL ((p1, p2, p3, p4) :: O.drop j)) rfl ?r1 ?r2 ?r3 ?r4 ?r5 ?r6 ?_)
              case r1 => have e := flatL_len ((p1, p2, p3, p4) :: O.drop j); rw [List.length_cons, List.length_drop] at e; omega
              case r2 => exact news_of_rowL HR10.out 0 _ (fun i u hu => by rw [Nat.zero_add]; exact hu)
              case r3 => exact flatL_one _
              case r4 => unfold maxLen; omega
              case r5 => omega
              case r6 => omega
              intro v11 w11 hown11 hgrow11 _ _
              have hown11' : w11.ownsRow wc.heap.size 31 4 v11 (O.length + 1) (flatL (insL O (p1, p2, p3, p4))) := by
                have e1 : j + (O.length - j + 1) = O.length + 1 := by omega
                have e2 : flatL (O.take j) ++ flatL ((p1, p2, p3, p4) :: O.drop j) = flatL (insL O (p1, p2, p3, p4)) := by rw [insL_new HNw.out, HLs.out, flatL_app]
                rw [hd] at e2
                rw [show O.length + 1 = j + 1 by omega, ← e2]
                exact hown11
              obtain ⟨gn, cn, rfl⟩ := ownsRow_succ hown11'
              have HB11 : Hid (Below w.heap.size w w11) := Lib.hid (HB10.out.grown hgrow11 (by omega) (fun j e => by have := own_blockL HO10.out j e; omega))
              have HW11 : Hid (w11.ownsRow lo 31 4 (.slice (some ⟨gn, 0, none⟩) (O.length + 1) cn) (O.length + 1) (flatL (insL O (p1, p2, p3, p4)))) := Lib.hid (ownMonoL hown11' (by omega))
              clear hown11 hown11' hgrow11 HO10 HR10 HB10
              go_wp2
              go_ret
              rw [insL_len HNw.out]
              exact ⟨gn, cn, rfl, HW11.out, HB11.out⟩
            · skip
              go_wp2_with fail
              refine wp_region_any (by kernel_rfl) ?_
              try (change wpAny _ _ _ _ _ _ _ (World.drew _))
              refine wpAny_take (i := 2) (v := ?_) rfl (by kernel_rfl) (by kernel_rfl) (by kernel_rfl) (fun _ _ _ h => h) (Or.inl ⟨by kernel_rfl, ?_⟩) ?_
              rotate_left
              · intro w; first | (go_simp; done) | (go_simp; with_reducible rfl)
              refine wpAny_take (i := 3) (v := ?_) rfl (by kernel_rfl) (by kernel_rfl) (by kernel_rfl) (fun _ _ _ h => h) (Or.inl ⟨by kernel_rfl, ?_⟩) ?_
              rotate_left
              · intro w; first | (go_simp; done) | (go_simp; with_reducible rfl)
              refine wpAny_take (i := 4) (v := ?_) rfl (by kernel_rfl) (by kernel_rfl) (by kernel_rfl) (fun _ _ _ h => h) (Or.inl ⟨by kernel_rfl, ?_⟩) ?_
              rotate_left
              · intro w; first | (go_simp; done) | (go_simp; with_reducible rfl)
              refine wpAny_ready (rs := [0]) (by kernel_rfl) (by simp) ?_
              refine AllReady.cons rfl (fun K hK => ?_) AllReady.nil
              go_simp
              refine hK _ _ ?_
              clear hK K
              refine wpAny_ready (rs := [1]) (by kernel_rfl) (by simp) ?_
              refine AllReady.cons rfl (fun K hK => ?_) AllReady.nil
              go_simp
              refine hK _ _ ?_
              clear hK K
              refine wpAny_ready (rs := [5]) (by kernel_rfl) (by simp) ?_
              refine AllReady.cons rfl (fun K hK => ?_) AllReady.nil
              refine step_append_atL _ rfl (.tmp 35) (.tmp 38) 26 rfl wc.heap.size 31 i0 (.agg #[.int .i64 0, .int .i64 0, .int .i64 0, .int .i64 0]) 4 32 Try.underlying26 hi hz0 hz1 hz2 rfl (by decide) (.slice (some ⟨wc.heap.size, 0, none⟩) 1 1) 1 [.int .i64 p1, .int .i64 p2, .int .i64 p3, .int .i64 p4] rfl ⟨rfl, .inr ⟨wc.heap.size, 1, #[.int .i64 p1, .int .i64 p2, .int .i64 p3, .int .i64 p4], rfl, Nat.le_refl _, heap_alloc_new wc (.cells #[.int .i64 p1, .int .i64 p2, .int .i64 p3, .int .i64 p4] 31), by omega, by unfold maxLen; omega, rfl, rfl⟩⟩ _ _ _ (flatL (O.drop j)) rfl ?r1 ?r2 ?r3 ?r4 ?r5 ?r6 ?_
              case r1 => have e := flatL_len (O.drop j); rw [List.length_drop] at e; omega
              case r2 => exact news_of_rowL (show World.ownsRow ((wc.alloc (.cells #[.int .i64 p1, .int .i64 p2, .int .i64 p3, .int .i64 p4] 31)).drew) lo 31 4 (.slice (some ⟨b, 0, none⟩) O.length c) O.length (flatL O) from World.ownsRow.alloc HWd.out _) (j * 4) _ (fun i u hu => by rw [flatL_drop, List.getElem?_drop] at hu; exact hu)
              case r3 => exact flatL_one _
              case r4 => unfold maxLen; omega
              case r5 => omega
              case r6 => simp
              intro v9 w9 hown9 hgrow9
              refine hK _ _ ?_
              clear hK K
              refine wpAny_take (i := 6) (v := ?_) rfl (by kernel_rfl) (by kernel_rfl) (by kernel_rfl) (fun _ _ _ h => h) (Or.inl ⟨by kernel_rfl, ?_⟩) ?_
              rotate_left
              · intro w; first | (go_simp; done) | (go_simp; with_reducible rfl)
              refine wpAny_done (by kernel_rfl) ?_ _
              have hown9' : w9.ownsRow wc.heap.size 31 4 v9 (O.length - j + 1) (flatL ((p1, p2, p3, p4) :: O.drop j)) := by
                have e0 : O.length - j + 1 = 1 + (O.length - j) := by omega
                rw [e0]
                exact hown9
              obtain ⟨gr, cr, rfl⟩ := ownsRow_succ hown9'
              have hgr : wc.heap.size ≤ gr := own_blockL hown9' gr rfl
              have hgl : gr < w9.heap.size := own_ltL hown9' gr rfl
              have HR9 := Lib.hid hown9'
              have hs9 : wc.heap.size < w9.heap.size := by have := hgrow9.size; simp at this; omega
              have HW9 : Hid (w9.ownsRow lo 31 4 (.slice (some ⟨b, 0, none⟩) O.length c) O.length (flatL O)) := Lib.hid (ownFarL (show World.ownsRow ((wc.alloc (.cells #[.int .i64 p1, .int .i64 p2, .int .i64 p3, .int .i64 p4] 31)).drew) lo 31 4 (.slice (some ⟨b, 0, none⟩) O.length c) O.length (flatL O) from World.ownsRow.alloc HWd.out _) hgrow9 (fun j e => by simp [Value.ownBlock] at e ⊢; omega))
              have HB9 : Hid (Below w.heap.size w w9) := Lib.hid ((belowAlloc HBd.out (.cells #[.int .i64 p1, .int .i64 p2, .int .i64 p3, .int .i64 p4] 31)).drew.grown hgrow9 (by simp; omega) (fun j e => by simp [Value.ownBlock] at e; omega))
              have hcO2 : j ≤ c := by omega
              clear hown9 hown9' hgrow9 s0 s1 s2 s3 HWd HBd
              go_wp2_with (at_builtin; refine wpList_append_own_at _ rfl _ _ 26 rfl wc.heap.size 31 i0 (.agg #[.int .i64 0, .int .i64 0, .int .i64 0, .int .i64 0]) 4 32 Try.underlying26 hi hz0 hz1 hz2 rfl (by decide) (.slice (some ⟨w9.heap.size, 0, none⟩) 0 0) 0 [] rfl ⟨rfl, .inr ⟨w9.heap.size, 0, #[], rfl, Nat.le_of_lt hs9, heap_alloc_new w9 (.cells #[] 31), by omega, by unfold maxLen; omega, rfl, rfl⟩⟩ ⟨b, 0, none⟩ j _ (flatL (O.take j)) rfl ?r1 ?r2 ?r3 ?r4 ?r5 ?r6 ?_)
              case r1 => have e := flatL_len (O.take j); rw [List.length_take] at e; omega
              case r2 => exact news_of_rowL (World.ownsRow.alloc HW9.out _) 0 _ (fun i u hu => by rw [flatL_take] at hu; rw [Nat.zero_add]; rw [List.getElem?_take] at hu; split at hu; exact hu; cases hu)
              case r3 => exact flatL_one _
              case r4 => unfold maxLen; omega
              case r5 => omega
              case r6 => simp; omega
              intro v10 w10 hown10 hgrow10 _ _
              have HR10 : Hid (w10.ownsRow wc.heap.size 31 4 (.slice (some ⟨gr, 0, none⟩) (O.length - j + 1) cr) (O.length - j + 1) (flatL ((p1, p2, p3, p4) :: O.drop j))) := Lib.hid (ownFarL (World.ownsRow.alloc HR9.out (.cells #[] 31)) hgrow10 (fun j e => by simp [Value.ownBlock] at e ⊢; omega))
              have HB10 : Hid (Below w.heap.size w w10) := Lib.hid ((belowAlloc HB9.out (.cells #[] 31)).grown hgrow10 (by simp; omega) (fun j e => by simp [Value.ownBlock] at e; omega))
              have hs10 : wc.heap.size < w10.heap.size := by have := hgrow10.size; simp at this; omega
              have HO10 := Lib.hid hown10
              clear hown10 hgrow10 HR9 HW9 HB9
              go_wp2_with (at_builtin; refine wpList_append_own_at _ rfl _ _ 26 rfl wc.heap.size 31 i0 (.agg #[.int .i64 0, .int .i64 0, .int .i64 0, .int .i64 0]) 4 32 Try.underlying26 hi hz0 hz1 hz2 rfl (by decide) v10 j (flatL (O.take j)) rfl HO10.out ⟨gr, 0, none⟩ _ _ (flatL ((p1, p2, p3, p4) :: O.drop j)) rfl ?r1 ?r2 ?r3 ?r4 ?r5 ?r6 ?_)
              case r1 => have e := flatL_len ((p1, p2, p3, p4) :: O.drop j); rw [List.length_cons, List.length_drop] at e; omega
              case r2 => exact news_of_rowL HR10.out 0 _ (fun i u hu => by rw [Nat.zero_add]; exact hu)
              case r3 => exact flatL_one _
              case r4 => unfold maxLen; omega
              case r5 => omega
              case r6 => omega
              intro v11 w11 hown11 hgrow11 _ _
              have hown11' : w11.ownsRow wc.heap.size 31 4 v11 (O.length + 1) (flatL (insL O (p1, p2, p3, p4))) := by
                have e1 : j + (O.length - j + 1) = O.length + 1 := by omega
                have e2 : flatL (O.take j) ++ flatL ((p1, p2, p3, p4) :: O.drop j) = flatL (insL O (p1, p2, p3, p4)) := by rw [insL_new HNw.out, HLs.out, flatL_app]
                rw [e1, e2] at hown11
                exact hown11
              obtain ⟨gn, cn, rfl⟩ := ownsRow_succ hown11'
              have HB11 : Hid (Below w.heap.size w w11) := Lib.hid (HB10.out.grown hgrow11 (by omega) (fun j e => by have := own_blockL HO10.out j e; omega))
              have HW11 : Hid (w11.ownsRow lo 31 4 (.slice (some ⟨gn, 0, none⟩) (O.length + 1) cn) (O.length + 1) (flatL (insL O (p1, p2, p3, p4)))) := Lib.hid (ownMonoL hown11' (by omega))
              clear hown11 hown11' hgrow11 HO10 HR10 HB10
              go_wp2
              go_ret
              rw [insL_len HNw.out]
              exact ⟨gn, cn, rfl, HW11.out, HB11.out⟩
          · have he : insL O (p1, p2, p3, p4) = O := insL_old (by rw [HLs.out]; exact HQ.out.1 rfl)
            go_wp2
            go_ret
            exact ⟨b, c, rfl, HWd.out, HBd.out⟩
      · obtain ⟨q, hq, hlq⟩ := HQ.out.1 rfl
        have hjl : j < O.length := (List.getElem?_eq_some_iff.1 hq).1
        obtain ⟨g2, rfl⟩ : ∃ g2, gk = g2 + 1 := ⟨gk - 1, by omega⟩
        have HJ2 : Hid (∀ i, i < j + 1 → ∀ q, O[i]? = some q → lessX q (p1, p2, p3, p4) = true) := Lib.hid (fun i h q' hq' => by
          by_cases hij : i = j
          · subst hij
            rw [hq] at hq'
            injection hq' with e
            rw [← e]; exact hlq
          · exact HJ.out i (by omega) q' hq')
        have HB2 := Lib.hid B2
        clear HQ hq hlq B2 a0 a1 a2 a3 hg2 hb2
        go_wp2
        go_roundg g2
        case measure => omega
        case rel => exact ⟨j + 1, by omega, by go_num, HJ2, HB2⟩

theorem lf_lowB {a b c d : Int} (h : isLf a b c d = true) : angOk a b := by
  obtain ⟨h1, h2, h3, h4, _⟩ := (isLf_yes h).1
  exact ⟨h1, h2, h3, h4⟩
theorem lf_upB {a b c d : Int} (h : isLf a b c d = true) : angOk c d := by
  obtain ⟨h1, h2, h3, h4, _⟩ := (isLf_yes h).2.1
  exact ⟨h1, h2, h3, h4⟩
theorem cmpL_eq {a b c d e f g h : Int} (hx : isLf a b c d = true) (hy : isLf e f g h = true) : cmpL a b c d e f g h = 0 ↔ (a, b, c, d) = (e, f, g, h) := by
  obtain ⟨r1, r2, -⟩ := isLf_yes hx
  obtain ⟨r3, r4, -⟩ := isLf_yes hy
  constructor
  · intro h0
    unfold cmpL at h0
    split at h0
    · next h1 =>
      have e1 := redEq r1 r3 (cmpI_zero h1)
      have e2 := redEq r2 r4 (cmpI_zero h0)
      simp only [Prod.mk.injEq] at e1 e2 ⊢
      exact ⟨e1.1, e1.2, e2.1, e2.2⟩
    · next h1 => exact absurd h0 h1
  · intro h0
    simp only [Prod.mk.injEq] at h0
    obtain ⟨rfl, rfl, rfl, rfl⟩ := h0
    unfold cmpL
    rw [cmpI_same, cmpI_same]
    rfl

set_option maxRecDepth 100000 in
set_option maxHeartbeats 2000000 in
theorem binSearch (A : Option Addr) (len cap : Nat) (l : List Lf4) (p1 p2 p3 p4 : Int) (w : World) (hr : LfRow w w.heap.size A l) (hl : l.length = len) (hm : len ≤ 1000000) (hA : allLf l = true) (hs : Asc l) (hp : isLf p1 p2 p3 p4 = true) :
    Calls Try.prog 117 #[.slice A len cap, leafV p1 p2 p3 p4, .func (Fn.func 82) #[] #[]] w fun e w' => (∃ t : Bool, e = .returned (.tuple #[.int .i64 (lessNL l (p1, p2, p3, p4) : Int), .bool t]) ∧ Hid (t = true ↔ l[lessNL l (p1, p2, p3, p4)]? = some (p1, p2, p3, p4))) ∧ Below w.heap.size w w' := by
  have HR := Lib.hid hr
  have HL := Lib.hid hl
  have HA := Lib.hid hA
  have HS := Lib.hid hs
  have HP := Lib.hid hp
  obtain ⟨n, hn⟩ : ∃ n, lessNL l (p1, p2, p3, p4) = n := ⟨_, rfl⟩
  have HNn := Lib.hid hn
  rw [hn]
  clear hr hl hA hs hp hn
  go_enter Try.func117, Try.ntmps117
  go_wp2_with fail
  obtain ⟨w1, hw1⟩ : ∃ w1, w.alloc (.cells #[.int .i64 p1, .int .i64 p2, .int .i64 p3, .int .i64 p4] 31) = w1 := ⟨_, rfl⟩
  have hg1 : w.heap.size < w1.heap.size := by rw [← hw1]; simp
  have y0 : w1.cell? ⟨w.heap.size, 0, none⟩ = some (.int .i64 p1) := by rw [← hw1]; simp [go_sem]
  have y1 : w1.cell? ⟨w.heap.size, 1, none⟩ = some (.int .i64 p2) := by rw [← hw1]; simp [go_sem]
  have y2 : w1.cell? ⟨w.heap.size, 2, none⟩ = some (.int .i64 p3) := by rw [← hw1]; simp [go_sem]
  have y3 : w1.cell? ⟨w.heap.size, 3, none⟩ = some (.int .i64 p4) := by rw [← hw1]; simp [go_sem]
  have B1 : Hid (Below w.heap.size w w1) := Lib.hid (by rw [← hw1]; exact belowAlloc (Below.refl _ _) _)
  rw [hw1]
  clear hw1
  go_loopg [9, 10] len (fun g s9 s10 wx => ∃ i j : Nat, i ≤ j ∧ j ≤ len ∧ j = i + g ∧ s9 = .int .i64 i ∧ s10 = .int .i64 j ∧ Hid (∀ t, t < i → ∀ q, l[t]? = some q → lessX q (p1, p2, p3, p4) = true) ∧ Hid (∀ t, j ≤ t → ∀ q, l[t]? = some q → lessX q (p1, p2, p3, p4) = false) ∧ Hid (Below w1.heap.size w1 wx))
  case atStart => exact ⟨0, len, by omega, by omega, by omega, rfl, rfl, Lib.hid (fun t h => absurd h (by omega)), Lib.hid (fun t h q hq => by rw [List.getElem?_eq_none (by have := HL.out; omega)] at hq; cases hq), Lib.hid (Below.refl _ _)⟩
  case round =>
    obtain ⟨i, j, hij, hjl, hg, rfl, rfl, HLo, HHi, BX⟩ := hrel
    have hgw : w.heap.size < wr.heap.size := Nat.lt_of_lt_of_le hg1 BX.out.size
    have a0 := cellThru BX.out hg1 y0
    have a1 := cellThru BX.out hg1 y1
    have a2 := cellThru BX.out hg1 y2
    have a3 := cellThru BX.out hg1 y3
    cases gk with
    | zero =>
      obtain rfl : j = i := by omega
      clear hg hij
      have hli : ¬ ((j : Int) < (j : Int)) := by omega
      by_cases hjn : j < len
      · have hjn2 : (j : Int) < (len : Int) := by omega
        obtain ⟨q1, q2, q3, q4, hx⟩ := lfAt (l := l) (k := j) (by have := HL.out; omega)
        have hne : l ≠ [] := by intro h0; rw [h0] at hx; simp at hx
        obtain ⟨b, off, rfl, hbb, hcells⟩ := row_at HR.out hne
        have hbe : Below w.heap.size w wr := B1.out.trans (BX.out.mono B1.out.size)
        obtain ⟨x0, x1, x2, x3⟩ := (hcells j q1 q2 q3 q4 hx).next hbe hbb
        have hbw : b < wr.heap.size := Nat.lt_of_lt_of_le hbb hbe.size
        have hlf : isLf q1 q2 q3 q4 = true := allLf_at HA.out hx
        have HC := Lib.hid (fun w => implCmpL q1 q2 q3 q4 p1 p2 p3 p4 w (lf_lowB hlf) (lf_upB hlf) (lf_lowB HP.out) (lf_upB HP.out))
        have HN : Hid (n = j) := Lib.hid (by
          rw [← HNn.out]
          exact lessNL_stop (by have := HL.out; omega) HLo.out hx (HHi.out j (Nat.le_refl _) _ hx))
        have HQ := Lib.hid (cmpL_eq hlf HP.out)
        have hrg := cmpL_range q1 q2 q3 q4 p1 p2 p3 p4
        generalize cmpL q1 q2 q3 q4 p1 p2 p3 p4 = R at *
        have HT : Hid (decide (R = 0) = true ↔ l[n]? = some (p1, p2, p3, p4)) := Lib.hid (by
          rw [decide_eq_true_eq, HQ.out, HN.out, hx, Option.some.injEq])
        obtain ⟨t, ht⟩ : ∃ t, decide (R = 0) = t := ⟨_, rfl⟩
        rw [ht] at HT
        have ht2 : (R == 0) = t := by rw [← ht]; rfl
        clear hcells hne hx hlf HQ
        go_wp2_with fail
        refine wp_region_any (by kernel_rfl) ?_
        try (change wpAny _ _ _ _ _ _ _ (World.drew _))
        refine wpAny_take (i := 0) (v := ?_) rfl (by kernel_rfl) (by kernel_rfl) (by kernel_rfl) (fun _ _ _ h => h) (Or.inl ⟨by kernel_rfl, ?_⟩) ?_
        rotate_left
        · intro w; first | (go_simp; done) | (go_simp; with_reducible rfl)
        refine wpAny_take (i := 1) (v := ?_) rfl (by kernel_rfl) (by kernel_rfl) (by kernel_rfl) (fun _ _ _ h => h) (Or.inl ⟨by kernel_rfl, ?_⟩) ?_
        rotate_left
        · intro w; first | (go_simp; done) | (go_simp; with_reducible rfl)
        refine wpAny_take (i := 2) (v := ?_) rfl (by kernel_rfl) (by kernel_rfl) (by kernel_rfl) (fun _ _ _ h => h) (Or.inl ⟨by kernel_rfl, ?_⟩) ?_
        rotate_left
        · intro w; first | (go_simp; done) | (go_simp; with_reducible rfl)
        refine wpAny_take (i := 3) (v := ?_) rfl (by kernel_rfl) (by kernel_rfl) (by kernel_rfl) (fun _ _ _ h => h) (Or.inl ⟨by kernel_rfl, ?_⟩) ?_
        rotate_left
        · intro w; first | (go_simp; done) | (go_simp; with_reducible rfl)
        refine wpAny_take (i := 4) (v := ?_) rfl (by kernel_rfl) (by kernel_rfl) (by kernel_rfl) (fun _ _ _ h => h) (Or.inl ⟨by kernel_rfl, ?_⟩) ?_
        rotate_left
        · intro w; first | (go_simp; done) | (go_simp; with_reducible rfl)
        refine wpAny_take (i := 5) (v := ?_) rfl (by kernel_rfl) (by kernel_rfl) (by kernel_rfl) (fun _ _ _ h => h) (Or.inl ⟨by kernel_rfl, ?_⟩) ?_
        rotate_left
        · intro w; first | (go_simp; done) | (go_simp; with_reducible rfl)
        refine wpAny_take (i := 6) (v := ?_) rfl (by kernel_rfl) (by kernel_rfl) (by kernel_rfl) (fun _ _ _ h => h) (Or.inl ⟨by kernel_rfl, ?_⟩) ?_
        rotate_left
        · intro w; first | (go_simp; done) | (go_simp; with_reducible rfl)
        refine wpAny_take (i := 7) (v := ?_) rfl (by kernel_rfl) (by kernel_rfl) (by kernel_rfl) (fun _ _ _ h => h) (Or.inl ⟨by kernel_rfl, ?_⟩) ?_
        rotate_left
        · intro w; first | (go_simp; done) | (go_simp; with_reducible rfl)
        refine wpAny_take (i := 8) (v := ?_) rfl (by kernel_rfl) (by kernel_rfl) (by kernel_rfl) (fun _ _ _ h => h) (Or.inl ⟨by kernel_rfl, ?_⟩) ?_
        rotate_left
        · intro w; first | (go_simp; done) | (go_simp; with_reducible rfl)
        refine wpAny_ready (rs := [9, 10]) (by kernel_rfl) (by simp) ?_
        refine AllReady.cons rfl (fun K hK => ?_) (AllReady.cons rfl (fun K hK => ?_) AllReady.nil)
        · go_simp
          refine hK _ _ ?_
          clear hK K
          refine wpAny_ready (rs := [10]) (by kernel_rfl) (by simp) ?_
          refine AllReady.cons rfl (fun K hK => ?_) AllReady.nil
          go_simp
          refine hK _ _ ?_
          clear hK K
          refine wpAny_ready (rs := [11]) (by kernel_rfl) (by simp) ?_
          refine AllReady.cons rfl (fun K hK => ?_) AllReady.nil
          go_simp
          go_wp2_with (go_at_call 82; (with_reducible refine (HC.out _).mono ?_); rintro e w2 ⟨rfl, hb2⟩)
          refine wpAny_take (i := 12) (v := ?_) rfl (by kernel_rfl) (by kernel_rfl) (by kernel_rfl) (fun _ _ _ h => h) (Or.inl ⟨by kernel_rfl, ?_⟩) ?_
          rotate_left
          · intro w; first | (go_simp; done) | (go_simp; with_reducible rfl)
          refine wpAny_take (i := 13) (v := ?_) rfl (by kernel_rfl) (by kernel_rfl) (by kernel_rfl) (fun _ _ _ h => h) (Or.inl ⟨by kernel_rfl, ?_⟩) ?_
          rotate_left
          · intro w; first | (go_simp; done) | (go_simp; with_reducible rfl)
          refine wpAny_take (i := 14) (v := ?_) rfl (by kernel_rfl) (by kernel_rfl) (by kernel_rfl) (fun _ _ _ h => h) (Or.inl ⟨by kernel_rfl, ?_⟩) ?_
          rotate_left
          · intro w; first | (go_simp; done) | (go_simp; with_reducible rfl)
          refine wpAny_take (i := 15) (v := ?_) rfl (by kernel_rfl) (by kernel_rfl) (by kernel_rfl) (fun _ _ _ h => h) (Or.inl ⟨by kernel_rfl, ?_⟩) ?_
          rotate_left
          · intro w; first | (go_simp; done) | (go_simp; with_reducible rfl)
          refine wpAny_done (by kernel_rfl) ?_ _
          have hB : Below w.heap.size w w2 := B1.out.trans ((belowNext BX.out.drew hb2).mono B1.out.size)
          go_wp2_with fail
          go_ret2
          exact ⟨⟨_, by rw [HN.out]; rfl, HT⟩, hB⟩
        · go_simp
          refine hK _ _ ?_
          clear hK K
          refine wpAny_ready (rs := [9]) (by kernel_rfl) (by simp) ?_
          refine AllReady.cons rfl (fun K hK => ?_) AllReady.nil
          go_simp
          refine hK _ _ ?_
          clear hK K
          refine wpAny_ready (rs := [11]) (by kernel_rfl) (by simp) ?_
          refine AllReady.cons rfl (fun K hK => ?_) AllReady.nil
          go_simp
          go_wp2_with (go_at_call 82; (with_reducible refine (HC.out _).mono ?_); rintro e w2 ⟨rfl, hb2⟩)
          refine wpAny_take (i := 12) (v := ?_) rfl (by kernel_rfl) (by kernel_rfl) (by kernel_rfl) (fun _ _ _ h => h) (Or.inl ⟨by kernel_rfl, ?_⟩) ?_
          rotate_left
          · intro w; first | (go_simp; done) | (go_simp; with_reducible rfl)
          refine wpAny_take (i := 13) (v := ?_) rfl (by kernel_rfl) (by kernel_rfl) (by kernel_rfl) (fun _ _ _ h => h) (Or.inl ⟨by kernel_rfl, ?_⟩) ?_
          rotate_left
          · intro w; first | (go_simp; done) | (go_simp; with_reducible rfl)
          refine wpAny_take (i := 14) (v := ?_) rfl (by kernel_rfl) (by kernel_rfl) (by kernel_rfl) (fun _ _ _ h => h) (Or.inl ⟨by kernel_rfl, ?_⟩) ?_
          rotate_left
          · intro w; first | (go_simp; done) | (go_simp; with_reducible rfl)
          refine wpAny_take (i := 15) (v := ?_) rfl (by kernel_rfl) (by kernel_rfl) (by kernel_rfl) (fun _ _ _ h => h) (Or.inl ⟨by kernel_rfl, ?_⟩) ?_
          rotate_left
          · intro w; first | (go_simp; done) | (go_simp; with_reducible rfl)
          refine wpAny_done (by kernel_rfl) ?_ _
          have hB : Below w.heap.size w w2 := B1.out.trans ((belowNext BX.out.drew hb2).mono B1.out.size)
          go_wp2_with fail
          go_ret2
          exact ⟨⟨_, by rw [HN.out]; rfl, HT⟩, hB⟩
      · have HN : Hid (n = j) := Lib.hid (by
          rw [← HNn.out, show j = l.length by have := HL.out; omega]
          exact lessNL_end (fun t ht q hq => HLo.out t (by have := HL.out; omega) q hq))
        have HT : Hid (false = true ↔ l[n]? = some (p1, p2, p3, p4)) := Lib.hid (by
          rw [HN.out, List.getElem?_eq_none (by have := HL.out; omega)]; simp)
        have hjn2 : ¬ ((j : Int) < (len : Int)) := by omega
        go_wp2_with fail
        refine wp_region_any (by kernel_rfl) ?_
        try (change wpAny _ _ _ _ _ _ _ (World.drew _))
        refine wpAny_take (i := 0) (v := ?_) rfl (by kernel_rfl) (by kernel_rfl) (by kernel_rfl) (fun _ _ _ h => h) (Or.inl ⟨by kernel_rfl, ?_⟩) ?_
        rotate_left
        · intro w; first | (go_simp; done) | (go_simp; with_reducible rfl)
        refine wpAny_take (i := 1) (v := ?_) rfl (by kernel_rfl) (by kernel_rfl) (by kernel_rfl) (fun _ _ _ h => h) (Or.inl ⟨by kernel_rfl, ?_⟩) ?_
        rotate_left
        · intro w; first | (go_simp; done) | (go_simp; with_reducible rfl)
        refine wpAny_take (i := 2) (v := ?_) rfl (by kernel_rfl) (by kernel_rfl) (by kernel_rfl) (fun _ _ _ h => h) (Or.inl ⟨by kernel_rfl, ?_⟩) ?_
        rotate_left
        · intro w; first | (go_simp; done) | (go_simp; with_reducible rfl)
        refine wpAny_take (i := 3) (v := ?_) rfl (by kernel_rfl) (by kernel_rfl) (by kernel_rfl) (fun _ _ _ h => h) (Or.inl ⟨by kernel_rfl, ?_⟩) ?_
        rotate_left
        · intro w; first | (go_simp; done) | (go_simp; with_reducible rfl)
        refine wpAny_take (i := 4) (v := ?_) rfl (by kernel_rfl) (by kernel_rfl) (by kernel_rfl) (fun _ _ _ h => h) (Or.inl ⟨by kernel_rfl, ?_⟩) ?_
        rotate_left
        · intro w; first | (go_simp; done) | (go_simp; with_reducible rfl)
        refine wpAny_take (i := 5) (v := undef) rfl (by kernel_rfl) (by kernel_rfl) (by kernel_rfl) (fun _ _ _ h => h) (Or.inr ⟨by kernel_rfl, rfl⟩) ?_
        go_simp
        refine wpAny_take (i := 6) (v := undef) rfl (by kernel_rfl) (by kernel_rfl) (by kernel_rfl) (fun _ _ _ h => h) (Or.inr ⟨by kernel_rfl, rfl⟩) ?_
        go_simp
        refine wpAny_take (i := 7) (v := undef) rfl (by kernel_rfl) (by kernel_rfl) (by kernel_rfl) (fun _ _ _ h => h) (Or.inr ⟨by kernel_rfl, rfl⟩) ?_
        go_simp
        refine wpAny_take (i := 8) (v := undef) rfl (by kernel_rfl) (by kernel_rfl) (by kernel_rfl) (fun _ _ _ h => h) (Or.inr ⟨by kernel_rfl, rfl⟩) ?_
        go_simp
        refine wpAny_take (i := 9) (v := undef) rfl (by kernel_rfl) (by kernel_rfl) (by kernel_rfl) (fun _ _ _ h => h) (Or.inr ⟨by kernel_rfl, rfl⟩) ?_
        go_simp
        refine wpAny_take (i := 10) (v := undef) rfl (by kernel_rfl) (by kernel_rfl) (by kernel_rfl) (fun _ _ _ h => h) (Or.inr ⟨by kernel_rfl, rfl⟩) ?_
        go_simp
        refine wpAny_take (i := 11) (v := undef) rfl (by kernel_rfl) (by kernel_rfl) (by kernel_rfl) (fun _ _ _ h => h) (Or.inr ⟨by kernel_rfl, rfl⟩) ?_
        go_simp
        refine wpAny_take (i := 12) (v := undef) rfl (by kernel_rfl) (by kernel_rfl) (by kernel_rfl) (fun _ _ _ h => h) (Or.inr ⟨by kernel_rfl, rfl⟩) ?_
        go_simp
        refine wpAny_take (i := 13) (v := ?_) rfl (by kernel_rfl) (by kernel_rfl) (by kernel_rfl) (fun _ _ _ h => h) (Or.inl ⟨by kernel_rfl, ?_⟩) ?_
        rotate_left
        · intro w; first | (go_simp; done) | (go_simp; with_reducible rfl)
        refine wpAny_take (i := 14) (v := ?_) rfl (by kernel_rfl) (by kernel_rfl) (by kernel_rfl) (fun _ _ _ h => h) (Or.inl ⟨by kernel_rfl, ?_⟩) ?_
        rotate_left
        · intro w; first | (go_simp; done) | (go_simp; with_reducible rfl)
        refine wpAny_take (i := 15) (v := ?_) rfl (by kernel_rfl) (by kernel_rfl) (by kernel_rfl) (fun _ _ _ h => h) (Or.inl ⟨by kernel_rfl, ?_⟩) ?_
        rotate_left
        · intro w; first | (go_simp; done) | (go_simp; with_reducible rfl)
        refine wpAny_done (by kernel_rfl) ?_ _
        have hB : Below w.heap.size w wr.drew := B1.out.trans (BX.out.drew.mono B1.out.size)
        go_wp2_with fail
        go_ret2
        exact ⟨⟨false, by rw [HN.out]; rfl, HT⟩, hB⟩
    | succ g =>
      have hlt : (i : Int) < (j : Int) := by omega
      obtain ⟨h, hh⟩ : ∃ h : Nat, h = (i + j) / 2 := ⟨_, rfl⟩
      have hE : ((i : Int) + (j : Int)) / 2 = (h : Int) := by omega
      have hil : i ≤ h := by omega
      have hhj : h < j := by omega
      have hhl : (h : Int) < (len : Int) := by omega
      have HG := Lib.hid hg
      clear hh hg
      obtain ⟨q1, q2, q3, q4, hx⟩ := lfAt (l := l) (k := h) (by have := HL.out; omega)
      have hne : l ≠ [] := by intro h0; rw [h0] at hx; simp at hx
      obtain ⟨b, off, rfl, hbb, hcells⟩ := row_at HR.out hne
      have hbe : Below w.heap.size w wr := B1.out.trans (BX.out.mono B1.out.size)
      obtain ⟨x0, x1, x2, x3⟩ := (hcells h q1 q2 q3 q4 hx).next hbe hbb
      have hbw : b < wr.heap.size := Nat.lt_of_lt_of_le hbb hbe.size
      have hlf : isLf q1 q2 q3 q4 = true := allLf_at HA.out hx
      have HC := Lib.hid (fun w => implCmpL q1 q2 q3 q4 p1 p2 p3 p4 w (lf_lowB hlf) (lf_upB hlf) (lf_lowB HP.out) (lf_upB HP.out))
      obtain ⟨r1, r2, -⟩ := isLf_yes hlf
      obtain ⟨r3, r4, -⟩ := isLf_yes HP.out
      have HE := Lib.hid (lessX_cmp r1 r2 r3 r4)
      have hrg := cmpL_range q1 q2 q3 q4 p1 p2 p3 p4
      generalize cmpL q1 q2 q3 q4 p1 p2 p3 p4 = R at *
      have HX := Lib.hid hx
      clear hcells hne hx hlf r1 r2 r3 r4
      by_cases hR : R < 0
      · have HLo2 : Hid (∀ t, t < h + 1 → ∀ q, l[t]? = some q → lessX q (p1, p2, p3, p4) = true) := Lib.hid (by
          have e : lessX (q1, q2, q3, q4) (p1, p2, p3, p4) = true := by
            have := HE.out
            rw [decide_eq_true hR] at this
            exact this.symm
          exact fun t ht q hq => head_less HS.out HA.out (lf_pos (x := (p1, p2, p3, p4)) HP.out) HX.out e t (by omega) q hq)
        go_wp2_with fail
        refine wp_region_any (by kernel_rfl) ?_
        try (change wpAny _ _ _ _ _ _ _ (World.drew _))
        refine wpAny_take (i := 0) (v := ?_) rfl (by kernel_rfl) (by kernel_rfl) (by kernel_rfl) (fun _ _ _ h => h) (Or.inl ⟨by kernel_rfl, ?_⟩) ?_
        rotate_left
        · intro w; first | (go_simp; done) | (go_simp; with_reducible rfl)
        refine wpAny_take (i := 1) (v := ?_) rfl (by kernel_rfl) (by kernel_rfl) (by kernel_rfl) (fun _ _ _ h => h) (Or.inl ⟨by kernel_rfl, ?_⟩) ?_
        rotate_left
        · intro w; first | (go_simp; done) | (go_simp; with_reducible rfl)
        refine wpAny_take (i := 2) (v := ?_) rfl (by kernel_rfl) (by kernel_rfl) (by kernel_rfl) (fun _ _ _ h => h) (Or.inl ⟨by kernel_rfl, ?_⟩) ?_
        rotate_left
        · intro w; first | (go_simp; done) | (go_simp; with_reducible rfl)
        refine wpAny_take (i := 3) (v := ?_) rfl (by kernel_rfl) (by kernel_rfl) (by kernel_rfl) (fun _ _ _ h => h) (Or.inl ⟨by kernel_rfl, ?_⟩) ?_
        rotate_left
        · intro w; first | (go_simp; done) | (go_simp; with_reducible rfl)
        refine wpAny_ready (rs := [4, 5]) (by kernel_rfl) (by simp) ?_
        refine AllReady.cons rfl (fun K hK => ?_) (AllReady.cons rfl (fun K hK => ?_) AllReady.nil)
        · go_simp
          refine hK _ _ ?_
          clear hK K
          refine wpAny_ready (rs := [5]) (by kernel_rfl) (by simp) ?_
          refine AllReady.cons rfl (fun K hK => ?_) AllReady.nil
          go_simp
          refine hK _ _ ?_
          clear hK K
          refine wpAny_ready (rs := [6]) (by kernel_rfl) (by simp) ?_
          refine AllReady.cons rfl (fun K hK => ?_) AllReady.nil
          go_simp
          go_wp2_with (go_at_call 82; (with_reducible refine (HC.out _).mono ?_); rintro e w2 ⟨rfl, hb2⟩)
          refine wpAny_take (i := 7) (v := ?_) rfl (by kernel_rfl) (by kernel_rfl) (by kernel_rfl) (fun _ _ _ h => h) (Or.inl ⟨by kernel_rfl, ?_⟩) ?_
          rotate_left
          · intro w; first | (go_simp; done) | (go_simp; with_reducible rfl)
          refine wpAny_done (by kernel_rfl) ?_ _
          have hB : Below w1.heap.size w1 w2 := belowNext BX.out.drew hb2
          clear x0 x1 x2 x3 a0 a1 a2 a3
          go_wp2
          go_roundg (j - (h + 1))
          case measure => have := HG.out; omega
          case rel => exact ⟨h + 1, j, by omega, hjl, by omega, by go_num, rfl, HLo2, HHi, Lib.hid hB⟩
        · go_simp
          refine hK _ _ ?_
          clear hK K
          refine wpAny_ready (rs := [4]) (by kernel_rfl) (by simp) ?_
          refine AllReady.cons rfl (fun K hK => ?_) AllReady.nil
          go_simp
          refine hK _ _ ?_
          clear hK K
          refine wpAny_ready (rs := [6]) (by kernel_rfl) (by simp) ?_
          refine AllReady.cons rfl (fun K hK => ?_) AllReady.nil
          go_simp
          go_wp2_with (go_at_call 82; (with_reducible refine (HC.out _).mono ?_); rintro e w2 ⟨rfl, hb2⟩)
          refine wpAny_take (i := 7) (v := ?_) rfl (by kernel_rfl) (by kernel_rfl) (by kernel_rfl) (fun _ _ _ h => h) (Or.inl ⟨by kernel_rfl, ?_⟩) ?_
          rotate_left
          · intro w; first | (go_simp; done) | (go_simp; with_reducible rfl)
          refine wpAny_done (by kernel_rfl) ?_ _
          have hB : Below w1.heap.size w1 w2 := belowNext BX.out.drew hb2
          clear x0 x1 x2 x3 a0 a1 a2 a3
          go_wp2
          go_roundg (j - (h + 1))
          case measure => have := HG.out; omega
          case rel => exact ⟨h + 1, j, by omega, hjl, by omega, by go_num, rfl, HLo2, HHi, Lib.hid hB⟩
      · have HHi2 : Hid (∀ t, h ≤ t → ∀ q, l[t]? = some q → lessX q (p1, p2, p3, p4) = false) := Lib.hid (by
          have e : lessX (q1, q2, q3, q4) (p1, p2, p3, p4) = false := by
            have := HE.out
            rw [decide_eq_false hR] at this
            exact this.symm
          exact fun t ht q hq => tail_not HS.out HA.out (lf_pos (x := (p1, p2, p3, p4)) HP.out) HX.out e t ht q hq)
        go_wp2_with fail
        refine wp_region_any (by kernel_rfl) ?_
        try (change wpAny _ _ _ _ _ _ _ (World.drew _))
        refine wpAny_take (i := 0) (v := ?_) rfl (by kernel_rfl) (by kernel_rfl) (by kernel_rfl) (fun _ _ _ h => h) (Or.inl ⟨by kernel_rfl, ?_⟩) ?_
        rotate_left
        · intro w; first | (go_simp; done) | (go_simp; with_reducible rfl)
        refine wpAny_take (i := 1) (v := ?_) rfl (by kernel_rfl) (by kernel_rfl) (by kernel_rfl) (fun _ _ _ h => h) (Or.inl ⟨by kernel_rfl, ?_⟩) ?_
        rotate_left
        · intro w; first | (go_simp; done) | (go_simp; with_reducible rfl)
        refine wpAny_take (i := 2) (v := ?_) rfl (by kernel_rfl) (by kernel_rfl) (by kernel_rfl) (fun _ _ _ h => h) (Or.inl ⟨by kernel_rfl, ?_⟩) ?_
        rotate_left
        · intro w; first | (go_simp; done) | (go_simp; with_reducible rfl)
        refine wpAny_take (i := 3) (v := ?_) rfl (by kernel_rfl) (by kernel_rfl) (by kernel_rfl) (fun _ _ _ h => h) (Or.inl ⟨by kernel_rfl, ?_⟩) ?_
        rotate_left
        · intro w; first | (go_simp; done) | (go_simp; with_reducible rfl)
        refine wpAny_ready (rs := [4, 5]) (by kernel_rfl) (by simp) ?_
        refine AllReady.cons rfl (fun K hK => ?_) (AllReady.cons rfl (fun K hK => ?_) AllReady.nil)
        · go_simp
          refine hK _ _ ?_
          clear hK K
          refine wpAny_ready (rs := [5]) (by kernel_rfl) (by simp) ?_
          refine AllReady.cons rfl (fun K hK => ?_) AllReady.nil
          go_simp
          refine hK _ _ ?_
          clear hK K
          refine wpAny_ready (rs := [6]) (by kernel_rfl) (by simp) ?_
          refine AllReady.cons rfl (fun K hK => ?_) AllReady.nil
          go_simp
          go_wp2_with (go_at_call 82; (with_reducible refine (HC.out _).mono ?_); rintro e w2 ⟨rfl, hb2⟩)
          refine wpAny_take (i := 7) (v := ?_) rfl (by kernel_rfl) (by kernel_rfl) (by kernel_rfl) (fun _ _ _ h => h) (Or.inl ⟨by kernel_rfl, ?_⟩) ?_
          rotate_left
          · intro w; first | (go_simp; done) | (go_simp; with_reducible rfl)
          refine wpAny_done (by kernel_rfl) ?_ _
          have hB : Below w1.heap.size w1 w2 := belowNext BX.out.drew hb2
          clear x0 x1 x2 x3 a0 a1 a2 a3
          go_wp2
          go_roundg (h - i)
          case measure => have := HG.out; omega
          case rel => exact ⟨i, h, hil, by omega, by omega, rfl, rfl, HLo, HHi2, Lib.hid hB⟩
        · go_simp
          refine hK _ _ ?_
          clear hK K
          refine wpAny_ready (rs := [4]) (by kernel_rfl) (by simp) ?_
          refine AllReady.cons rfl (fun K hK => ?_) AllReady.nil
          go_simp
          refine hK _ _ ?_
          clear hK K
          refine wpAny_ready (rs := [6]) (by kernel_rfl) (by simp) ?_
          refine AllReady.cons rfl (fun K hK => ?_) AllReady.nil
          go_simp
          go_wp2_with (go_at_call 82; (with_reducible refine (HC.out _).mono ?_); rintro e w2 ⟨rfl, hb2⟩)
          refine wpAny_take (i := 7) (v := ?_) rfl (by kernel_rfl) (by kernel_rfl) (by kernel_rfl) (fun _ _ _ h => h) (Or.inl ⟨by kernel_rfl, ?_⟩) ?_
          rotate_left
          · intro w; first | (go_simp; done) | (go_simp; with_reducible rfl)
          refine wpAny_done (by kernel_rfl) ?_ _
          have hB : Below w1.heap.size w1 w2 := belowNext BX.out.drew hb2
          clear x0 x1 x2 x3 a0 a1 a2 a3
          go_wp2
          go_roundg (h - i)
          case measure => have := HG.out; omega
          case rel => exact ⟨i, h, hil, by omega, by omega, rfl, rfl, HLo, HHi2, Lib.hid hB⟩

theorem ownSliceL {W : World} {e : TypeId} {size : Nat} {v : Value} {n : Nat} {xs : List Value} {lo : Nat} (h : W.ownsRow lo e size v n xs) : ∃ A cap, v = .slice A n cap := by
  rcases h.2 with ⟨a, b⟩ | ⟨g, cap, cur, a, _⟩
  · exact ⟨none, 0, by rw [a, b]⟩
  · exact ⟨_, cap, a⟩
theorem news_of_lf {w : World} {b : Nat} : ∀ (l : List Lf4) (off : Nat), (∀ i n d m c, l[i]? = some (n, d, m, c) → w.cell? ⟨b, off + i * 4, none⟩ = some (.int .i64 n) ∧ w.cell? ⟨b, off + i * 4 + 1, none⟩ = some (.int .i64 d) ∧ w.cell? ⟨b, off + i * 4 + 2, none⟩ = some (.int .i64 m) ∧ w.cell? ⟨b, off + i * 4 + 3, none⟩ = some (.int .i64 c)) →
    ∀ j u, (flatL l)[j]? = some u → w.cell? ⟨b, off + j, none⟩ = some u
  | [], _, _, j, u, h => by simp [flatL] at h
  | (p1, p2, p3, p4) :: l, off, hc, j, u, h => by
    obtain ⟨h0, h1, h2, h3⟩ := hc 0 p1 p2 p3 p4 rfl
    match j, h with
    | 0, h => simp [flatL] at h; subst h; simpa using h0
    | 1, h => simp [flatL] at h; subst h; simpa using h1
    | 2, h => simp [flatL] at h; subst h; simpa using h2
    | 3, h => simp [flatL] at h; subst h; simpa using h3
    | j + 4, h =>
      have := news_of_lf l (off + 4) (fun i n d m c hi => by
        have := hc (i + 1) n d m c (by simpa using hi)
        rw [show off + (i + 1) * 4 = off + 4 + i * 4 by omega] at this
        exact this) j u (by simpa [flatL] using h)
      rw [show off + (j + 4) = off + 4 + j by omega]
      exact this
theorem news_of_row4 {w : World} {A : Option Addr} {B : Nat} {l : List Lf4} (hr : LfRow w B A l) {a : Addr} (ha : A = some a) : ∀ j u, (flatL l)[j]? = some u → w.cell? (a.add j) = some u := by
  intro j u h
  have hne : l ≠ [] := by intro e; rw [e] at h; simp [flatL] at h
  obtain ⟨b, off, e, _, hc⟩ := hr hne
  rw [ha] at e
  injection e with e
  subst e
  have hadd : (⟨b, off, none⟩ : Addr).add j = ⟨b, off + j, none⟩ := by unfold Addr.add; split <;> simp_all
  rw [hadd]
  exact news_of_lf l off hc j u h

/-- A slice that holds the leaves l. -/
def SlOk (w : World) (v : Value) (l : List Lf4) : Prop := ∃ (A : Option Addr) (c : Nat), v = .slice A l.length c ∧ LfRow w w.heap.size A l ∧ (A = none → c = 0)
theorem SlOk.next {w w' : World} {v : Value} {l : List Lf4} (h : SlOk w v l) (hb : Below w.heap.size w w') : SlOk w' v l := by
  obtain ⟨A, c, h1, h2, h3⟩ := h
  exact ⟨A, c, h1, h2.next hb, h3⟩
/-- The first k of some lists, one behind the other. -/
def accL (ls : Nat → List Lf4) : Nat → List Lf4
  | 0 => []
  | k + 1 => accL ls k ++ ls k

theorem eqNilL (b off n c : Nat) (W : World) : (binOp .eql 26 (.slice (some ⟨b, off, none⟩) n c) (.slice none 0 0)).run Try.prog W = .ok (.bool false) W := by kernel_rfl

set_option maxRecDepth 100000 in
set_option maxHeartbeats 1000000 in
theorem cloneL (b off len cap : Nat) (l : List Lf4) (w : World) (hr : LfRow w w.heap.size (some ⟨b, off, none⟩) l) (hl : l.length = len) (hm : len ≤ 1000000) :
    Calls Try.prog 121 #[.slice (some ⟨b, off, none⟩) len cap] w fun e w' => ∃ b' c, e = .returned (.slice (some ⟨b', 0, none⟩) len c) ∧ w'.ownsRow w.heap.size 31 4 (.slice (some ⟨b', 0, none⟩) len c) len (flatL l) ∧ Below w.heap.size w w' := by
  obtain ⟨i0, hi, hz0, hz1, hz2⟩ := infoL_parts infoLf
  have HNw := Lib.hid (news_of_row4 (hr.below (belowAlloc (Below.refl _ w) (.cells #[] 31))) rfl)
  have HFl : Hid ((flatL l).length = len * 4) := Lib.hid (by rw [flatL_len, hl])
  have HQ := fun W => eqNilL b off len cap W
  clear hr hl
  go_enter Try.func121, Try.ntmps121
  go_wp2_with (at_builtin; refine wpList_append_own_at _ rfl _ _ 26 rfl w.heap.size 31 i0 (.agg #[.int .i64 0, .int .i64 0, .int .i64 0, .int .i64 0]) 4 32 Try.underlying26 hi hz0 hz1 hz2 rfl (by decide) (.slice (some ⟨w.heap.size, 0, none⟩) 0 0) 0 [] rfl ⟨rfl, .inr ⟨w.heap.size, 0, #[], rfl, Nat.le_refl _, heap_alloc_new w (.cells #[] 31), by omega, by unfold maxLen; omega, rfl, rfl⟩⟩ ⟨b, off, none⟩ len cap (flatL l) rfl HFl.out HNw.out (flatL_one _) ?r4 ?r5 ?r6 ?_)
  case r4 => unfold maxLen; omega
  case r5 => omega
  case r6 => simp
  intro v' w11 hown' hgrow hnn _
  obtain ⟨A', cA', rfl⟩ := ownSliceL hown'
  obtain ⟨b'', rfl⟩ : ∃ b'', A' = some ⟨b'', 0, none⟩ := by
    rcases hown'.2 with ⟨h1, _⟩ | ⟨b'', c2, cur, h1, _⟩
    · first | exact (hnn h1).elim | exact absurd (hnn.1 h1).1 (by simp)
    · injection h1 with h1; exact ⟨b'', h1⟩
  have HB : Below w.heap.size w w11 := (belowAlloc (Below.refl _ w) (.cells #[] 31)).grown hgrow (by simp) (fun j hj => by simp [Value.ownBlock] at hj; omega)
  have HO := Lib.hid hown'
  clear hown' hgrow hnn
  go_wp2
  go_ret
  exact ⟨b'', cA', rfl, HO.out, HB⟩

/-- A boxed leaf, kept. -/
structure BoxL (w W : World) (a b c d : Int) : Prop where
  B : Below w.heap.size w W
  z : w.heap.size < W.heap.size
  c0 : W.cell? ⟨w.heap.size, 0, none⟩ = some (.int .i64 a)
  c1 : W.cell? ⟨w.heap.size, 1, none⟩ = some (.int .i64 b)
  c2 : W.cell? ⟨w.heap.size, 2, none⟩ = some (.int .i64 c)
  c3 : W.cell? ⟨w.heap.size, 3, none⟩ = some (.int .i64 d)
theorem BoxL.on {w W w1 : World} {a b c d : Int} (H : BoxL w W a b c d) (hb : Below W.heap.size W w1) : BoxL w w1 a b c d :=
  ⟨belowNext H.B hb, Nat.lt_of_lt_of_le H.z hb.size, cellThru hb H.z H.c0, cellThru hb H.z H.c1, cellThru hb H.z H.c2, cellThru hb H.z H.c3⟩
theorem BoxL.start (w : World) (a b c d : Int) : BoxL w (w.alloc (.cells #[.int .i64 a, .int .i64 b, .int .i64 c, .int .i64 d] 31)) a b c d :=
  ⟨belowAlloc (Below.refl _ _) _, by simp, by simp [go_sem], by simp [go_sem], by simp [go_sem], by simp [go_sem]⟩

/-- What AddLeaf answers: R and C. -/
def AddIs (l : List Lf4) (p1 p2 p3 p4 : Int) (R : List Lf4) (C : Int) : Prop :=
  (¬ (Lam l ∧ isLf p1 p2 p3 p4 = true) ∧ R = [] ∧ C = 1) ∨
  ((Lam l ∧ isLf p1 p2 p3 p4 = true) ∧ l[lessNL l (p1, p2, p3, p4)]? = some (p1, p2, p3, p4) ∧ R = l ∧ C = 0) ∨
  ((Lam l ∧ isLf p1 p2 p3 p4 = true) ∧ ¬ l[lessNL l (p1, p2, p3, p4)]? = some (p1, p2, p3, p4) ∧ CrossOne (p1, p2, p3, p4) l ∧ R = [] ∧ C = 5) ∨
  ((Lam l ∧ isLf p1 p2 p3 p4 = true) ∧ ¬ l[lessNL l (p1, p2, p3, p4)]? = some (p1, p2, p3, p4) ∧ ¬ CrossOne (p1, p2, p3, p4) l ∧ l.length = 200 ∧ R = [] ∧ C = 3) ∨
  ((Lam l ∧ isLf p1 p2 p3 p4 = true) ∧ ¬ l[lessNL l (p1, p2, p3, p4)]? = some (p1, p2, p3, p4) ∧ ¬ CrossOne (p1, p2, p3, p4) l ∧ l.length < 200 ∧ R = insL l (p1, p2, p3, p4) ∧ C = 0)
theorem addIs_ex (l : List Lf4) (p1 p2 p3 p4 : Int) : ∃ R C, AddIs l p1 p2 p3 p4 R C := by
  by_cases h1 : Lam l ∧ isLf p1 p2 p3 p4 = true
  · by_cases h2 : l[lessNL l (p1, p2, p3, p4)]? = some (p1, p2, p3, p4)
    · exact ⟨_, _, .inr (.inl ⟨h1, h2, rfl, rfl⟩)⟩
    · by_cases h3 : CrossOne (p1, p2, p3, p4) l
      · exact ⟨_, _, .inr (.inr (.inl ⟨h1, h2, h3, rfl, rfl⟩))⟩
      · by_cases h4 : l.length = 200
        · exact ⟨_, _, .inr (.inr (.inr (.inl ⟨h1, h2, h3, h4, rfl, rfl⟩)))⟩
        · exact ⟨_, _, .inr (.inr (.inr (.inr ⟨h1, h2, h3, by have := h1.1.1; omega, rfl, rfl⟩)))⟩
  · exact ⟨_, _, .inl ⟨h1, rfl, rfl⟩⟩

theorem LfRow.drop {w : World} {B b off : Nat} {l : List Lf4} (h : LfRow w B (some ⟨b, off, none⟩) l) (k : Nat) : LfRow w B (some ⟨b, off + k * 4, none⟩) (l.drop k) := by
  intro hne
  have hl : l ≠ [] := by intro e; rw [e] at hne; simp at hne
  obtain ⟨b', off', e, h2, h3⟩ := h hl
  obtain ⟨rfl, rfl⟩ : b = b' ∧ off = off' := by simpa using e
  refine ⟨b, off + k * 4, rfl, h2, fun i n d m c hi => ?_⟩
  rw [List.getElem?_drop] at hi
  have := h3 (k + i) n d m c hi
  rw [show off + k * 4 + i * 4 = off + (k + i) * 4 by omega]
  exact this
/-- The three parts of a list with a new leaf. -/
def partsL (l : List Lf4) (k : Nat) (p : Lf4) : Nat → List Lf4
  | 0 => l.take k
  | 1 => [p]
  | _ => l.drop k
def partsV (v0 v1 v2 : Value) : Nat → Value
  | 0 => v0
  | 1 => v1
  | _ => v2
end Go.Proofs.Ytdmppdfncbljoaa

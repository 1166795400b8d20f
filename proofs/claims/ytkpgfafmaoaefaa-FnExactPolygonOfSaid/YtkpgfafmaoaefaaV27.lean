/-
  Rows of leaves that a call holds: their cells, appends, what turns beside them.
-/
import Derived.Test.YtkpgfafmaoaefaaV9
import Derived.Deep.LoopGhost
import Derived.Deep.AppendLies
import Derived.Maps.AppendAt
import Derived.WalkMore
namespace Go.Proofs.Ytkpgfafmaoaefaa
open Go.RowKit

/-- The cells of a list of pairs. -/
def flatL : List Lf4 → List Value
  | [] => []
  | p :: l => .int .i64 p.1 :: .int .i64 p.2.1 :: .int .i64 p.2.2.1 :: .int .i64 p.2.2.2 :: flatL l
theorem flatL_app : ∀ (l m : List Lf4), flatL (l ++ m) = flatL l ++ flatL m
  | [], m => rfl
  | p :: l, m => by simp [flatL, flatL_app l m]
theorem flatL_len : ∀ l : List Lf4, (flatL l).length = l.length * 4
  | [] => rfl
  | p :: l => by simp [flatL, flatL_len l]; omega
theorem flatL_at : ∀ {l : List Lf4} {i : Nat} {a b c d : Int}, l[i]? = some (a, b, c, d) → (flatL l)[i * 4]? = some (.int .i64 a) ∧ (flatL l)[i * 4 + 1]? = some (.int .i64 b) ∧ (flatL l)[i * 4 + 2]? = some (.int .i64 c) ∧ (flatL l)[i * 4 + 3]? = some (.int .i64 d)
  | [], i, a, b, c, d, h => by simp at h
  | p :: l, 0, a, b, c, d, h => by simp at h; subst h; simp [flatL]
  | p :: l, i + 1, a, b, c, d, h => by
    simp at h
    obtain ⟨h1, h2, h3, h4⟩ := flatL_at h
    have e1 : (i + 1) * 4 = i * 4 + 1 + 1 + 1 + 1 := by omega
    rw [e1]
    simp only [flatL, List.getElem?_cons_succ]
    exact ⟨h1, h2, h3, h4⟩
theorem flatL_take : ∀ (l : List Lf4) (k : Nat), flatL (l.take k) = (flatL l).take (k * 4)
  | [], k => by simp [flatL]
  | p :: l, 0 => by simp [flatL]
  | p :: l, k + 1 => by
    rw [List.take_succ_cons, show (k + 1) * 4 = k * 4 + 1 + 1 + 1 + 1 by omega]
    simp only [flatL, List.take_succ_cons, flatL_take l k]
theorem flatL_drop : ∀ (l : List Lf4) (k : Nat), flatL (l.drop k) = (flatL l).drop (k * 4)
  | [], k => by simp [flatL]
  | p :: l, 0 => by simp
  | p :: l, k + 1 => by
    rw [List.drop_succ_cons, show (k + 1) * 4 = k * 4 + 1 + 1 + 1 + 1 by omega]
    simp only [flatL, List.drop_succ_cons, flatL_drop l k]
theorem flatL_one : ∀ (l : List Lf4), ∀ u ∈ flatL l, u.oneCell' = true
  | [], u, h => by simp [flatL] at h
  | p :: l, u, h => by
    simp only [flatL, List.mem_cons] at h
    rcases h with rfl | rfl | rfl | rfl | h
    · rfl
    · rfl
    · rfl
    · rfl
    · exact flatL_one l u h
/-- Cells to be appended, read out of a row that is held. -/
theorem rowL_of {w : World} {lo : Nat} {l : List Lf4} {A : Option Addr} {len cap : Nat} (hl : l.length = len) (h : w.ownsRow lo 31 4 (.slice A len cap) len (flatL l)) : LfRow w w.heap.size A l := by
  intro hne
  have hk : 0 < len := by
    rcases Nat.eq_zero_or_pos len with h0 | h0
    · rw [h0] at hl; exact absurd (List.eq_nil_of_length_eq_zero hl) hne
    · exact h0
  obtain ⟨g, c, hv, hlo, hg⟩ := h.form hk
  obtain ⟨rfl, rfl⟩ : A = some ⟨g, 0, none⟩ ∧ cap = c := by injection hv with hA hn hc; exact ⟨hA, hc⟩
  refine ⟨g, 0, rfl, hg, fun i a b c' d hi => ?_⟩
  have hik : i < len := by
    rcases Nat.lt_or_ge i l.length with h1 | h1
    · omega
    · rw [List.getElem?_eq_none h1] at hi; cases hi
  obtain ⟨f1, f2, f3, f4⟩ := flatL_at hi
  rw [show 0 + i * 4 = i * 4 by omega]
  exact ⟨(h.cellAt _ (by omega)).trans f1, (h.cellAt _ (by omega)).trans f2, (h.cellAt _ (by omega)).trans f3, (h.cellAt _ (by omega)).trans f4⟩
theorem infoLf : (Try.prog.info? 31).map (fun i => (i.zero, i.size, i.bytes)) = some (some (.agg #[.int .i64 0, .int .i64 0, .int .i64 0, .int .i64 0]), 4, 32) := by kernel_rfl
theorem ownL_of {w : World} {lo : Nat} {l : List Lf4} {A : Option Addr} {len cap : Nat} (hl : l.length = len) (h : w.ownsRow lo 31 4 (.slice A len cap) len (flatL l)) : LfOwn w lo A l := by
  intro hne
  have hk : 0 < len := by
    rcases Nat.eq_zero_or_pos len with h0 | h0
    · rw [h0] at hl; exact absurd (List.eq_nil_of_length_eq_zero hl) hne
    · exact h0
  obtain ⟨g, c, hv, hlo, hg⟩ := h.form hk
  obtain ⟨rfl, rfl⟩ : A = some ⟨g, 0, none⟩ ∧ cap = c := by injection hv with hA hn hc; exact ⟨hA, hc⟩
  refine ⟨g, 0, rfl, hlo, hg, fun i a b c' d hi => ?_⟩
  have hik : i < len := by
    rcases Nat.lt_or_ge i l.length with h1 | h1
    · omega
    · rw [List.getElem?_eq_none h1] at hi; cases hi
  obtain ⟨f1, f2, f3, f4⟩ := flatL_at hi
  rw [show 0 + i * 4 = i * 4 by omega]
  exact ⟨⟨(h.cellAt _ (by omega)).trans f1, (h.cellAt _ (by omega)).trans f2, (h.cellAt _ (by omega)).trans f3, (h.cellAt _ (by omega)).trans f4⟩, ⟨h.frozenAt _, h.frozenAt _, h.frozenAt _, h.frozenAt _⟩⟩
/-- A row that turns elsewhere is as it was. -/
theorem ownTurnL {w w1 : World} {row : Option Nat} {lo : Nat} {e : TypeId} {k : Nat} {v : Value} {n : Nat} {xs : List Value} (h : w.ownsRow lo e k v n xs) (hg : w.grownBy w1 row) (hr : ∀ j, row = some j → j < lo) : w1.ownsRow lo e k v n xs := by
  obtain ⟨hx, h2⟩ := h
  rcases h2 with h3 | ⟨g, cap, cur, e1, hlo, hc, hrest⟩
  · exact ⟨hx, .inl h3⟩
  · have hlt : g < w.heap.size := (Array.getElem?_eq_some_iff.1 hc).1
    exact ⟨hx, .inr ⟨g, cap, cur, e1, hlo, (hg.block g hlt (fun e2 => by have := hr g e2.symm; omega)).trans hc, hrest⟩⟩
theorem own_blockL {w : World} {lo : Nat} {e : TypeId} {k : Nat} {v : Value} {n : Nat} {xs : List Value} (h : w.ownsRow lo e k v n xs) : ∀ j, v.ownBlock = some j → lo ≤ j := by
  intro j e1
  rcases h.2 with ⟨hv, _⟩ | ⟨g0, c0, cur, hv, hlo, _⟩
  · rw [hv] at e1; simp [Value.ownBlock] at e1
  · rw [hv] at e1; simp [Value.ownBlock] at e1; omega
theorem ownMonoL {w : World} {lo lo' : Nat} {e : TypeId} {k : Nat} {v : Value} {n : Nat} {xs : List Value} (h : w.ownsRow lo e k v n xs) (hl : lo' ≤ lo) : w.ownsRow lo' e k v n xs := by
  obtain ⟨hx, h2⟩ := h
  rcases h2 with h3 | ⟨g, cap, cur, e1, hlo, hrest⟩
  · exact ⟨hx, .inl h3⟩
  · exact ⟨hx, .inr ⟨g, cap, cur, e1, Nat.le_trans hl hlo, hrest⟩⟩
theorem own_noneL {w : World} {lo : Nat} {e : TypeId} {k : Nat} : w.ownsRow lo e k (.slice none 0 0) 0 [] := ⟨by simp, .inl ⟨rfl, rfl⟩⟩
/-- A row that turns is another one. -/
theorem ownFarL {w w1 : World} {row : Option Nat} {lo : Nat} {e : TypeId} {k : Nat} {v : Value} {n : Nat} {xs : List Value} (h : w.ownsRow lo e k v n xs) (hg : w.grownBy w1 row) (hr : ∀ j, row = some j → v.ownBlock ≠ some j) : w1.ownsRow lo e k v n xs := by
  obtain ⟨hx, h2⟩ := h
  rcases h2 with h3 | ⟨g, cap, cur, e1, hlo, hc, hrest⟩
  · exact ⟨hx, .inl h3⟩
  · have hlt : g < w.heap.size := (Array.getElem?_eq_some_iff.1 hc).1
    exact ⟨hx, .inr ⟨g, cap, cur, e1, hlo, (hg.block g hlt (fun e2 => hr g e2.symm (by rw [e1]; rfl))).trans hc, hrest⟩⟩
theorem own_ltL {w : World} {lo : Nat} {e : TypeId} {k : Nat} {v : Value} {n : Nat} {xs : List Value} (h : w.ownsRow lo e k v n xs) : ∀ j, v.ownBlock = some j → j < w.heap.size := by
  intro j e1
  rcases h.2 with ⟨hv, _⟩ | ⟨g0, c0, cur, hv, hlo, hc, _⟩
  · rw [hv] at e1; simp [Value.ownBlock] at e1
  · rw [hv] at e1
    simp [Value.ownBlock] at e1
    subst e1
    exact (Array.getElem?_eq_some_iff.1 hc).1
/-- Cells to be appended, read out of a row that is held. -/
theorem news_of_rowL {w : World} {lo g n cap : Nat} {e : TypeId} {xs : List Value} (h : w.ownsRow lo e 4 (.slice (some ⟨g, 0, none⟩) n cap) n xs) (o : Nat) (news : List Value) (hn : ∀ i u, news[i]? = some u → xs[o + i]? = some u) :
    ∀ i u, news[i]? = some u → w.cell? ((⟨g, o, none⟩ : Addr).add i) = some u := by
  intro i u hu
  have hadd : (⟨g, o, none⟩ : Addr).add i = ⟨g, o + i, none⟩ := by unfold Addr.add; split <;> simp_all
  have hx := hn i u hu
  have hl := (List.getElem?_eq_some_iff.1 hx).1
  rw [h.1] at hl
  rw [hadd]
  exact (h.cellAt (o + i) hl).trans hx
/-- An append at a step of a region that draws its order; nothing may be appended. -/
theorem step_append_atL {P : Program} (w : World) {ops : Array Oper} {o : Oper} {a : Act} {K : Act → World → Prop} {Q : Exit → Act → World → Prop} {E : Prop} (hgd : o.guard = none) (s x : Operand) (t : TypeId)
    (ho : o.op = .call { callee := .builtin .append, args := #[s, x], argTypes := #[t, t] })
    (base : Nat) (e : TypeId) (i : TypeInfo) (z : Value) (size bytes : Nat) (ht : P.underlying t = some (.slice e)) (hi : P.info? e = some i) (hz : i.zero = some z)
    (hsize : i.size = size) (hby : i.bytes = bytes) (hzs : z.cells.size = size) (hsz : 0 < size)
    (v : Value) (n : Nat) (xs : List Value) (hs : a.eval s = v) (hown : w.ownsRow base e size v n xs)
    (ad : Addr) (m c : Nat) (news : List Value) (hx : a.eval x = .slice (some ad) m c) (hl : news.length = m * size) (hnews : ∀ j u, news[j]? = some u → w.cell? (ad.add j) = some u) (h1 : ∀ u ∈ news, u.oneCell' = true)
    (h63 : n + m ≤ maxLen) (hbytes : (n + m) * bytes ≤ 140737488355328) (hbase : base ≤ w.heap.size)
    (h : ∀ v' w', w'.ownsRow base e size v' (n + m) (xs ++ news) → w.grownBy w' v.ownBlock → K (a.put o.dst v') w') :
    if Region.wanted o (yielded ops a.tmps) = true then Oper.wp P o a w K Q else E := by
  obtain ⟨v', w', hr, h2, h3, _, _⟩ := run_append_own_at (P := P) w base t o.type e i z size bytes ht hi hz hsize hby hzs hsz v n xs hown ad m c news hl hnews h1 h63 hbytes hbase
  have hw : Region.wanted o (yielded ops a.tmps) = true := by simp [Region.wanted, hgd]
  rw [if_pos hw]
  unfold Oper.wp execOp
  simp only [ho, resolve, invoke, builtin, Sem.run_bind, Sem.run_pure, Result.andThen_ok, List.map_toArray, List.map_cons, List.map_nil, hs, hx, hr]
  exact h v' w' h2 h3
/-- What the condition of the inner loop tells. -/
theorem belowGL {W W1 : World} (hb : Below W.heap.size W W1) : W.grownBy W1 none := ⟨hb.os, hb.tape, hb.output, hb.size, fun i hi _ => hb.block i hi⟩
theorem cellGL {W W' : World} {row : Option Nat} (hg : W.grownBy W' row) {b o : Nat} {v : Value} (hlt : b < W.heap.size) (hne : some b ≠ row) (hc : W.cell? ⟨b, o, none⟩ = some v) : W'.cell? ⟨b, o, none⟩ = some v :=
  (World.cell?_of_block (hg.block b hlt hne)).trans hc
theorem cell_four_newL (w : World) (a b c d : Value) (t : TypeId) : ∀ j u, [a, b, c, d][j]? = some u → (w.alloc (.cells #[a, b, c, d] t)).cell? ((⟨w.heap.size, 0, none⟩ : Addr).add j) = some u := by
  intro j u hj
  match j, hj with
  | 0, hj => simp at hj; subst hj; simp [Addr.add]
  | 1, hj => simp at hj; subst hj; simp [Addr.add]
  | 2, hj => simp at hj; subst hj; simp [Addr.add]
  | 3, hj => simp at hj; subst hj; simp [Addr.add]
end Go.Proofs.Ytkpgfafmaoaefaa

/-
  The pairs of numbers in their order; rows cut out of one list; the orbit of an angle with its pairs, as the program builds it.
-/
import Derived.Test.YtjomgbjiognmmaaH2
import Derived.Test.YtjomgbjiognmmaaW24
import Derived.Test.YtjomgbjiognmmaaQQ
import Derived.Maps.AppendAt
namespace Go.Proofs.Ytjomgbjiognmmaa
open Go.RowKit

theorem infoI8 : (Try.prog.info? 2).map (fun i => (i.zero, i.size, i.bytes)) = some (some (.int .i64 0), 1, 8) := by kernel_rfl
theorem infoS8 : (Try.prog.info? 32).map (fun i => (i.zero, i.size, i.bytes)) = some (some (.slice none 0 0), 1, 24) := by kernel_rfl
theorem infoI8_parts : ∃ i : TypeInfo, Try.prog.info? 2 = some i ∧ i.zero = some (.int .i64 0) ∧ i.size = 1 ∧ i.bytes = 8 := by
  have hinfo := infoI8
  cases hi : Try.prog.info? 2 with
  | none => rw [hi] at hinfo; cases hinfo
  | some i =>
    rw [hi] at hinfo
    simp only [Option.map_some, Option.some.injEq, Prod.mk.injEq] at hinfo
    exact ⟨i, rfl, hinfo⟩
theorem infoS8_parts : ∃ i : TypeInfo, Try.prog.info? 32 = some i ∧ i.zero = some (.slice none 0 0) ∧ i.size = 1 ∧ i.bytes = 24 := by
  have hinfo := infoS8
  cases hi : Try.prog.info? 32 with
  | none => rw [hi] at hinfo; cases hinfo
  | some i =>
    rw [hi] at hinfo
    simp only [Option.map_some, Option.some.injEq, Prod.mk.injEq] at hinfo
    exact ⟨i, rfl, hinfo⟩
theorem ownNone8 {W : World} {lo : Nat} {e : TypeId} {k : Nat} : W.ownsRow lo e k (.slice none 0 0) 0 [] := ⟨by simp, .inl ⟨rfl, rfl⟩⟩
theorem belowG8 {W W1 : World} (hb : Below W.heap.size W W1) : W.grownBy W1 none := ⟨hb.os, hb.tape, hb.output, hb.size, fun i hi _ => hb.block i hi⟩
theorem ownTurn8 {w w1 : World} {row : Option Nat} {lo : Nat} {e : TypeId} {k : Nat} {v : Value} {n : Nat} {xs : List Value} (h : w.ownsRow lo e k v n xs) (hg : w.grownBy w1 row) (hr : ∀ j, row = some j → j < lo) : w1.ownsRow lo e k v n xs := by
  obtain ⟨hx, h2⟩ := h
  rcases h2 with h3 | ⟨g, cap, cur, e1, hlo, hc, hrest⟩
  · exact ⟨hx, .inl h3⟩
  · have hlt : g < w.heap.size := (Array.getElem?_eq_some_iff.1 hc).1
    exact ⟨hx, .inr ⟨g, cap, cur, e1, hlo, (hg.block g hlt (fun e2 => by have := hr g e2.symm; omega)).trans hc, hrest⟩⟩
theorem ownNext8 {w w1 : World} {lo : Nat} {e : TypeId} {k : Nat} {v : Value} {n : Nat} {xs : List Value} (h : w.ownsRow lo e k v n xs) (hb : Below w.heap.size w w1) : w1.ownsRow lo e k v n xs := ownTurn8 h (belowG8 hb) (fun j e => by cases e)
theorem ownBlock8 {w : World} {lo : Nat} {e : TypeId} {k : Nat} {v : Value} {n : Nat} {xs : List Value} (h : w.ownsRow lo e k v n xs) : ∀ j, v.ownBlock = some j → lo ≤ j := by
  intro j e1
  rcases h.2 with ⟨hv, _⟩ | ⟨g0, c0, cur, hv, hlo, _⟩
  · rw [hv] at e1; simp [Value.ownBlock] at e1
  · rw [hv] at e1; simp [Value.ownBlock] at e1; omega
theorem ownLow8 {w : World} {lo lo' : Nat} {e : TypeId} {k : Nat} {v : Value} {n : Nat} {xs : List Value} (h : w.ownsRow lo e k v n xs) (hl : lo' ≤ lo) : w.ownsRow lo' e k v n xs := by
  obtain ⟨hx, h2⟩ := h
  rcases h2 with h3 | ⟨g, cap, cur, e1, hlo, hc, hrest⟩
  · exact ⟨hx, .inl h3⟩
  · exact ⟨hx, .inr ⟨g, cap, cur, e1, by omega, hc, hrest⟩⟩
theorem ownForm8 {w : World} {lo : Nat} {e : TypeId} {k n : Nat} {v : Value} {xs : List Value} (h : w.ownsRow lo e k v n xs) : ∃ A c, v = .slice A n c ∧ n ≤ c ∧ (0 < n → ∃ g, A = some ⟨g, 0, none⟩ ∧ lo ≤ g ∧ g < w.heap.size) := by
  rcases h.2 with ⟨hv, hn⟩ | ⟨g, cap, cur, hv, hlo, hc, hrest⟩
  · subst hn; exact ⟨none, 0, hv, Nat.le_refl _, fun h => absurd h (by omega)⟩
  · exact ⟨_, cap, hv, by omega, fun _ => ⟨g, rfl, hlo, (Array.getElem?_eq_some_iff.1 hc).1⟩⟩
theorem below_grown8 {w wr w1 : World} {lo : Nat} {row : Option Nat} (hb : Below lo w wr) (hg : wr.grownBy w1 row) (hr : ∀ j, row = some j → lo ≤ j) (hl : lo ≤ wr.heap.size) : Below lo w w1 :=
  hb.trans ⟨hg.os, hg.tape, hg.output, hg.size, fun i hi => hg.block i (by omega) (fun e => by have := hr i e.symm; omega)⟩
theorem cell_two_new8 (w : World) (x y : Value) (t : TypeId) : ∀ j u, [x, y][j]? = some u → (w.alloc (.cells #[x, y] t)).cell? ((⟨w.heap.size, 0, none⟩ : Addr).add j) = some u := by
  intro j u hj
  match j, hj with
  | 0, hj => simp at hj; subst hj; simp [Addr.add]
  | 1, hj => simp at hj; subst hj; simp [Addr.add]

/-- The pairs with the first number i + 1, the first q of them. -/
def innP (i q : Nat) : List (Int × Int) := (List.range q).map fun (k : Nat) => ((i : Int) + 1, (i : Int) + 2 + (k : Int))
def prK (m : Nat) : Nat → List (Int × Int)
  | 0 => []
  | i + 1 => prK m i ++ innP i (m - (i + 1))
/-- The pairs of the numbers up to m, in their order. -/
def prL (m : Nat) : List (Int × Int) := prK m m
theorem innP_succ (i q : Nat) : innP i (q + 1) = innP i q ++ [((i : Int) + 1, (i : Int) + 2 + (q : Int))] := by
  simp [innP, List.range_succ]
theorem innP_zero (i : Nat) : innP i 0 = [] := rfl
theorem innP_len (i q : Nat) : (innP i q).length = q := by simp [innP]
theorem prK_len (m : Nat) : ∀ i, (prK m i).length ≤ i * m
  | 0 => by simp [prK]
  | i + 1 => by
    have := prK_len m i
    simp only [prK, List.length_append, innP_len, Nat.succ_mul]
    omega
theorem prL_len {m : Nat} (h : m ≤ 7) : (prL m).length ≤ 21 := by
  have : ∀ k : Fin 8, (prL k.1).length ≤ 21 := by decide
  exact this ⟨m, by omega⟩
/-- Numbers in pairs, as a table. -/
def pF (l : List (Int × Int)) : Tab := fun k j => if j = 0 then (l.getD k (0, 0)).1 else (l.getD k (0, 0)).2

/-- Rows cut out of the cells of a block. -/
def rowCells (b o wd n : Nat) : List Value := (List.range n).map fun i => .slice (some ⟨b, o + i * wd, none⟩) wd wd
theorem rowCells_succ (b o wd n : Nat) : rowCells b o wd (n + 1) = rowCells b o wd n ++ [.slice (some ⟨b, o + n * wd, none⟩) wd wd] := by
  simp [rowCells, List.range_succ]
theorem rowCells_len (b o wd n : Nat) : (rowCells b o wd n).length = n := by simp [rowCells]
theorem rowCells_get {b o wd n i : Nat} (h : i < n) : (rowCells b o wd n)[i]? = some (.slice (some ⟨b, o + i * wd, none⟩) wd wd) := by
  unfold rowCells
  rw [List.getElem?_map, List.getElem?_range h]; rfl

set_option maxRecDepth 8000 in
set_option maxHeartbeats 2000000 in
theorem implRows (A : Option Addr) (len cap wd n b o : Nat) (w : World) (hl : len = n * wd) (hc : len ≤ cap) (hA : 0 < n → A = some ⟨b, o, none⟩ ∧ 0 < wd) (hm : len ≤ 1000000) (hw : wd ≤ 1000000) (hn : n ≤ 1000000) :
    Calls Try.prog 69 #[.slice A len cap, .int .i64 wd] w fun e w' => ∃ A' cap', e = .returned (.slice A' n cap') ∧ Hid (w'.ownsRow w.heap.size 32 1 (.slice A' n cap') n (rowCells b o wd n)) ∧ Below w.heap.size w w' := by
  obtain ⟨i0, hi, hz0, hz1, hz2⟩ := infoS8_parts
  have HI := Lib.hid hi
  have HZ0 := Lib.hid hz0
  have HL := Lib.hid hl
  clear hl hi hz0
  go_enter Try.func69, Try.ntmps69
  go_wp2
  go_loopg [5, 6, 7] n (fun g s5 s6 _ wr => ∃ (k P : Nat) (B : Option Addr) (c : Nat), k + g = n ∧ Hid (k * wd = P) ∧ s6 = .int .i64 P ∧ s5 = .slice B k c ∧ Hid (wr.ownsRow w.heap.size 32 1 (.slice B k c) k (rowCells b o wd k)) ∧ Below w.heap.size w wr)
  case atStart => exact ⟨0, 0, none, 0, by omega, Lib.hid (Nat.zero_mul _), rfl, rfl, Lib.hid ownNone8, Below.refl _ _⟩
  case round =>
    obtain ⟨k, P, B, c, hkg, HP, rfl, rfl, HO, HB⟩ := hrel
    cases gk with
    | zero =>
      obtain rfl : k = n := by omega
      have e : P = len := by rw [HL.out]; exact HP.out.symm
      subst e
      have hlt : decide ((P : Int) < (P : Int)) = false := decide_eq_false (by omega)
      clear hkg
      go_wp2
      go_ret
      exact ⟨B, c, rfl, HO, HB⟩
    | succ g =>
      have hkn : k < n := by omega
      obtain ⟨rfl, hwd⟩ := hA (by omega)
      have hPl : P + wd ≤ len := by
        have := Nat.mul_le_mul_right wd (show k + 1 ≤ n by omega)
        rw [Nat.succ_mul, HP.out, ← HL.out] at this
        exact this
      have HE : Hid (rowCells b o wd k ++ [.slice (some ⟨b, o + P, none⟩) wd wd] = rowCells b o wd (k + 1)) := Lib.hid (by rw [rowCells_succ, HP.out])
      have HP2 : Hid ((k + 1) * wd = P + wd) := Lib.hid (by rw [Nat.succ_mul, HP.out])
      have hs : IntKind.i64.wrap ((P : Int) + (wd : Int)) = ((P + wd : Nat) : Int) := (IntWalk.i64_in _ (by omega)).trans (by omega)
      have d1 : decide ((P : Int) < (len : Int)) = true := decide_eq_true (by omega)
      have HKG := Lib.hid hkg
      have hi := HI.out
      have hz0 := HZ0.out
      have hown := HO.out
      have hzS := HB.size
      clear hkg
      go_wp2_with (at_builtin; refine wpList_append_own_at _ rfl _ _ 24 rfl w.heap.size 32 i0 (.slice none 0 0) 1 24 Try.underlying24 hi hz0 hz1 hz2 rfl (by decide) (.slice B k c) k (rowCells b o wd k) rfl (World.ownsRow.alloc hown _) ⟨wr.heap.size, 0, none⟩ 1 1 [.slice (some ⟨b, o + P, none⟩) wd wd] rfl rfl ?c1 ?c2 ?c3 ?c4 ?c5 ?_)
      case c2 => first | rfl | (intro u hu; simp at hu; subst hu; rfl)
      case c3 => unfold maxLen; omega
      case c4 => omega
      case c5 => first | omega | (simp; omega)
      intro v' w1 hown' hgrow _ _
      rw [HE.out] at hown'
      have HB1 : Below w.heap.size w w1 := below_grown8 (show Below w.heap.size w (wr.alloc _) from belowAlloc HB _) hgrow (fun j e => ownBlock8 hown j e) (by simp; omega)
      obtain ⟨A', c', rfl, _⟩ := ownForm8 hown'
      have HO' := Lib.hid hown'
      clear hown hown' hgrow HB hzS HO HE hi hz0
      go_wp2
      go_roundg g
      case measure => omega
      case rel => exact ⟨k + 1, P + wd, A', c', by have := HKG.out; omega, HP2, by go_num, rfl, HO', HB1⟩

theorem rows_tab {W : World} {lo lo2 : Nat} {A : Option Addr} {n c b o wd : Nat} {F : Nat → Int} (h : W.ownsRow lo2 32 1 (.slice A n c) n (rowCells b o wd n)) (hlo : lo ≤ lo2) (hb : 0 < wd → 0 < n → lo ≤ b ∧ b < W.heap.size ∧ b < lo2)
    (hc : ∀ t, t < n * wd → W.cell? ⟨b, o + t, none⟩ = some (.int .i64 (F t)) ∧ W.frozen? ⟨b, o + t, none⟩ = false) : TabOwn W lo A n (fun _ => wd) (fun i j => F (i * wd + j)) := by
  intro hn
  obtain ⟨g, c', hv, hg1, hg2⟩ := h.form hn
  obtain ⟨rfl, rfl⟩ : A = some ⟨g, 0, none⟩ ∧ c = c' := by injection hv with hA _ hc; exact ⟨hA, hc⟩
  have hin : ∀ {i j : Nat}, i < n → j < wd → i * wd + j < n * wd := by
    intro i j hi hj
    have := Nat.mul_le_mul_right wd (show i + 1 ≤ n by omega)
    rw [Nat.succ_mul] at this
    omega
  refine ⟨g, 0, fun _ => b, fun i => o + i * wd, rfl, Nat.le_trans hlo hg1, hg2, fun i hi => ?_, fun i hi h0 => ?_, fun i j hi hj => ?_, fun i k j m hi hk hne hj hm _ => ?_⟩
  · refine ⟨some ⟨b, o + i * wd, none⟩, wd, ?_, fun _ => rfl⟩
    rw [Nat.zero_add]
    exact (h.cellAt i (by omega)).trans (rowCells_get hi)
  · obtain ⟨h1, h2, h3⟩ := hb h0 hn
    exact ⟨h1, h2, by omega⟩
  · have := hc (i * wd + j) (hin hi hj)
    rw [← Nat.add_assoc] at this
    exact this
  · intro e
    rcases Nat.lt_or_ge i k with h1 | h1
    · have := Nat.mul_le_mul_right wd (show i + 1 ≤ k by omega)
      rw [Nat.succ_mul] at this
      omega
    · have := Nat.mul_le_mul_right wd (show k + 1 ≤ i by omega)
      rw [Nat.succ_mul] at this
      omega
def pFl (l : List (Int × Int)) : Nat → Int := fun t => if t % 2 = 0 then (l.getD (t / 2) (0, 0)).1 else (l.getD (t / 2) (0, 0)).2
theorem flatA_cell {l : List (Int × Int)} {t : Nat} (h : t < l.length * 2) : (flatA l)[t]? = some (.int .i64 (pFl l t)) := by
  have hi : t / 2 < l.length := by omega
  obtain ⟨a, b⟩ := flatA_at (l := l) (i := t / 2) (a := l[t / 2].1) (b := l[t / 2].2) (List.getElem?_eq_getElem hi)
  have e : l.getD (t / 2) (0, 0) = l[t / 2] := by rw [List.getD_eq_getElem?_getD, List.getElem?_eq_getElem hi]; rfl
  unfold pFl
  rw [e]
  by_cases h2 : t % 2 = 0
  · rw [if_pos h2]; rw [show t / 2 * 2 = t by omega] at a; exact a
  · rw [if_neg h2]; rw [show t / 2 * 2 + 1 = t by omega] at b; exact b
theorem pairs_tab {W : World} {lo lo2 : Nat} {b cn : Nat} {l : List (Int × Int)} {A : Option Addr} {c : Nat} (hn : 0 < l.length → W.ownsRow lo 2 1 (.slice (some ⟨b, 0, none⟩) (l.length * 2) cn) (l.length * 2) (flatA l))
    (h : W.ownsRow lo2 32 1 (.slice A l.length c) l.length (rowCells b 0 2 l.length)) (hlo : lo ≤ lo2) (hb : 0 < l.length → b < lo2) : TabOwn W lo A l.length (fun _ => 2) (pF l) := by
  refine (rows_tab (F := pFl l) h hlo (fun _ h0 => ?_) (fun t ht => ?_)).congr fun i j hi hj => ?_
  · obtain ⟨g, c', hv, hg1, hg2⟩ := (hn h0).form (by omega)
    injection hv with hA _ _
    injection hA with hA
    injection hA with hA
    subst hA
    exact ⟨hg1, hg2, hb h0⟩
  · have h0 : 0 < l.length := by omega
    obtain ⟨g, c', hv, hg1, hg2⟩ := (hn h0).form (by omega)
    injection hv with hA _ _
    injection hA with hA
    injection hA with hA
    subst hA
    rw [Nat.zero_add]
    exact ⟨((hn h0).cellAt t (by omega)).trans (flatA_cell ht), (hn h0).frozenAt _⟩
  · unfold pFl pF
    by_cases e : j = 0
    · subst e; rw [if_pos rfl, if_pos (by omega), show (i * 2 + 0) / 2 = i by omega]
    · rw [if_neg e, if_neg (by omega), show (i * 2 + j) / 2 = i by omega]

/-- The code of the orbit of an angle, as it is asked for with its pairs. -/
def c8 (n d : Int) : Int := if oC n d = 0 then (if (oL n d).length ≤ 7 then 0 else 2) else if oC n d = 3 then 2 else 1
/-- The orbit, if it is short. -/
def o8 (n d : Int) : List (Int × Int) := if c8 n d = 0 then oL n d else []
theorem o8_cases (n d : Int) : (oC n d = 1 ∧ oL n d = [] ∧ c8 n d = 1 ∧ o8 n d = [] ∧ isAng n d = false) ∨ (oC n d = 3 ∧ oL n d = [] ∧ c8 n d = 2 ∧ o8 n d = [] ∧ isAng n d = true) ∨
    (oC n d = 0 ∧ 7 < (oL n d).length ∧ c8 n d = 2 ∧ o8 n d = [] ∧ isAng n d = true) ∨ (oC n d = 0 ∧ (oL n d).length ≤ 7 ∧ 0 < (oL n d).length ∧ c8 n d = 0 ∧ o8 n d = oL n d ∧ isAng n d = true) := by
  cases h1 : isAng n d
  · have e1 : oL n d = [] := by unfold oL; simp [h1]
    have e2 : oC n d = 1 := by unfold oC; simp [h1]
    have e3 : c8 n d = 1 := by unfold c8; rw [e2]; rfl
    exact .inl ⟨e2, e1, e3, by unfold o8; rw [e3]; rfl, rfl⟩
  · cases hf : findOrb (n, d) 65 0 with
    | none =>
      have e1 : oL n d = [] := by unfold oL; simp [h1, hf]
      have e2 : oC n d = 3 := by unfold oC; simp [h1, hf]
      have e3 : c8 n d = 2 := by unfold c8; rw [e2]; rfl
      exact .inr (.inl ⟨e2, e1, e3, by unfold o8; rw [e3]; rfl, rfl⟩)
    | some k =>
      have e1 : oL n d = orbList (n, d) k := by unfold oL; simp [h1, hf]
      have e2 : oC n d = 0 := by unfold oC; simp [h1, hf]
      by_cases hk : (oL n d).length ≤ 7
      · have e3 : c8 n d = 0 := by unfold c8; rw [e2, if_pos rfl, if_pos hk]
        refine .inr (.inr (.inr ⟨e2, hk, ?_, e3, by unfold o8; rw [e3]; rfl, rfl⟩))
        rw [e1, orbList_len]
        rcases Nat.eq_zero_or_pos k with h0 | h0
        · subst h0
          have := (find_le _ _ _ hf).2.2.1
          simp [hit] at this
        · exact h0
      · have e3 : c8 n d = 2 := by unfold c8; rw [e2, if_pos rfl, if_neg hk]
        exact .inr (.inr (.inl ⟨e2, by omega, e3, by unfold o8; rw [e3]; rfl, rfl⟩))

/-- The orbit of an angle with its pairs, and a code. -/
def ResPT (w : World) (L : List (Int × Int)) (C : Int) (e : Ending) (w' : World) : Prop :=
  ∃ A cap A2 cap2, e = .returned (.tuple #[.agg #[.slice A L.length cap, .slice A2 (prL L.length).length cap2], .int .i64 C]) ∧ AngOwn w' w.heap.size A L ∧ TabOwn w' w.heap.size A2 (prL L.length).length (fun _ => 2) (pF (prL L.length)) ∧ Below w.heap.size w w'

theorem AngOwn.low8 {W : World} {lo lo' : Nat} {A : Option Addr} {L : List (Int × Int)} (h : AngOwn W lo A L) (hl : lo' ≤ lo) : AngOwn W lo' A L := by
  intro hL
  obtain ⟨b, off, e, h1, h2, h3⟩ := h hL
  exact ⟨b, off, e, Nat.le_trans hl h1, h2, h3⟩
theorem AngOwn.setLow {W : World} {lo : Nat} {A : Option Addr} {L : List (Int × Int)} {p : Addr} {v : Value} (h : AngOwn W lo A L) (hp : p.block < lo) : AngOwn (W.setCell p v) lo A L := by
  intro hL
  obtain ⟨b, off, e, h1, h2, hc⟩ := h hL
  refine ⟨b, off, e, h1, by simpa using h2, fun i n d hi => ?_⟩
  obtain ⟨a1, a2, a3, a4⟩ := hc i n d hi
  refine ⟨?_, ?_, by simpa using a3, by simpa using a4⟩
  · rw [World.cell?_setCell_other _ _ _ _ (by intro e; subst e; simp at hp; omega)]; exact a1
  · rw [World.cell?_setCell_other _ _ _ _ (by intro e; subst e; simp at hp; omega)]; exact a2
theorem TabOwn.setLow {W : World} {lo : Nat} {A : Option Addr} {n : Nat} {ln : Nat → Nat} {f : Tab} {p : Addr} {v : Value} (h : TabOwn W lo A n ln f) (hp : p.block < lo) : TabOwn (W.setCell p v) lo A n ln f := by
  intro hn
  obtain ⟨g, off, bb, oo, e, H⟩ := h hn
  refine ⟨g, off, bb, oo, e, H.glo, by simpa using H.gz, fun i hi => ?_, fun i hi h0 => by simpa using H.row i hi h0, fun i j hi hj => ?_, H.apart⟩
  · obtain ⟨Ai, ci, h1, h2⟩ := H.head i hi
    refine ⟨Ai, ci, ?_, h2⟩
    have := H.glo
    rw [World.cell?_setCell_other _ _ _ _ (by intro e; subst e; simp at hp; omega)]; exact h1
  · obtain ⟨h1, h2⟩ := H.cell i j hi hj
    have := (H.row i hi (by omega)).1
    refine ⟨?_, by simpa using h2⟩
    rw [World.cell?_setCell_other _ _ _ _ (by intro e; subst e; simp at hp; omega)]; exact h1

/-- What pairTableOf keeps. -/
structure PtS (w : World) (A : Option Addr) (L : List (Int × Int)) (W : World) : Prop where
  B : Below w.heap.size w W
  z : w.heap.size + 1 < W.heap.size
  own : AngOwn W (w.heap.size + 2) A L
  p0 : ∃ v, W.cell? ⟨w.heap.size + 1, 0, none⟩ = some v
  p1 : ∃ v, W.cell? ⟨w.heap.size + 1, 1, none⟩ = some v
  f0 : W.frozen? ⟨w.heap.size + 1, 0, none⟩ = false
  f1 : W.frozen? ⟨w.heap.size + 1, 1, none⟩ = false
theorem PtS.on {w W W1 : World} {A : Option Addr} {L : List (Int × Int)} (H : PtS w A L W) (hb : Below W.heap.size W W1) : PtS w A L W1 := by
  obtain ⟨v0, q0⟩ := H.p0
  obtain ⟨v1, q1⟩ := H.p1
  exact ⟨belowNext H.B hb, Nat.lt_of_lt_of_le H.z hb.size, H.own.next hb, ⟨v0, cellThru hb H.z q0⟩, ⟨v1, cellThru hb H.z q1⟩, frozThru hb H.z H.f0, frozThru hb H.z H.f1⟩

theorem prK_bound {m k q : Nat} (hm : m ≤ 7) (hk : k < m) (hq : q ≤ m - (k + 1)) : (prK m k ++ innP k q).length ≤ 100 := by
  have h1 := prK_len m k
  have h2 : k * m ≤ 7 * 7 := Nat.mul_le_mul (by omega) hm
  rw [List.length_append, innP_len]
  omega

set_option maxRecDepth 8000 in
set_option maxHeartbeats 4000000 in
theorem implPT (n d : Int) (w : World) : Calls Try.prog 41 #[ang n d] w (ResPT w (o8 n d) (c8 n d)) := by
  have HO := Lib.hid (fun w => implOrbitOf n d w)
  obtain ⟨i0, hi, hz0, hz1, hz2⟩ := infoI8_parts
  have HI := Lib.hid hi
  have HZ0 := Lib.hid hz0
  clear hi hz0
  have hcs : ((oC n d = 3 ∨ 7 < (oL n d).length) ∧ c8 n d = 2 ∧ o8 n d = [] ∧ (oC n d = 3 ∨ oC n d = 0)) ∨ (oC n d ≠ 3 ∧ (oL n d).length ≤ 7 ∧ c8 n d = oC n d ∧ o8 n d = oL n d) := by
    rcases o8_cases n d with ⟨a, b, c, e, _⟩ | ⟨a, b, c, e, _⟩ | ⟨a, b, c, e, _⟩ | ⟨a, b, _, c, e, _⟩
    · exact .inr ⟨by omega, by rw [b]; simp, by omega, by rw [b, e]⟩
    · exact .inl ⟨.inl a, c, e, .inl a⟩
    · exact .inl ⟨.inr b, c, e, .inr a⟩
    · exact .inr ⟨by omega, b, by omega, e⟩
  generalize oL n d = L at *
  generalize oC n d = C at *
  generalize c8 n d = C' at *
  generalize o8 n d = L' at *
  rcases hcs with ⟨h1, e1, e2, h3⟩ | ⟨h1, h2, e1, e2⟩ <;> rw [e1, e2] <;> clear e1 e2
  · obtain ⟨m, hm⟩ : ∃ m, L.length = m := ⟨_, rfl⟩
    rw [hm] at h1
    have HLm := Lib.hid hm
    clear hm
    go_enter Try.func41, Try.ntmps41
    go_wp2_with fail
    refine (HO.out _).mono ?_
    rintro e w2 ⟨A, cap, rfl, hA, hb2⟩
    rw [HLm.out]
    have S2 : PtS w A L w2 := by
      refine ⟨?_, ?_, ?_, ⟨.slice none 0 0, ?_⟩, ⟨.slice none 0 0, ?_⟩, ?_, ?_⟩
      · (repeat' (first | (with_reducible exact Below.refl _ _) | (with_reducible assumption) | (with_reducible refine belowNext ?_ (by with_reducible assumption)) | (with_reducible refine belowAlloc ?_ _) | (with_reducible refine Below.drew ?_) | (with_reducible refine below_drewN ?_ _) | (with_reducible refine Below.setCell ?_ ?_ _) | go_size | (with_reducible refine sizeOf' ?_) | (with_reducible refine sizeAdd ?_) | (dsimp only; first | (with_reducible refine sizeOf' ?_) | (with_reducible refine sizeAdd ?_))))
      · have := hb2.size; simp at this; omega
      · intro hL
        obtain ⟨b, off, e, h1, h2, h3⟩ := hA hL
        exact ⟨b, off, e, by simp at h1; omega, h2, h3⟩
      · exact cellThru hb2 (by simp) (by simp [go_sem])
      · exact cellThru hb2 (by simp) (by simp [go_sem])
      · exact frozThru hb2 (by simp) (by simp [go_sem])
      · exact frozThru hb2 (by simp) (by simp [go_sem])
    clear hA hb2
    obtain ⟨B2, z2, own2, ⟨v0, p0⟩, ⟨v1, p1⟩, f0, f1⟩ := S2
    rcases h3 with rfl | rfl
    · go_wp2
      refine bodyPost_ret (v := .tuple #[.agg #[.slice none 0 0, .slice none 0 0], .int .i64 2]) (by simp [results, Try.results41, go_sem, p0, p1]) rfl ⟨none, 0, none, 0, rfl, own_nil, tabOwn_nil, ?_⟩
      (repeat' (first | (with_reducible exact Below.refl _ _) | (with_reducible assumption) | (with_reducible refine belowNext ?_ (by with_reducible assumption)) | (with_reducible refine belowAlloc ?_ _) | (with_reducible refine Below.drew ?_) | (with_reducible refine below_drewN ?_ _) | (with_reducible refine Below.setCell ?_ ?_ _) | go_size | (with_reducible refine sizeOf' ?_) | (with_reducible refine sizeAdd ?_) | (dsimp only; first | (with_reducible refine sizeOf' ?_) | (with_reducible refine sizeAdd ?_))))
    · have h7 : 7 < m := by omega
      have d7 : decide ((m : Int) > 7) = true := decide_eq_true (by omega)
      have d7' : decide ((7 : Int) < (m : Int)) = true := decide_eq_true (by omega)
      clear h1
      go_wp2
      refine bodyPost_ret (v := .tuple #[.agg #[.slice none 0 0, .slice none 0 0], .int .i64 2]) (by simp [results, Try.results41, go_sem, p0, p1]) rfl ⟨none, 0, none, 0, rfl, own_nil, tabOwn_nil, ?_⟩
      (repeat' (first | (with_reducible exact Below.refl _ _) | (with_reducible assumption) | (with_reducible refine belowNext ?_ (by with_reducible assumption)) | (with_reducible refine belowAlloc ?_ _) | (with_reducible refine Below.drew ?_) | (with_reducible refine below_drewN ?_ _) | (with_reducible refine Below.setCell ?_ ?_ _) | go_size | (with_reducible refine sizeOf' ?_) | (with_reducible refine sizeAdd ?_) | (dsimp only; first | (with_reducible refine sizeOf' ?_) | (with_reducible refine sizeAdd ?_))))
  · obtain ⟨m, hm⟩ : ∃ m, L.length = m := ⟨_, rfl⟩
    rw [hm] at h2
    have HLm := Lib.hid hm
    have hC3 : decide (C = 3) = false := decide_eq_false h1
    have hC3' : (C == 3) = false := beq_eq_false_iff_ne.2 h1
    have d7 : decide ((m : Int) > 7) = false := decide_eq_false (by omega)
    have d7' : decide ((7 : Int) < (m : Int)) = false := decide_eq_false (by omega)
    have HC3 := Lib.hid h1
    clear hm h1
    go_enter Try.func41, Try.ntmps41
    go_wp2_with fail
    refine (HO.out _).mono ?_
    rintro e w2 ⟨A, cap, rfl, hA, hb2⟩
    rw [HLm.out]
    have S2 : PtS w A L w2 := by
      refine ⟨?_, ?_, ?_, ⟨.slice none 0 0, ?_⟩, ⟨.slice none 0 0, ?_⟩, ?_, ?_⟩
      · (repeat' (first | (with_reducible exact Below.refl _ _) | (with_reducible assumption) | (with_reducible refine belowNext ?_ (by with_reducible assumption)) | (with_reducible refine belowAlloc ?_ _) | (with_reducible refine Below.drew ?_) | (with_reducible refine below_drewN ?_ _) | (with_reducible refine Below.setCell ?_ ?_ _) | go_size | (with_reducible refine sizeOf' ?_) | (with_reducible refine sizeAdd ?_) | (dsimp only; first | (with_reducible refine sizeOf' ?_) | (with_reducible refine sizeAdd ?_))))
      · have := hb2.size; simp at this; omega
      · intro hL
        obtain ⟨b, off, e, h1, h2, h3⟩ := hA hL
        exact ⟨b, off, e, by simp at h1; omega, h2, h3⟩
      · exact cellThru hb2 (by simp) (by simp [go_sem])
      · exact cellThru hb2 (by simp) (by simp [go_sem])
      · exact frozThru hb2 (by simp) (by simp [go_sem])
      · exact frozThru hb2 (by simp) (by simp [go_sem])
    have HS := Lib.hid S2
    clear hA hb2 S2
    go_wp2
    go_loopg [6, 7, 8, 24] m (fun g s6 _ _ ix wr => ∃ (k c : Nat) (B : Option Addr) (q : Nat), k + g = m ∧ ix = .int .i64 k ∧ s6 = .slice B q c ∧ Hid ((prK m k).length * 2 = q) ∧ Hid (wr.ownsRow w2.heap.size 2 1 (.slice B q c) q (flatA (prK m k))) ∧ Below w2.heap.size w2 wr)
    case atStart => exact ⟨0, 0, none, 0, by omega, rfl, rfl, Lib.hid rfl, Lib.hid ownNone8, Below.refl _ _⟩
    case round =>
      obtain ⟨k, c, B, q, hkg, rfl, rfl, HQ, HN, HB⟩ := hrel
      cases gk with
      | zero =>
        obtain rfl : k = m := by omega
        have hb21 := prL_len h2
        obtain ⟨N, hN⟩ : ∃ N, (prL k).length = N := ⟨_, rfl⟩
        have hq : q = N * 2 := by rw [← hN]; exact HQ.out.symm
        obtain ⟨B', c', hv, hqc, hg⟩ := ownForm8 HN.out
        obtain ⟨rfl, rfl⟩ : B = B' ∧ c = c' := by injection hv with a _ b; exact ⟨a, b⟩
        obtain ⟨b, hb⟩ : ∃ b, 0 < N → B = some ⟨b, 0, none⟩ ∧ w2.heap.size ≤ b ∧ b < wr.heap.size := by
          rcases Nat.eq_zero_or_pos N with h0 | h0
          · exact ⟨0, fun h => absurd h (by omega)⟩
          · obtain ⟨b, e⟩ := hg (by omega)
            exact ⟨b, fun _ => e⟩
        have HR := Lib.hid (implRows B q c 2 N b 0 wr hq hqc (fun h0 => ⟨(hb h0).1, by omega⟩) (by omega) (by omega) (by omega))
        have HB0 := Lib.hid hb
        have HNn := Lib.hid hN
        have HQq := Lib.hid hq
        have HNN : Hid (0 < N → wr.ownsRow w2.heap.size 2 1 (.slice (some ⟨b, 0, none⟩) (N * 2) c) (N * 2) (flatA (prL k))) := Lib.hid (fun h0 => by
          have := HN.out
          rw [(hb h0).1, hq] at this
          exact this)
        clear hkg hN hq hqc hg hb hv hb21 HN
        go_wp2_with fail
        refine HR.out.mono ?_
        rintro e w3 ⟨A2, cap2, rfl, H3, hb3⟩
        have S3 := (HS.out.on HB).on hb3
        have HT : Hid (TabOwn w3 w2.heap.size A2 N (fun _ => 2) (pF (prL k))) := Lib.hid (by
          have h := H3.out
          rw [← HNn.out] at h ⊢
          exact pairs_tab (b := b) (cn := c) (fun h0 => ownNext8 (by have := HNN.out (by rw [← HNn.out]; exact h0); rw [← HNn.out] at this; exact this) hb3) h HB.size (fun h0 => (HB0.out (by rw [← HNn.out]; exact h0)).2.2))
        obtain ⟨B2, z2, own2, ⟨v0, p0⟩, ⟨v1, p1⟩, f0, f1⟩ := id S3
        have S2z := HS.out.z
        clear HB H3 hb3 HS
        go_wp2
        refine bodyPost_ret (v := .tuple #[.agg #[.slice A k cap, .slice A2 N cap2], .int .i64 C]) (by simp [results, Try.results41, go_sem, p0, p1]) rfl ⟨A, cap, A2, cap2, by rw [HLm.out, HNn.out], ?_, ?_, ?_⟩
        · exact ((own2.setLow (by show w.heap.size + 1 < w.heap.size + 2; omega)).setLow (by show w.heap.size + 1 < w.heap.size + 2; omega)).low8 (by omega)
        · rw [HLm.out]
          have h := HT.out
          rw [← HNn.out] at h
          exact ((h.setLow (by show w.heap.size + 1 < w2.heap.size; omega)).setLow (by show w.heap.size + 1 < w2.heap.size; omega)).low (by omega)
        · (repeat' (first | (with_reducible exact Below.refl _ _) | (with_reducible assumption) | (with_reducible refine belowNext ?_ (by with_reducible assumption)) | (with_reducible refine belowAlloc ?_ _) | (with_reducible refine Below.drew ?_) | (with_reducible refine below_drewN ?_ _) | (with_reducible refine Below.setCell ?_ ?_ _) | go_size | (with_reducible refine sizeOf' ?_) | (with_reducible refine sizeAdd ?_) | (dsimp only; first | (with_reducible refine sizeOf' ?_) | (with_reducible refine sizeAdd ?_))))
      | succ g =>
        have hkm : k < m := by omega
        have HKG := Lib.hid hkg
        obtain ⟨P, hP⟩ : ∃ P : Nat, k + 1 = P := ⟨_, rfl⟩
        have hs1 : IntKind.i64.wrap ((k : Int) + 1) = (P : Int) := (IntWalk.i64_in _ (by omega)).trans (by omega)
        have HP := Lib.hid hP
        clear hkg hP
        go_wp2
        go_loopg [6, 8] (m - (k + 1)) (fun g s6 s8 wx => ∃ (j J c : Nat) (B : Option Addr) (q : Nat), j + g = m - (k + 1) ∧ Hid (J = k + 1 + j) ∧ s8 = .int .i64 (J : Int) ∧ s6 = .slice B q c ∧ Hid ((prK m k ++ innP k j).length * 2 = q) ∧ Hid (wx.ownsRow w2.heap.size 2 1 (.slice B q c) q (flatA (prK m k ++ innP k j))) ∧ Below w2.heap.size w2 wx)
        case atStart => exact ⟨0, P, c, B, q, by omega, Lib.hid HP.out.symm, rfl, rfl, by rw [innP_zero, List.append_nil]; exact HQ, by rw [innP_zero, List.append_nil]; exact HN, HB⟩
        case round =>
          clear HQ HN HB
          obtain ⟨j, J, c, B, q, hjg, HJ, rfl, rfl, HQ, HN, HB⟩ := hrel
          have hJ := HJ.out
          cases gk with
          | zero =>
            have d1 : decide ((J : Int) < (m : Int)) = false := decide_eq_false (by omega)
            have d1n : decide (J < m) = false := decide_eq_false (by omega)
            have e : prK m k ++ innP k j = prK m (k + 1) := by rw [show j = m - (k + 1) by omega]; rfl
            rw [e] at HQ HN
            clear e hJ hjg
            go_wp2
            go_roundg g
            case measure => omega
            case rel => exact ⟨k + 1, c, B, q, by have := HKG.out; omega, by have := HP.out; go_num, rfl, HQ, HN, HB⟩
          | succ g2 =>
            have d1 : decide ((J : Int) < (m : Int)) = true := decide_eq_true (by omega)
            have d1n : decide (J < m) = true := decide_eq_true (by omega)
            have hs2 : IntKind.i64.wrap ((J : Int) + 1) = (J : Int) + 1 := IntWalk.i64_in _ (by omega)
            have hbd := prK_bound h2 hkm (q := j) (by omega)
            rw [show (prK m k ++ innP k j).length ≤ 100 ↔ q ≤ 200 by rw [← HQ.out]; omega] at hbd
            have HE : Hid (flatA (prK m k ++ innP k j) ++ [.int .i64 (P : Int), .int .i64 ((J : Int) + 1)] = flatA (prK m k ++ innP k (j + 1))) := Lib.hid (by
              have e1 : (P : Int) = (k : Int) + 1 := by have := HP.out; omega
              have e2 : (J : Int) + 1 = (k : Int) + 2 + (j : Int) := by omega
              rw [innP_succ, e1, e2]
              simp only [flatA_app, List.append_assoc]
              rfl)
            have HQ2 : Hid ((prK m k ++ innP k (j + 1)).length * 2 = q + 2) := Lib.hid (by
              have := HQ.out
              simp only [List.length_append, innP_len] at this ⊢
              omega)
            have HJG := Lib.hid hjg
            have hi := HI.out
            have hz0 := HZ0.out
            have hown := HN.out
            have hzS := HB.size
            clear hJ hjg HQ HN
            go_wp2_with (at_builtin; refine wpList_append_own_at _ rfl _ _ 32 rfl w2.heap.size 2 i0 (.int .i64 0) 1 8 Try.underlying32 hi hz0 hz1 hz2 rfl (by decide) (.slice B q c) q (flatA (prK m k ++ innP k j)) rfl (World.ownsRow.alloc hown _) ⟨wr.heap.size, 0, none⟩ 2 2 [.int .i64 (P : Int), .int .i64 ((J : Int) + 1)] rfl rfl ?c1 ?c2 ?c3 ?c4 ?c5 ?_)
            case c1 => exact cell_two_new8 _ _ _ _
            case c2 => intro u hu; simp at hu; rcases hu with rfl | rfl <;> rfl
            case c3 => unfold maxLen; omega
            case c4 => omega
            case c5 => first | omega | (simp; omega)
            intro v' w1 hown' hgrow _ _
            rw [HE.out] at hown'
            have HB1 : Below w2.heap.size w2 w1 := below_grown8 (show Below w2.heap.size w2 (wr.alloc _) from belowAlloc HB _) hgrow (fun j e => ownBlock8 hown j e) (by simp; omega)
            obtain ⟨B', c', rfl, _⟩ := ownForm8 hown'
            have HO' := Lib.hid hown'
            clear hown hown' hgrow HB hzS HE hi hz0
            go_wp2
            go_roundg g2
            case measure => omega
            case rel => exact ⟨j + 1, J + 1, c', B', q + 2, by have := HJG.out; omega, Lib.hid (by have := HJ.out; omega), by go_num, rfl, HQ2, HO', HB1⟩
end Go.Proofs.Ytjomgbjiognmmaa

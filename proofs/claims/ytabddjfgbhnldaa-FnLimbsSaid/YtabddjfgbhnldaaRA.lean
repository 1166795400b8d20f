/-
  Contracts: ray pairs sorted by their lower angles.
  Contracts: the pairs of a period, as the program gathers and sorts them.
  Contracts: lists of ray pairs as results: compared, marked, looked at again.
  Contracts: the pairs of a period on both sides; the law's walk.
-/
import Derived.Test.YtabddjfgbhnldaaR25
import Derived.Test.YtabddjfgbhnldaaShelfS
import Derived.Test.YtabddjfgbhnldaaR11
import Derived.Test.YtabddjfgbhnldaaRQ
import Derived.Test.YtabddjfgbhnldaaR13
namespace Go.Proofs.Ytabddjfgbhnldaa
open Go.RowKit

set_option maxHeartbeats 1000000 in
theorem cmpAngX (n d m c : Int) (w : World) (h1 : angOk n d) (h2 : angOk m c) :
    Calls Try.prog 51 #[ang n d, ang m c] w fun e w' => e = .returned (.int .i64 (cmpI (n * c) (m * d))) ∧ ∃ q os', w' = Go.Sort.grow (w.drewN q) os' := by
  obtain ⟨a1, a2, a3, a4⟩ := h1
  obtain ⟨b1, b2, b3, b4⟩ := h2
  obtain ⟨p1, p2⟩ := mul_bound (a := n) (b := c) (by omega) (by omega) (by omega) (by omega)
  obtain ⟨q1, q2⟩ := mul_bound (a := m) (b := d) (by omega) (by omega) (by omega) (by omega)
  have HC := Lib.hid (fun w => cmpInt (n * c) (m * d) w)
  generalize cmpI (n * c) (m * d) = C at *
  go_enter Try.func51, Try.ntmps51
  go_wp2_with fail
  refine (HC.out _).mono ?_
  rintro e w1 ⟨rfl, rfl⟩
  go_wp2
  go_ret
  exact ⟨rfl, 0, _, by rw [Go.Sort.alloc_eq_grow, Go.Sort.alloc_eq_grow, Go.Sort.grow_grow]; rfl⟩

theorem grow_drewN (w : World) (os : Array Obj) : ∀ q, (Go.Sort.grow w os).drewN q = Go.Sort.grow (w.drewN q) os := fun _ => rfl
/-- The order of pairs that the program sorts by, on pairs of angles in order. -/
abbrev OkP : Type := { p : Lf4 // okP p = true }
theorem okP_one : okP (0, 1, 1, 2) = true := by decide +kernel
instance : Inhabited OkP := ⟨⟨(0, 1, 1, 2), okP_one⟩⟩
def encP (x : OkP) : List Value := [.int .i64 x.1.1, .int .i64 x.1.2.1, .int .i64 x.1.2.2.1, .int .i64 x.1.2.2.2]
def cfP (x y : OkP) : Int := cmpI (x.1.1 * y.1.2.1) (y.1.1 * x.1.2.1)
theorem ltOf_cfP (x y : OkP) : ltOf cfP x y = lowLt x.1 y.1 := (ltA_cmp _ _ _ _).symm
theorem swoP : Go.Sort.SWO (ltOf cfP) where
  irrefl x := by rw [ltOf_cfP]; exact low_irr _
  trans x y z h1 h2 := by rw [ltOf_cfP] at *; exact low_tr x.2 y.2 z.2 h1 h2
  ntrans x y z h1 h2 := by rw [ltOf_cfP] at *; exact low_ntr x.2 y.2 z.2 h1 h2

set_option maxHeartbeats 1000000 in
theorem closSort (x y : OkP) (w : World) :
    Calls Try.prog 53 #[.agg (encP x).toArray, .agg (encP y).toArray] w fun e w' => e = .returned (.int .i64 (cfP x y)) ∧ ∃ q os', w' = Go.Sort.grow (w.drewN q) os' := by
  obtain ⟨⟨a, b, c, d⟩, hx⟩ := x
  obtain ⟨⟨e, f, g, h⟩, hy⟩ := y
  have HC := Lib.hid (fun w => cmpAngX a b e f w (ok_low hx) (ok_low hy))
  have E : cfP ⟨(a, b, c, d), hx⟩ ⟨(e, f, g, h), hy⟩ = cmpI (a * f) (e * b) := rfl
  rw [E]
  show Calls Try.prog 53 #[leafV a b c d, leafV e f g h] w _
  clear E hx hy
  generalize cmpI (a * f) (e * b) = C at *
  go_enter Try.func53, Try.ntmps53
  go_wp2_with fail
  refine (HC.out _).mono ?_
  rintro e' w1 ⟨rfl, q, os, rfl⟩
  go_wp2
  go_ret
  exact ⟨rfl, q, _, by rw [Go.Sort.alloc_eq_grow, Go.Sort.alloc_eq_grow, Go.Sort.grow_grow, grow_drewN]; exact Go.Sort.grow_grow _ _ _⟩

theorem cmpLaysP (blk off size : Nat) (w : World) : CmpLays Try.prog 53 #[] encP 4 cfP blk off size w := fun _ _ _ _ x y => closSort x y _
theorem okList : ∀ l : List Lf4, (∀ p ∈ l, okP p = true) → ∃ L : List OkP, L.map (fun x => x.1) = l
  | [], _ => ⟨[], rfl⟩
  | p :: l, h => by
    obtain ⟨L, hL⟩ := okList l (fun q hq => h q (List.mem_cons_of_mem _ hq))
    exact ⟨⟨p, h p (List.mem_cons_self ..)⟩ :: L, by simp [hL]⟩
theorem flatP_get {L : List OkP} {t : Nat} (h : t < L.length * 4) : (flatP (L.map fun x => x.1))[t]? = some (Go.Sort.flatK encP 4 L.toArray)[t]! := by
  rw [Go.Sort.get_flatK encP 4 L.toArray t (by simpa using h)]
  have hi : t / 4 < L.length := by omega
  have hx : (L.map fun x => x.1)[t / 4]? = some ((L[t / 4]).1.1, (L[t / 4]).1.2.1, (L[t / 4]).1.2.2.1, (L[t / 4]).1.2.2.2) := by
    rw [List.getElem?_map, List.getElem?_eq_getElem hi]; rfl
  obtain ⟨h0, h1, h2, h3⟩ := flatP_at hx
  have eL : L.toArray[t / 4]! = L[t / 4] := by rw [getElem!_pos _ _ (by simpa using hi)]; simp
  rw [eL]
  obtain ⟨y, hy⟩ : ∃ y, L[t / 4] = y := ⟨_, rfl⟩
  rw [hy] at h0 h1 h2 h3 ⊢
  have at' : ∀ k, t % 4 = k → (flatP (L.map fun x => x.1))[t]? = (flatP (L.map fun x => x.1))[t / 4 * 4 + k]? := fun k hk => congrArg (fun i => (flatP (L.map fun x => x.1))[i]?) (by omega)
  rcases (show t % 4 = 0 ∨ t % 4 = 1 ∨ t % 4 = 2 ∨ t % 4 = 3 by omega) with e | e | e | e
  · rw [at' 0 e, e]; exact h0
  · rw [at' 1 e, e]; exact h1
  · rw [at' 2 e, e]; exact h2
  · rw [at' 3 e, e]; exact h3

/-- The world behind a sort: the row holds the pairs in their new order. -/
theorem sorted_own {w : World} {lo g n cap m : Nat} {l : List Lf4} {D : List OkP} {os : Array Obj} (hlen : D.length = n)
    (h : w.ownsRow lo 28 4 (.slice (some ⟨g, 0, none⟩) n cap) n (flatP l)) :
    (sortWorldK encP 4 w g 0 m D.toArray os).ownsRow lo 28 4 (.slice (some ⟨g, 0, none⟩) n cap) n (flatP (D.map fun x => x.1)) ∧ Below lo w (sortWorldK encP 4 w g 0 m D.toArray os) := by
  obtain ⟨hx, h2⟩ := h
  rcases h2 with ⟨e, _⟩ | ⟨g', cap', cur, e, hlo, hc, hnc, hcm, hcs, htk⟩
  · cases e
  · obtain ⟨rfl, rfl⟩ : g = g' ∧ cap = cap' := by
      injection e with e1 e2 e3
      injection e1 with e1
      injection e1 with e1
      exact ⟨e1, e3⟩
    have hlt : g < w.heap.size := (Array.getElem?_eq_some_iff.1 hc).1
    have hh : (sortWorldK encP 4 w g 0 m D.toArray os).heap = w.heap.modify g (Go.Sort.onCells (Go.Sort.putCells id 0 (Go.Sort.flatK encP 4 D.toArray))) ++ os := rfl
    constructor
    · refine ⟨by rw [flatP_len, List.length_map, hlen], .inr ⟨g, cap, Go.Sort.putCells id 0 (Go.Sort.flatK encP 4 D.toArray) cur, rfl, hlo, ?_, hnc, hcm, ?_, ?_⟩⟩
      · rw [hh, Array.getElem?_append_left (by simpa using hlt), Array.getElem?_modify, if_pos rfl, hc]
        rfl
      · simp [Go.Sort.putCells, hcs]
      · apply List.ext_getElem?
        intro t
        rw [List.getElem?_take]
        by_cases ht : t < n * 4
        · rw [if_pos ht, flatP_get (by omega)]
          have hcap : n * 4 ≤ cap * 4 := Nat.mul_le_mul_right 4 hnc
          have htc : t < cur.size := by omega
          simp only [Go.Sort.putCells, Array.getElem?_toList, Array.getElem?_mapIdx]
          rw [Array.getElem?_eq_getElem htc, Option.map_some, if_pos ⟨Nat.zero_le _, by rw [Go.Sort.size_flatK]; simp; omega⟩]
          rfl
        · rw [if_neg ht, List.getElem?_eq_none (by rw [flatP_len, List.length_map]; omega)]
    · refine ⟨rfl, rfl, rfl, by rw [hh]; simp, fun k hk => ?_⟩
      rw [hh, Array.getElem?_append_left (by simp; omega), Array.getElem?_modify, if_neg (by omega)]

set_option maxHeartbeats 1000000 in
theorem implSortP (lo : Nat) (A : Option Addr) (n cap : Nat) (l : List Lf4) (w : World) (ho : w.ownsRow lo 28 4 (.slice A n cap) n (flatP l)) (hl : l.length = n) (hk : ∀ p ∈ l, okP p = true) (hn : n ≤ 100000) :
    Calls Try.prog 43 #[.slice A n cap] w fun e w' => e = .returned (.tuple #[]) ∧ Hid (∃ l' : List Lf4, l'.Perm l ∧ (l'.Pairwise fun x y => lowLt y x = false) ∧ w'.ownsRow lo 28 4 (.slice A n cap) n (flatP l') ∧ Below lo w w') := by
  have HS : Hid (∀ W : World, W = w → Calls Try.prog 52 #[.slice A n cap, .func (Fn.func 53) #[] #[]] W fun e w' => e = .returned (.tuple #[]) ∧ Hid (∃ l' : List Lf4, l'.Perm l ∧ (l'.Pairwise fun x y => lowLt y x = false) ∧ w'.ownsRow lo 28 4 (.slice A n cap) n (flatP l') ∧ Below lo w w')) := by
    rintro W rfl
    rcases Nat.eq_zero_or_pos n with h0 | h0
    · subst h0
      obtain rfl : l = [] := List.eq_nil_of_length_eq_zero hl
      refine (Try.slices_SortFunc_none A cap _ W).mono ?_
      rintro e w' ⟨rfl, rfl⟩
      exact ⟨rfl, Lib.hid ⟨[], List.Perm.refl _, List.Pairwise.nil, ho, Below.refl _ _⟩⟩
    · obtain ⟨g, c, hv, hlo, hg⟩ := ho.form h0
      obtain ⟨rfl, rfl⟩ : A = some ⟨g, 0, none⟩ ∧ cap = c := by injection hv with hA hn hc; exact ⟨hA, hc⟩
      obtain ⟨L, hL⟩ := okList l hk
      have hLn : L.length = n := by rw [← hl, ← hL, List.length_map]
      have hH : Go.Sort.HoldsK encP 4 W g 0 L.toArray := by
        intro t ht
        rw [Go.Sort.size_flatK] at ht
        have ht' : t < L.length * 4 := by simpa using ht
        rw [Nat.zero_add]
        exact ⟨(ho.cellAt t (by omega)).trans (by rw [← hL]; exact flatP_get ht'), ho.frozenAt t⟩
      have hsz : L.toArray.size = n := by simpa using hLn
      have hcon := Try.slices_SortFunc 4 Try.isAgg28 Try.sizeOf28 encP (fun _ => rfl) (fun x v hv => by simp [encP] at hv; rcases hv with rfl | rfl | rfl | rfl <;> rfl) cfP swoP 53 #[] g 0 cap L.toArray W (enters_of Try.func53 (by kernel_rfl) rfl) (cmpLaysP g 0 _ W) hH hg (by rw [hsz]; omega)
      rw [hsz] at hcon
      refine hcon.mono ?_
      rintro e w' ⟨rfl, d', m, os, hp, hs, rfl⟩
      obtain ⟨hz, _, hperm⟩ := hp
      have e1 : d'.extract 0 n = d' := by rw [← hsz, ← hz]; exact Array.extract_size
      have e2 : L.toArray.extract 0 n = L.toArray := by rw [← hsz]; exact Array.extract_size
      rw [e1, e2] at hperm
      have hp2 : d'.toList.Perm L := by simpa using hperm
      have hDn : d'.toList.length = n := by rw [← hLn]; exact hp2.length_eq
      have hd : d'.toList.toArray = d' := by simp
      have H := sorted_own (m := m) (os := os) hDn ho
      rw [hd] at H
      refine ⟨rfl, Lib.hid ⟨d'.toList.map (fun x => x.1), by rw [← hL]; exact hp2.map _, ?_, H.1, H.2⟩⟩
      rw [List.pairwise_map, List.pairwise_iff_getElem]
      intro i j hi hj hij
      have := hs i j (Nat.zero_le _) hij (by omega)
      rw [ltOf_cfP] at this
      rw [getElem!_pos d' i (by simpa using hi), getElem!_pos d' j (by simpa using hj)] at this
      simpa using this
  clear ho hl hk
  go_enter Try.func43, Try.ntmps43
  go_wp2_with fail
  refine (HS.out _ rfl).mono ?_
  rintro e w1 ⟨rfl, H⟩
  go_wp2
  go_end0
  exact ⟨rfl, H⟩

/-- A row that turns elsewhere is as it was. -/
theorem ownTurn {w w1 : World} {row : Option Nat} {lo : Nat} {e : TypeId} {k : Nat} {v : Value} {n : Nat} {xs : List Value} (h : w.ownsRow lo e k v n xs) (hg : w.grownBy w1 row) (hr : ∀ j, row = some j → j < lo) : w1.ownsRow lo e k v n xs := by
  obtain ⟨hx, h2⟩ := h
  rcases h2 with h3 | ⟨g, cap, cur, e1, hlo, hc, hrest⟩
  · exact ⟨hx, .inl h3⟩
  · have hlt : g < w.heap.size := (Array.getElem?_eq_some_iff.1 hc).1
    exact ⟨hx, .inr ⟨g, cap, cur, e1, hlo, (hg.block g hlt (fun e2 => by have := hr g e2.symm; omega)).trans hc, hrest⟩⟩
theorem own_block {w : World} {lo : Nat} {e : TypeId} {k : Nat} {v : Value} {n : Nat} {xs : List Value} (h : w.ownsRow lo e k v n xs) : ∀ j, v.ownBlock = some j → lo ≤ j := by
  intro j e1
  rcases h.2 with ⟨hv, _⟩ | ⟨g0, c0, cur, hv, hlo, _⟩
  · rw [hv] at e1; simp [Value.ownBlock] at e1
  · rw [hv] at e1; simp [Value.ownBlock] at e1; omega
theorem ownMono {w : World} {lo lo' : Nat} {e : TypeId} {k : Nat} {v : Value} {n : Nat} {xs : List Value} (h : w.ownsRow lo e k v n xs) (hl : lo' ≤ lo) : w.ownsRow lo' e k v n xs := by
  obtain ⟨hx, h2⟩ := h
  rcases h2 with h3 | ⟨g, cap, cur, e1, hlo, hrest⟩
  · exact ⟨hx, .inl h3⟩
  · exact ⟨hx, .inr ⟨g, cap, cur, e1, Nat.le_trans hl hlo, hrest⟩⟩
theorem own_none {w : World} {lo : Nat} {e : TypeId} {k : Nat} : w.ownsRow lo e k (.slice none 0 0) 0 [] := ⟨by simp, .inl ⟨rfl, rfl⟩⟩
theorem per_told {l : List (Lf4 × Nat)} (hok : allP l) (hs : ∀ x ∈ l, ∀ y ∈ l, y.1 = x.1 → y.2 = x.2) {x : Lf4 × Nat} (hx : x ∈ l) {c : Int} (h : ∀ zd, (pD l).atKey (kp x.1) zd = .lit (.int .i64 c)) : c = (x.2 : Int) := by
  obtain ⟨y, hy, e1, e2⟩ := pD_at hok hx (.map [])
  rw [h] at e2
  simp only [DataW.lit.injEq, Lit.int.injEq, true_and] at e2
  rw [e2, hs x hx y hy e1]

theorem ownP_of {w : World} {lo : Nat} {l : List Lf4} {A : Option Addr} {len cap : Nat} (hl : l.length = len) (h : w.ownsRow lo 28 4 (.slice A len cap) len (flatP l)) : LfOwn w lo A l := by
  intro hne
  have hk : 0 < len := by
    rcases Nat.eq_zero_or_pos len with h0 | h0
    · rw [h0] at hl; exact absurd (List.eq_nil_of_length_eq_zero hl) hne
    · exact h0
  obtain ⟨g, c, hv, hlo, hg⟩ := h.form hk
  obtain ⟨rfl, rfl⟩ : A = some ⟨g, 0, none⟩ ∧ cap = c := by injection hv with hA hn hc; exact ⟨hA, hc⟩
  refine ⟨g, 0, rfl, hlo, hg, fun i a b c' d hi => ?_⟩
  have hik : i < len := by
    rcases Nat.lt_or_ge i l.length with h1 | h1
    · omega
    · rw [List.getElem?_eq_none h1] at hi; cases hi
  obtain ⟨f1, f2, f3, f4⟩ := flatP_at hi
  rw [show 0 + i * 4 = i * 4 by omega]
  exact ⟨⟨(h.cellAt _ (by omega)).trans f1, (h.cellAt _ (by omega)).trans f2, (h.cellAt _ (by omega)).trans f3, (h.cellAt _ (by omega)).trans f4⟩, ⟨h.frozenAt _, h.frozenAt _, h.frozenAt _, h.frozenAt _⟩⟩

/-- The form of an answer that is a list of pairs and a code. -/
def ResRp (w : World) (l : List Lf4) (c : Int) (e : Ending) (w' : World) : Prop :=
  ∃ A cap, e = .returned (.tuple #[.slice A l.length cap, .int .i64 c]) ∧ LfOwn w' w.heap.size A l ∧ Below w.heap.size w w'
theorem LfOwn.drop {w : World} {lo b off : Nat} {l : List Lf4} (h : LfOwn w lo (some ⟨b, off, none⟩) l) (k : Nat) : LfOwn w lo (some ⟨b, off + k * 4, none⟩) (l.drop k) := by
  intro hne
  have hl : l ≠ [] := by intro e; rw [e] at hne; simp at hne
  obtain ⟨b', off', e, h1, h2, h3⟩ := h hl
  obtain ⟨rfl, rfl⟩ : b = b' ∧ off = off' := by simpa using e
  refine ⟨b, off + k * 4, rfl, h1, h2, fun i n d m c hi => ?_⟩
  rw [List.getElem?_drop] at hi
  have := h3 (k + i) n d m c hi
  rw [show off + k * 4 + i * 4 = off + (k + i) * 4 by omega]
  exact this

/-- What PairsOfPeriod answers. -/
def popL (n : Int) : List Lf4 := if 2 ≤ n ∧ n ≤ 8 then newP (n.toNat - 2) else []
def popC (n : Int) : Int := if 2 ≤ n ∧ n ≤ 8 then 0 else 2
theorem pop_yes {m : Nat} (h : m ≤ 6) : popL ((m + 2 : Nat) : Int) = newP m ∧ popC ((m + 2 : Nat) : Int) = 0 := by
  unfold popL popC
  rw [if_pos (by omega), if_pos (by omega)]
  exact ⟨congrArg newP (by omega), rfl⟩
theorem pop_no {n : Int} (h : ¬ (2 ≤ n ∧ n ≤ 8)) : popL n = [] ∧ popC n = 2 := by
  unfold popL popC
  rw [if_neg h, if_neg h]
  exact ⟨rfl, rfl⟩
theorem popL_len (n : Int) : (popL n).length ≤ 1000000000000 := by
  by_cases h : 2 ≤ n ∧ n ≤ 8
  · obtain ⟨m, rfl⟩ : ∃ m : Nat, n = ((m + 2 : Nat) : Int) := ⟨n.toNat - 2, by omega⟩
    rw [(pop_yes (m := m) (by omega)).1]
    have := newP_len (m := m) (by omega)
    omega
  · rw [(pop_no h).1]; simp

end Go.Proofs.Ytabddjfgbhnldaa

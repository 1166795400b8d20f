/-
  Contracts: ray pairs sorted by their lower angles.
  Contracts: the pairs of a period, as the program gathers and sorts them.
  Contracts: lists of ray pairs as results: compared, marked, looked at again.
  Contracts: the pairs of a period on both sides; the law's walk.
-/
import Derived.Test.YtnciiodgkanpjaaR25
import Derived.Test.YtnciiodgkanpjaaShelfS
import Derived.Test.YtnciiodgkanpjaaRG
import Derived.Test.YtnciiodgkanpjaaRQ
import Derived.Test.YtnciiodgkanpjaaR13
namespace Go.Proofs.Ytnciiodgkanpjaa
open Go.RowKit

set_option maxHeartbeats 1000000 in
theorem cmpAngX (n d m c : Int) (w : World) (h1 : angOk n d) (h2 : angOk m c) :
    Calls Try.prog 87 #[ang n d, ang m c] w fun e w' => e = .returned (.int .i64 (cmpI (n * c) (m * d))) ∧ ∃ q os', w' = Go.Sort.grow (w.drewN q) os' := by
  obtain ⟨a1, a2, a3, a4⟩ := h1
  obtain ⟨b1, b2, b3, b4⟩ := h2
  obtain ⟨p1, p2⟩ := mul_bound (a := n) (b := c) (by omega) (by omega) (by omega) (by omega)
  obtain ⟨q1, q2⟩ := mul_bound (a := m) (b := d) (by omega) (by omega) (by omega) (by omega)
  have HC := Lib.hid (fun w => cmpInt (n * c) (m * d) w)
  generalize cmpI (n * c) (m * d) = C at *
  go_enter Try.func87, Try.ntmps87
  go_wp2_with fail
  refine (HC.out _).mono ?_
  rintro e w1 ⟨rfl, rfl⟩
  go_wp2
  go_ret
  exact ⟨rfl, 0, _, by rw [Go.Sort.alloc_eq_grow, Go.Sort.alloc_eq_grow, Go.Sort.grow_grow]; rfl⟩

theorem grow_drewN (w : World) (os : Array Obj) : ∀ q, (Go.Sort.grow w os).drewN q = Go.Sort.grow (w.drewN q) os := fun _ => rfl
/-- The order of pairs that the program sorts by, on pairs of angles in order. -/
abbrev OkP : Type := { p : Lf4 // okP p = true }
theorem okP_one : okP (0, 1, 1, 2) = true := by decide +kernel
instance : Inhabited OkP := ⟨⟨(0, 1, 1, 2), okP_one⟩⟩
def encP (x : OkP) : List Value := [.int .i64 x.1.1, .int .i64 x.1.2.1, .int .i64 x.1.2.2.1, .int .i64 x.1.2.2.2]
def cfP (x y : OkP) : Int := cmpI (x.1.1 * y.1.2.1) (y.1.1 * x.1.2.1)
theorem ltOf_cfP (x y : OkP) : ltOf cfP x y = lowLt x.1 y.1 := (ltA_cmp _ _ _ _).symm
theorem swoP : Go.Sort.SWO (ltOf cfP) where
  irrefl x := by rw [ltOf_cfP]; exact low_irr _
  trans x y z h1 h2 := by rw [ltOf_cfP] at *; exact low_tr x.2 y.2 z.2 h1 h2
  ntrans x y z h1 h2 := by rw [ltOf_cfP] at *; exact low_ntr x.2 y.2 z.2 h1 h2

set_option maxHeartbeats 1000000 in
theorem closSort (x y : OkP) (w : World) :
    Calls Try.prog 103 #[.agg (encP x).toArray, .agg (encP y).toArray] w fun e w' => e = .returned (.int .i64 (cfP x y)) ∧ ∃ q os', w' = Go.Sort.grow (w.drewN q) os' := by
  obtain ⟨⟨a, b, c, d⟩, hx⟩ := x
  obtain ⟨⟨e, f, g, h⟩, hy⟩ := y
  have HC := Lib.hid (fun w => cmpAngX a b e f w (ok_low hx) (ok_low hy))
  have E : cfP ⟨(a, b, c, d), hx⟩ ⟨(e, f, g, h), hy⟩ = cmpI (a * f) (e * b) := rfl
  rw [E]
  show Calls Try.prog 103 #[leafV a b c d, leafV e f g h] w _
  clear E hx hy
  generalize cmpI (a * f) (e * b) = C at *
  go_enter Try.func103, Try.ntmps103
  go_wp2_with fail
  refine (HC.out _).mono ?_
  rintro e' w1 ⟨rfl, q, os, rfl⟩
  go_wp2
  go_ret
  exact ⟨rfl, q, _, by rw [Go.Sort.alloc_eq_grow, Go.Sort.alloc_eq_grow, Go.Sort.grow_grow, grow_drewN]; exact Go.Sort.grow_grow _ _ _⟩

theorem cmpLaysP (blk off size : Nat) (w : World) : CmpLays Try.prog 103 #[] encP 4 cfP blk off size w := fun _ _ _ _ x y => closSort x y _
theorem okList : ∀ l : List Lf4, (∀ p ∈ l, okP p = true) → ∃ L : List OkP, L.map (fun x => x.1) = l
  | [], _ => ⟨[], rfl⟩
  | p :: l, h => by
    obtain ⟨L, hL⟩ := okList l (fun q hq => h q (List.mem_cons_of_mem _ hq))
    exact ⟨⟨p, h p (List.mem_cons_self ..)⟩ :: L, by simp [hL]⟩
theorem flatP_get {L : List OkP} {t : Nat} (h : t < L.length * 4) : (flatP (L.map fun x => x.1))[t]? = some (Go.Sort.flatK encP 4 L.toArray)[t]! := by
  rw [Go.Sort.get_flatK encP 4 L.toArray t (by simpa using h)]
  have hi : t / 4 < L.length := by omega
  have hx : (L.map fun x => x.1)[t / 4]? = some ((L[t / 4]).1.1, (L[t / 4]).1.2.1, (L[t / 4]).1.2.2.1, (L[t / 4]).1.2.2.2) := by
    rw [List.getElem?_map, List.getElem?_eq_getElem hi]; rfl
  obtain ⟨h0, h1, h2, h3⟩ := flatP_at hx
  have eL : L.toArray[t / 4]! = L[t / 4] := by rw [getElem!_pos _ _ (by simpa using hi)]; simp
  rw [eL]
  obtain ⟨y, hy⟩ : ∃ y, L[t / 4] = y := ⟨_, rfl⟩
  rw [hy] at h0 h1 h2 h3 ⊢
  have at' : ∀ k, t % 4 = k → (flatP (L.map fun x => x.1))[t]? = (flatP (L.map fun x => x.1))[t / 4 * 4 + k]? := fun k hk => congrArg (fun i => (flatP (L.map fun x => x.1))[i]?) (by omega)
  rcases (show t % 4 = 0 ∨ t % 4 = 1 ∨ t % 4 = 2 ∨ t % 4 = 3 by omega) with e | e | e | e
  · rw [at' 0 e, e]; exact h0
  · rw [at' 1 e, e]; exact h1
  · rw [at' 2 e, e]; exact h2
  · rw [at' 3 e, e]; exact h3

/-- The world behind a sort: the row holds the pairs in their new order. -/
theorem sorted_own {w : World} {lo g n cap m : Nat} {l : List Lf4} {D : List OkP} {os : Array Obj} (hlen : D.length = n)
    (h : w.ownsRow lo 52 4 (.slice (some ⟨g, 0, none⟩) n cap) n (flatP l)) :
    (sortWorldK encP 4 w g 0 m D.toArray os).ownsRow lo 52 4 (.slice (some ⟨g, 0, none⟩) n cap) n (flatP (D.map fun x => x.1)) ∧ Below lo w (sortWorldK encP 4 w g 0 m D.toArray os) := by
  obtain ⟨hx, h2⟩ := h
  rcases h2 with ⟨e, _⟩ | ⟨g', cap', cur, e, hlo, hc, hnc, hcm, hcs, htk⟩
  · cases e
  · obtain ⟨rfl, rfl⟩ : g = g' ∧ cap = cap' := by
      injection e with e1 e2 e3
      injection e1 with e1
      injection e1 with e1
      exact ⟨e1, e3⟩
    have hlt : g < w.heap.size := (Array.getElem?_eq_some_iff.1 hc).1
    have hh : (sortWorldK encP 4 w g 0 m D.toArray os).heap = w.heap.modify g (Go.Sort.onCells (Go.Sort.putCells id 0 (Go.Sort.flatK encP 4 D.toArray))) ++ os := rfl
    constructor
    · refine ⟨by rw [flatP_len, List.length_map, hlen], .inr ⟨g, cap, Go.Sort.putCells id 0 (Go.Sort.flatK encP 4 D.toArray) cur, rfl, hlo, ?_, hnc, hcm, ?_, ?_⟩⟩
      · rw [hh, Array.getElem?_append_left (by simpa using hlt), Array.getElem?_modify, if_pos rfl, hc]
        rfl
      · simp [Go.Sort.putCells, hcs]
      · apply List.ext_getElem?
        intro t
        rw [List.getElem?_take]
        by_cases ht : t < n * 4
        · rw [if_pos ht, flatP_get (by omega)]
          have hcap : n * 4 ≤ cap * 4 := Nat.mul_le_mul_right 4 hnc
          have htc : t < cur.size := by omega
          simp only [Go.Sort.putCells, Array.getElem?_toList, Array.getElem?_mapIdx]
          rw [Array.getElem?_eq_getElem htc, Option.map_some, if_pos ⟨Nat.zero_le _, by rw [Go.Sort.size_flatK]; simp; omega⟩]
          rfl
        · rw [if_neg ht, List.getElem?_eq_none (by rw [flatP_len, List.length_map]; omega)]
    · refine ⟨rfl, rfl, rfl, by rw [hh]; simp, fun k hk => ?_⟩
      rw [hh, Array.getElem?_append_left (by simp; omega), Array.getElem?_modify, if_neg (by omega)]

set_option maxHeartbeats 1000000 in
theorem implSortP (lo : Nat) (A : Option Addr) (n cap : Nat) (l : List Lf4) (w : World) (ho : w.ownsRow lo 52 4 (.slice A n cap) n (flatP l)) (hl : l.length = n) (hk : ∀ p ∈ l, okP p = true) (hn : n ≤ 100000) :
    Calls Try.prog 93 #[.slice A n cap] w fun e w' => e = .returned (.tuple #[]) ∧ Hid (∃ l' : List Lf4, l'.Perm l ∧ (l'.Pairwise fun x y => lowLt y x = false) ∧ w'.ownsRow lo 52 4 (.slice A n cap) n (flatP l') ∧ Below lo w w') := by
  have HS : Hid (∀ W : World, W = w → Calls Try.prog 102 #[.slice A n cap, .func (Fn.func 103) #[] #[]] W fun e w' => e = .returned (.tuple #[]) ∧ Hid (∃ l' : List Lf4, l'.Perm l ∧ (l'.Pairwise fun x y => lowLt y x = false) ∧ w'.ownsRow lo 52 4 (.slice A n cap) n (flatP l') ∧ Below lo w w')) := by
    rintro W rfl
    rcases Nat.eq_zero_or_pos n with h0 | h0
    · subst h0
      obtain rfl : l = [] := List.eq_nil_of_length_eq_zero hl
      refine (Try.slices_SortFunc_none A cap _ W).mono ?_
      rintro e w' ⟨rfl, rfl⟩
      exact ⟨rfl, Lib.hid ⟨[], List.Perm.refl _, List.Pairwise.nil, ho, Below.refl _ _⟩⟩
    · obtain ⟨g, c, hv, hlo, hg⟩ := ho.form h0
      obtain ⟨rfl, rfl⟩ : A = some ⟨g, 0, none⟩ ∧ cap = c := by injection hv with hA hn hc; exact ⟨hA, hc⟩
      obtain ⟨L, hL⟩ := okList l hk
      have hLn : L.length = n := by rw [← hl, ← hL, List.length_map]
      have hH : Go.Sort.HoldsK encP 4 W g 0 L.toArray := by
        intro t ht
        rw [Go.Sort.size_flatK] at ht
        have ht' : t < L.length * 4 := by simpa using ht
        rw [Nat.zero_add]
        exact ⟨(ho.cellAt t (by omega)).trans (by rw [← hL]; exact flatP_get ht'), ho.frozenAt t⟩
      have hsz : L.toArray.size = n := by simpa using hLn
      have hcon := Try.slices_SortFunc 4 Try.isAgg52 Try.sizeOf52 encP (fun _ => rfl) (fun x v hv => by simp [encP] at hv; rcases hv with rfl | rfl | rfl | rfl <;> rfl) cfP swoP 103 #[] g 0 cap L.toArray W (enters_of Try.func103 (by kernel_rfl) rfl) (cmpLaysP g 0 _ W) hH hg (by rw [hsz]; omega)
      rw [hsz] at hcon
      refine hcon.mono ?_
      rintro e w' ⟨rfl, d', m, os, hp, hs, rfl⟩
      obtain ⟨hz, _, hperm⟩ := hp
      have e1 : d'.extract 0 n = d' := by rw [← hsz, ← hz]; exact Array.extract_size
      have e2 : L.toArray.extract 0 n = L.toArray := by rw [← hsz]; exact Array.extract_size
      rw [e1, e2] at hperm
      have hp2 : d'.toList.Perm L := by simpa using hperm
      have hDn : d'.toList.length = n := by rw [← hLn]; exact hp2.length_eq
      have hd : d'.toList.toArray = d' := by simp
      have H := sorted_own (m := m) (os := os) hDn ho
      rw [hd] at H
      refine ⟨rfl, Lib.hid ⟨d'.toList.map (fun x => x.1), by rw [← hL]; exact hp2.map _, ?_, H.1, H.2⟩⟩
      rw [List.pairwise_map, List.pairwise_iff_getElem]
      intro i j hi hj hij
      have := hs i j (Nat.zero_le _) hij (by omega)
      rw [ltOf_cfP] at this
      rw [getElem!_pos d' i (by simpa using hi), getElem!_pos d' j (by simpa using hj)] at this
      simpa using this
  clear ho hl hk
  go_enter Try.func93, Try.ntmps93
  go_wp2_with fail
  refine (HS.out _ rfl).mono ?_
  rintro e w1 ⟨rfl, H⟩
  go_wp2
  go_end0
  exact ⟨rfl, H⟩

/-- A row that turns elsewhere is as it was. -/
theorem ownTurn {w w1 : World} {row : Option Nat} {lo : Nat} {e : TypeId} {k : Nat} {v : Value} {n : Nat} {xs : List Value} (h : w.ownsRow lo e k v n xs) (hg : w.grownBy w1 row) (hr : ∀ j, row = some j → j < lo) : w1.ownsRow lo e k v n xs := by
  obtain ⟨hx, h2⟩ := h
  rcases h2 with h3 | ⟨g, cap, cur, e1, hlo, hc, hrest⟩
  · exact ⟨hx, .inl h3⟩
  · have hlt : g < w.heap.size := (Array.getElem?_eq_some_iff.1 hc).1
    exact ⟨hx, .inr ⟨g, cap, cur, e1, hlo, (hg.block g hlt (fun e2 => by have := hr g e2.symm; omega)).trans hc, hrest⟩⟩
theorem own_block {w : World} {lo : Nat} {e : TypeId} {k : Nat} {v : Value} {n : Nat} {xs : List Value} (h : w.ownsRow lo e k v n xs) : ∀ j, v.ownBlock = some j → lo ≤ j := by
  intro j e1
  rcases h.2 with ⟨hv, _⟩ | ⟨g0, c0, cur, hv, hlo, _⟩
  · rw [hv] at e1; simp [Value.ownBlock] at e1
  · rw [hv] at e1; simp [Value.ownBlock] at e1; omega
theorem ownMono {w : World} {lo lo' : Nat} {e : TypeId} {k : Nat} {v : Value} {n : Nat} {xs : List Value} (h : w.ownsRow lo e k v n xs) (hl : lo' ≤ lo) : w.ownsRow lo' e k v n xs := by
  obtain ⟨hx, h2⟩ := h
  rcases h2 with h3 | ⟨g, cap, cur, e1, hlo, hrest⟩
  · exact ⟨hx, .inl h3⟩
  · exact ⟨hx, .inr ⟨g, cap, cur, e1, Nat.le_trans hl hlo, hrest⟩⟩
theorem own_none {w : World} {lo : Nat} {e : TypeId} {k : Nat} : w.ownsRow lo e k (.slice none 0 0) 0 [] := ⟨by simp, .inl ⟨rfl, rfl⟩⟩
theorem per_told {l : List (Lf4 × Nat)} (hok : allP l) (hs : ∀ x ∈ l, ∀ y ∈ l, y.1 = x.1 → y.2 = x.2) {x : Lf4 × Nat} (hx : x ∈ l) {c : Int} (h : ∀ zd, (pD l).atKey (kp x.1) zd = .lit (.int .i64 c)) : c = (x.2 : Int) := by
  obtain ⟨y, hy, e1, e2⟩ := pD_at hok hx (.map [])
  rw [h] at e2
  simp only [DataW.lit.injEq, Lit.int.injEq, true_and] at e2
  rw [e2, hs x hx y hy e1]

set_option maxRecDepth 100000 in
set_option maxHeartbeats 1000000 in
theorem implPairsOf (m : Nat) (w : World) (h6 : m ≤ 6) :
    Calls Try.prog 78 #[.int .i64 ((m + 2 : Nat) : Int)] w fun e w' => ∃ A cap, e = .returned (.slice A (newP m).length cap) ∧ w'.ownsRow w.heap.size 52 4 (.slice A (newP m).length cap) (newP m).length (flatP (newP m)) ∧ Below w.heap.size w w' := by
  have HU := Lib.hid (fun w => implUpTo (m + 2) w (by omega) (by omega))
  rw [show m + 2 - 1 = m + 1 by omega] at HU
  have HOk := Lib.hid (upK_ok (m + 1) (by omega))
  have HSame := Lib.hid (fun (x : Lf4 × Nat) (hx : x ∈ upK (m + 1)) (y : Lf4 × Nat) (hy : y ∈ upK (m + 1)) (e : y.1 = x.1) => upK_same (m := m + 1) (by omega) hx hy e)
  have HFil := Lib.hid (upK_filter h6)
  have HNd := Lib.hid (upK_nd (m + 1) (by omega))
  have HLow : Hid (∀ p ∈ newP m, ∀ q ∈ newP m, (p.1, p.2.1) = (q.1, q.2.1) → p = q) := Lib.hid (fun p hp q hq => upK_low (m := m + 1) (by omega) p (newP_sub hp) q (newP_sub hq))
  have HOkN : Hid (∀ p ∈ newP m, okP p = true) := Lib.hid (fun p hp => mapOk (m := m + 1) (by omega) p (newP_sub hp))
  have HSrt := Lib.hid (newP_sorted h6)
  have hll := upK_len (m + 1) (by omega)
  generalize upK (m + 1) = l at *
  generalize newP m = K at *
  obtain ⟨i0, hi, hz0, hz1, hz2⟩ := info_parts infoP
  have hN : 0 ≤ ((m + 2 : Nat) : Int) ∧ ((m + 2 : Nat) : Int) ≤ 8 := by omega
  have HN : Hid (∀ k : Nat, ((k : Int) == ((m + 2 : Nat) : Int)) = (k == m + 2)) := Lib.hid (fun k => by rw [Bool.eq_iff_iff]; simp only [beq_iff_eq]; omega)
  generalize hNN : m + 2 = N at *
  have hl2 : l.length ≤ 2000 := by omega
  clear hll hNN
  obtain ⟨I, hI⟩ : ∃ I : Int, (N : Int) = I := ⟨_, rfl⟩
  rw [hI] at HU HN hN
  rw [hI]
  clear hI
  go_enter Try.func78, Try.ntmps78
  go_wp2_with fail
  refine (HU.out _).mono ?_
  rintro e w2 ⟨rfl, hm2, hb2⟩
  have HM2 := Lib.hid hm2
  have HB2 := Lib.hid hb2
  clear hm2 hb2
  go_wp2_with (at_range; refine wpList_range_own _ rfl _ 86 rfl 52 2 rpLaw Try.underlying86 _ w.heap.size l.length _ rfl HM2.out ?_; intro w0 hrg0 hg0 hs0)
  go_frame
  have hrz : w.heap.size < w2.heap.size := by
    have := HM2.out.lt
    exact this
  have HRG := Lib.hid hrg0
  have HB0 : Hid (Below w.heap.size w w0) := Lib.hid (HB2.out.grown hg0 HB2.out.size (fun j hj => by cases hj))
  have z0 : w2.heap.size < w0.heap.size := by omega
  clear hrg0 hg0 hs0 HM2 HB2
  generalize w2.heap.size = r at *
  go_loopg [3] (Maps.size (pD l)) (fun g s3 wr => ∃ (left : Lit → Bool) (acc : List Lf4) (A : Option Addr) (cap : Nat), s3 = .slice A acc.length cap ∧ Hid (wr.ranges Try.prog 52 (plainElem Try.prog 2) w.heap.size r l.length (pD l) left g) ∧ Hid (Gath l (fun y => y.2 == N) left acc) ∧ Hid (wr.ownsRow (r + 1) 52 4 s3 acc.length (flatP acc)) ∧ Hid (Below w.heap.size w wr) ∧ r < wr.heap.size)
  case atStart => exact ⟨_, [], none, 0, rfl, HRG, Lib.hid (Gath.start fun y hy => pD_has.2 ⟨y, hy, rfl⟩), Lib.hid own_none, HB0, z0⟩
  case round =>
    clear HRG HB0 z0
    obtain ⟨left, acc, A, cap, rfl, HRG, HG, HO, HB, zr⟩ := hrel
    have hrg := HRG.out
    have hal : acc.length ≤ 2000 := Nat.le_trans HG.out.len hl2
    go_wp2_with (first
      | (at_next; refine wpList_next_pairs _ rfl _ rfl w.heap.size r l.length l HOk.out left _ rfl hrg ?_ ?_; intro hl0; rotate_left; intro x c5 w5 cnt5 hx hlx hat hrg5 hlt5 hg5 hs5 hen; obtain rfl := per_told HOk.out HSame.out hx hat; have Q := HN.out x.2; obtain ⟨t, ht⟩ : ∃ t, (x.2 == N) = t := ⟨_, rfl⟩; rw [ht] at Q; have HX5 := Lib.hid (And.intro hx (And.intro hlx (And.intro hrg5 (And.intro hlt5 ht)))); have HO5 := Lib.hid (ownTurn HO.out hg5 (fun j hj => by have := Option.some.inj hj; omega)); have HB5 := Lib.hid (HB.out.grown hg5 HB.out.size (fun j hj => by have := Option.some.inj hj; omega)); have z5 : r < w5.heap.size := (by omega); clear hx hlx hat hrg5 hlt5 hg5 hs5 ht; cases t)
      | (at_builtin; refine wpList_append_own_at _ rfl _ _ 47 rfl (r + 1) 52 i0 (.agg #[.int .i64 0, .int .i64 0, .int .i64 0, .int .i64 0]) 4 32 Try.underlying47 hi hz0 hz1 hz2 rfl (by decide) _ _ _ rfl ((World.ownsRow.alloc HO5.out _).alloc _) ⟨w5.heap.size + 1, 0, none⟩ 1 1 [.int .i64 x.1.1, .int .i64 x.1.2.1, .int .i64 x.1.2.2.1, .int .i64 x.1.2.2.2] rfl rfl ?c1 ?c2 ?c3 ?c4 ?c5 ?_))
    · go_roundg cnt5
      case measure => exact HX5.out.2.2.2.1
      case rel => exact ⟨fun z => left z && !z.sameKey (kp x.1), acc, A, cap, rfl, Lib.hid (HX5.out.2.2.1.alloc _), Lib.hid (HG.out.no HOk.out HX5.out.1 (fun y hy e => by rw [HSame.out x HX5.out.1 y hy e]; exact HX5.out.2.2.2.2)), Lib.hid (World.ownsRow.alloc HO5.out _), Lib.hid (belowAlloc HB5.out _), by simp; omega⟩
    case c1 => have e := cell_four_newP (w5.alloc (.cells #[.int .i64 x.1.1, .int .i64 x.1.2.1, .int .i64 x.1.2.2.1, .int .i64 x.1.2.2.2] 52)) (.int .i64 x.1.1) (.int .i64 x.1.2.1) (.int .i64 x.1.2.2.1) (.int .i64 x.1.2.2.2) 52; rw [World.size_alloc] at e; exact e
    case c2 => intro u hu; simp at hu; rcases hu with rfl | rfl | rfl | rfl <;> rfl
    case c3 => unfold maxLen; omega
    case c4 => omega
    case c5 => simp; omega
    · intro v' w11 hown' hgrow _ _
      obtain ⟨gn, capn, rfl⟩ := ownsRow_succ hown'
      have hB11 : Below w.heap.size w w11 := (belowAlloc (belowAlloc HB5.out _) _).grown hgrow (belowAlloc (belowAlloc HB5.out _) _).size (fun j hj => by have := own_block HO5.out j hj; omega)
      have HR11 := Lib.hid (((HX5.out.2.2.1.alloc (.cells #[.int .i64 x.1.1, .int .i64 x.1.2.1, .int .i64 x.1.2.2.1, .int .i64 x.1.2.2.2] 52)).alloc (.cells #[.int .i64 x.1.1, .int .i64 x.1.2.1, .int .i64 x.1.2.2.1, .int .i64 x.1.2.2.2] 52)).kept hgrow (fun e => by have := own_block HO5.out _ e.symm; omega) (fun e => by have := own_block HO5.out _ e.symm; omega))
      have HO11 := Lib.hid hown'
      have z11 : r < w11.heap.size := by have := hgrow.size; simp at this; omega
      have HB11 := Lib.hid hB11
      clear hown' hgrow hB11
      go_wp2
      go_roundg cnt5
      case measure => exact HX5.out.2.2.2.1
      case rel => exact ⟨fun z => left z && !z.sameKey (kp x.1), acc ++ [x.1], _, _, by rw [List.length_append]; rfl, HR11, Lib.hid (HG.out.yes HOk.out HX5.out.1 HX5.out.2.1 HX5.out.2.2.2.2), Lib.hid (by rw [flatP_app, List.length_append]; exact HO11.out), HB11, z11⟩
    · have hpm : acc.Perm K := by rw [← HFil.out]; exact HG.out.done hl0 HNd.out
      refine (implSortP w.heap.size A acc.length cap acc wr (ownMono HO.out (by omega)) rfl (HG.out.ok HOk.out) (by omega)).mono ?_
      rintro e w9 ⟨rfl, H⟩
      obtain ⟨l', hp, hs, ho, hb⟩ := H.out
      obtain rfl : l' = K := sort_unique HOkN.out HLow.out hs HSrt.out (hp.trans hpm)
      have HO9 := Lib.hid ho
      have HB9 := Lib.hid (HB.out.trans hb)
      have hlen := hpm.length_eq
      rw [hlen] at HO9 ⊢
      clear H ho hb hp hs hpm
      go_wp2
      go_ret
      exact ⟨A, cap, rfl, HO9.out, HB9.out⟩

theorem ownP_of {w : World} {lo : Nat} {l : List Lf4} {A : Option Addr} {len cap : Nat} (hl : l.length = len) (h : w.ownsRow lo 52 4 (.slice A len cap) len (flatP l)) : LfOwn w lo A l := by
  intro hne
  have hk : 0 < len := by
    rcases Nat.eq_zero_or_pos len with h0 | h0
    · rw [h0] at hl; exact absurd (List.eq_nil_of_length_eq_zero hl) hne
    · exact h0
  obtain ⟨g, c, hv, hlo, hg⟩ := h.form hk
  obtain ⟨rfl, rfl⟩ : A = some ⟨g, 0, none⟩ ∧ cap = c := by injection hv with hA hn hc; exact ⟨hA, hc⟩
  refine ⟨g, 0, rfl, hlo, hg, fun i a b c' d hi => ?_⟩
  have hik : i < len := by
    rcases Nat.lt_or_ge i l.length with h1 | h1
    · omega
    · rw [List.getElem?_eq_none h1] at hi; cases hi
  obtain ⟨f1, f2, f3, f4⟩ := flatP_at hi
  rw [show 0 + i * 4 = i * 4 by omega]
  exact ⟨⟨(h.cellAt _ (by omega)).trans f1, (h.cellAt _ (by omega)).trans f2, (h.cellAt _ (by omega)).trans f3, (h.cellAt _ (by omega)).trans f4⟩, ⟨h.frozenAt _, h.frozenAt _, h.frozenAt _, h.frozenAt _⟩⟩

/-- The form of an answer that is a list of pairs and a code. -/
def ResRp (w : World) (l : List Lf4) (c : Int) (e : Ending) (w' : World) : Prop :=
  ∃ A cap, e = .returned (.tuple #[.slice A l.length cap, .int .i64 c]) ∧ LfOwn w' w.heap.size A l ∧ Below w.heap.size w w'
theorem LfOwn.drop {w : World} {lo b off : Nat} {l : List Lf4} (h : LfOwn w lo (some ⟨b, off, none⟩) l) (k : Nat) : LfOwn w lo (some ⟨b, off + k * 4, none⟩) (l.drop k) := by
  intro hne
  have hl : l ≠ [] := by intro e; rw [e] at hne; simp at hne
  obtain ⟨b', off', e, h1, h2, h3⟩ := h hl
  obtain ⟨rfl, rfl⟩ : b = b' ∧ off = off' := by simpa using e
  refine ⟨b, off + k * 4, rfl, h1, h2, fun i n d m c hi => ?_⟩
  rw [List.getElem?_drop] at hi
  have := h3 (k + i) n d m c hi
  rw [show off + k * 4 + i * 4 = off + (k + i) * 4 by omega]
  exact this

/-- What PairsOfPeriod answers. -/
def popL (n : Int) : List Lf4 := if 2 ≤ n ∧ n ≤ 8 then newP (n.toNat - 2) else []
def popC (n : Int) : Int := if 2 ≤ n ∧ n ≤ 8 then 0 else 2
theorem pop_yes {m : Nat} (h : m ≤ 6) : popL ((m + 2 : Nat) : Int) = newP m ∧ popC ((m + 2 : Nat) : Int) = 0 := by
  unfold popL popC
  rw [if_pos (by omega), if_pos (by omega)]
  exact ⟨congrArg newP (by omega), rfl⟩
theorem pop_no {n : Int} (h : ¬ (2 ≤ n ∧ n ≤ 8)) : popL n = [] ∧ popC n = 2 := by
  unfold popL popC
  rw [if_neg h, if_neg h]
  exact ⟨rfl, rfl⟩
theorem popL_len (n : Int) : (popL n).length ≤ 1000000000000 := by
  by_cases h : 2 ≤ n ∧ n ≤ 8
  · obtain ⟨m, rfl⟩ : ∃ m : Nat, n = ((m + 2 : Nat) : Int) := ⟨n.toNat - 2, by omega⟩
    rw [(pop_yes (m := m) (by omega)).1]
    have := newP_len (m := m) (by omega)
    omega
  · rw [(pop_no h).1]; simp

set_option maxHeartbeats 1000000 in
theorem specPairsOfN (n : Int) (w : World) : Calls Try.prog 79 #[.int .i64 n] w (ResRp w (popL n) (popC n)) := by
  by_cases h : 2 ≤ n ∧ n ≤ 8
  · obtain ⟨m, rfl⟩ : ∃ m : Nat, n = ((m + 2 : Nat) : Int) := ⟨n.toNat - 2, by omega⟩
    have hm : m ≤ 6 := by omega
    have E := Lib.hid (pop_yes hm)
    have HA := Lib.hid (fun w => specPairs (m + 2) w (by omega) (by omega))
    have HB := Lib.hid (fun w => specPairs (m + 1) w (by omega) (by omega))
    rw [show m + 2 - 1 = m + 1 by omega] at HA
    rw [show m + 1 - 1 = m by omega] at HB
    have e3 : ((m + 1 : Nat) : Int) = ((m + 2 : Nat) : Int) - 1 := by omega
    rw [e3] at HB
    have t : (decide ((2 : Int) ≤ ((m + 2 : Nat) : Int)) && decide (((m + 2 : Nat) : Int) ≤ 8)) = true := by simp; omega
    have HPP := Lib.hid (fun w => inRange ((m + 2 : Nat) : Int) 2 8 w)
    rw [t] at HPP
    have hb : 2 ≤ ((m + 2 : Nat) : Int) ∧ ((m + 2 : Nat) : Int) ≤ 8 := h
    have HM := Lib.hid (upK_map m)
    have hlen : (upK (m + 1)).length = (upK m).length + (newP m).length := by
      have := congrArg List.length (upK_map m)
      simpa using this
    have hlm : (upK (m + 1)).length ≤ 2000 := by have := upK_len (m + 1) (by omega); omega
    generalize popL ((m + 2 : Nat) : Int) = l at *
    generalize popC ((m + 2 : Nat) : Int) = c at *
    obtain rfl : c = 0 := E.out.2
    obtain rfl : l = newP m := E.out.1
    generalize newP m = K at *
    obtain ⟨L1, hL1⟩ : ∃ L1, upK (m + 1) = L1 := ⟨_, rfl⟩
    obtain ⟨L0, hL0⟩ : ∃ L0, upK m = L0 := ⟨_, rfl⟩
    rw [hL1] at HA HM hlen hlm
    rw [hL0] at HB HM hlen
    generalize ((m + 2 : Nat) : Int) = N at *
    obtain ⟨q1, h1⟩ : ∃ q, L1.length = q := ⟨_, rfl⟩
    obtain ⟨q0, h0⟩ : ∃ q, L0.length = q := ⟨_, rfl⟩
    rw [h1] at HA hlen hlm
    rw [h0] at HB hlen
    have HL1 := Lib.hid h1
    have HL0 := Lib.hid h0
    clear t e3 E hL1 hL0 h h1 h0
    go_enter Try.func79, Try.ntmps79
    go_wp2_with fail
    refine (HPP.out _).mono ?_
    rintro e w1 ⟨rfl, rfl⟩
    go_wp2_with fail
    refine (HA.out _).mono ?_
    rintro e w2 ⟨A, cap, rfl, ho2, hb2⟩
    have HO2 := Lib.hid (ownP_of (by rw [List.length_map]; exact HL1.out) ho2)
    have hc2 := ownsCap ho2
    have hform : (A = none ∧ q1 = 0 ∧ cap = 0) ∨ ∃ g, A = some ⟨g, 0, none⟩ := by
      rcases ho2.2 with ⟨hv, _⟩ | ⟨g, c, cur, hv, _⟩
      · injection hv with a b c; exact .inl ⟨a, b, c⟩
      · injection hv with a b c; exact .inr ⟨g, a⟩
    clear ho2
    go_wp2_with fail
    refine (HB.out _).mono ?_
    rintro e w3 ⟨A3, cap3, rfl, ho3, hb3⟩
    have HO3 := Lib.hid (HO2.out.next hb3)
    have B3 := Lib.hid (belowNext hb2 hb3)
    clear ho3 HO2 hb2 hb3
    rcases hform with ⟨rfl, h1, rfl⟩ | ⟨g, rfl⟩
    · obtain rfl : q0 = 0 := by omega
      obtain rfl : K = [] := List.eq_nil_of_length_eq_zero (by omega)
      go_wp2
      go_ret2
      exact ⟨none, 0, rfl, lfOwn_nil, B3.out⟩
    · have hcq : q0 ≤ cap := by omega
      have HK : Hid (LfOwn w3 w.heap.size (some ⟨g, q0 * 4, none⟩) K) := Lib.hid (by
        have e := HO3.out.drop q0
        rw [HM.out, List.drop_left' (by rw [List.length_map]; exact HL0.out), Nat.zero_add] at e
        exact e)
      clear HO3
      go_wp2
      · obtain rfl : K = [] := List.eq_nil_of_length_eq_zero (by omega)
        go_ret2
        exact ⟨_, _, rfl, lfOwn_nil, B3.out⟩
      · go_ret2
        exact ⟨_, _, rfl, HK.out, B3.out⟩
  · have E := Lib.hid (pop_no h)
    have t : (decide ((2 : Int) ≤ n) && decide (n ≤ 8)) = false := by simp; omega
    have HPP := Lib.hid (fun w => inRange n 2 8 w)
    rw [t] at HPP
    generalize popL n = l at *
    generalize popC n = c at *
    obtain rfl : l = [] := E.out.1
    obtain rfl : c = 2 := E.out.2
    clear t
    go_enter Try.func79, Try.ntmps79
    go_wp2_with fail
    refine (HPP.out _).mono ?_
    rintro e w1 ⟨rfl, rfl⟩
    go_wp2
    go_ret2
    exact ⟨none, 0, rfl, lfOwn_nil, by
      (repeat' (first | (with_reducible exact Below.refl _ _) | (with_reducible assumption) | (with_reducible refine belowNext ?_ (by with_reducible assumption)) | (with_reducible refine belowAlloc ?_ _) | (with_reducible refine Below.drew ?_) | (with_reducible refine below_drewN ?_ _) | (with_reducible refine Below.setCell ?_ ?_ _) | go_size | (with_reducible refine sizeOf' ?_) | (with_reducible refine sizeAdd ?_) | (dsimp only; first | (with_reducible refine sizeOf' ?_) | (with_reducible refine sizeAdd ?_))))⟩

end Go.Proofs.Ytnciiodgkanpjaa

/-
  Contracts: polygons, on the model's side.
  Contracts: angles in strictly ascending order, on the program's side.
  Contracts: PolygonOf, on the model's side.
-/
import Derived.Test.YtkpgfafmaoaefaaY1
import Derived.Test.YtkpgfafmaoaefaaV29
import Derived.Test.YtkpgfafmaoaefaaW34
import Derived.Test.YtkpgfafmaoaefaaV11
import Derived.Deep.LoopGhost
import Derived.Test.YtkpgfafmaoaefaaW5
namespace Go.Proofs.Ytkpgfafmaoaefaa
open Go.RowKit

/-- Each angle comes behind the one before it. -/
def AscJ (l : List (Int × Int)) : Prop := ∀ (i : Nat) (x y : Int × Int), l[i]? = some x → l[i + 1]? = some y → lessA x y = true
def cAt (l : List (Int × Int)) (i : Nat) : Int × Int := l.getD i (0, 1)
theorem cAt_some {l : List (Int × Int)} {i : Nat} (h : i < l.length) : l[i]? = some ((cAt l i).1, (cAt l i).2) := by
  unfold cAt
  rw [List.getD_eq_getElem?_getD, List.getElem?_eq_getElem h]
  rfl
/-- The side of a polygon that begins at corner i. -/
def sideL (l : List (Int × Int)) (i : Nat) : Lf4 := lf4 (cAt l i).1 (cAt l i).2 (cAt l ((i + 1) % l.length)).1 (cAt l ((i + 1) % l.length)).2
def polyL (l : List (Int × Int)) : List Lf4 := (List.range l.length).map (sideL l)
theorem poly_len (l : List (Int × Int)) : (polyL l).length = l.length := by simp [polyL]
theorem poly_at {l : List (Int × Int)} {i : Nat} (h : i < l.length) : (polyL l)[i]? = some (sideL l i) := by
  unfold polyL
  rw [List.getElem?_map, List.getElem?_range h]
  rfl
theorem asc_pairs {l : List (Int × Int)} (ha : allAng l = true) (h : AscJ l) : ∀ (i j : Nat) (x y : Int × Int), i < j → l[i]? = some x → l[j]? = some y → lessA x y = true
  | i, 0, x, y, hij, _, _ => absurd hij (by omega)
  | i, j + 1, x, y, hij, hx, hy => by
    have hj : j < l.length := by
      have := (List.getElem?_eq_some_iff.1 hy).1
      omega
    have e := List.getElem?_eq_getElem hj
    have s := h j _ _ e hy
    by_cases hh : i = j
    · subst hh
      rw [e] at hx
      injection hx with hx
      rw [← hx]; exact s
    · have t := asc_pairs ha h i j x _ (by omega) hx e
      exact lessA_tr (allAng_mem ha (List.mem_of_getElem? hx)) (allAng_mem ha (List.getElem_mem hj)) (allAng_mem ha (List.mem_of_getElem? hy)) t s
theorem cAt_ang {l : List (Int × Int)} (ha : allAng l = true) {i : Nat} (h : i < l.length) : isAng (cAt l i).1 (cAt l i).2 = true := allAng_mem ha (q := ((cAt l i).1, (cAt l i).2)) (List.mem_of_getElem? (cAt_some h))
theorem lf4_lt {a b c d : Int} (h : ltA a b c d = true) : lf4 a b c d = (a, b, c, d) := by
  unfold lf4
  obtain ⟨h1, h2, h3, h4⟩ := lf_yes h
  rw [h1, h2, h3, h4]
theorem lf4_gt {a b c d : Int} (h : ltA c d a b = true) : lf4 a b c d = (c, d, a, b) := by
  unfold lf4
  obtain ⟨h1, h2, h3, h4⟩ := lf_no (lt_anti h)
  rw [h1, h2, h3, h4]
/-- What a side is: forward to the next corner; the last one back to the first. -/
theorem side_in {l : List (Int × Int)} (ha : allAng l = true) (h : AscJ l) {i : Nat} (hi : i + 1 < l.length) : sideL l i = ((cAt l i).1, (cAt l i).2, (cAt l (i + 1)).1, (cAt l (i + 1)).2) ∧ lessA (cAt l i) (cAt l (i + 1)) = true := by
  have s := asc_pairs ha h i (i + 1) _ _ (by omega) (cAt_some (show i < l.length by omega)) (cAt_some hi)
  unfold sideL
  rw [Nat.mod_eq_of_lt hi]
  exact ⟨lf4_lt s, s⟩
theorem side_last {l : List (Int × Int)} (ha : allAng l = true) (h : AscJ l) {i : Nat} (hi : i + 1 = l.length) (h2 : 2 ≤ l.length) : sideL l i = ((cAt l 0).1, (cAt l 0).2, (cAt l i).1, (cAt l i).2) ∧ lessA (cAt l 0) (cAt l i) = true := by
  have s := asc_pairs ha h 0 i _ _ (by omega) (cAt_some (show 0 < l.length by omega)) (cAt_some (show i < l.length by omega))
  unfold sideL
  rw [hi, Nat.mod_self]
  exact ⟨lf4_gt s, s⟩
theorem isLf_of {p q : Int × Int} (hp : isAng p.1 p.2 = true) (hq : isAng q.1 q.2 = true) (h : lessA p q = true) : isLfX (p.1, p.2, q.1, q.2) = true := by
  unfold isLfX isLf
  rw [hp, hq]
  exact h
theorem side_lf {l : List (Int × Int)} (ha : allAng l = true) (h : AscJ l) {i : Nat} (hi : i < l.length) (h2 : 2 ≤ l.length) : isLfX (sideL l i) = true := by
  by_cases hh : i + 1 < l.length
  · obtain ⟨e, s⟩ := side_in ha h hh
    rw [e]
    exact isLf_of (cAt_ang ha hi) (cAt_ang ha hh) s
  · obtain ⟨e, s⟩ := side_last ha h (i := i) (by omega) h2
    rw [e]
    exact isLf_of (cAt_ang ha (by omega)) (cAt_ang ha hi) s
theorem poly_lf {l : List (Int × Int)} (ha : allAng l = true) (h : AscJ l) (h2 : 2 ≤ l.length) : ∀ q ∈ polyL l, isLfX q = true := by
  intro q hq
  unfold polyL at hq
  rw [List.mem_map] at hq
  obtain ⟨i, hi, rfl⟩ := hq
  exact side_lf ha h (List.mem_range.1 hi) h2
/-- What PolygonOf answers. -/
def PoIs (l : List (Int × Int)) (R : List Lf4) (C : Int) : Prop :=
  (allAng l = false ∧ R = [] ∧ C = 1) ∨ (allAng l = true ∧ (l.length < 2 ∨ 200 < l.length ∨ ¬ AscJ l) ∧ R = [] ∧ C = 2) ∨ (allAng l = true ∧ 2 ≤ l.length ∧ l.length ≤ 200 ∧ AscJ l ∧ R = insAllL (polyL l) ∧ C = 0)
theorem po_ex (l : List (Int × Int)) : ∃ R C, PoIs l R C := by
  cases e : allAng l
  · exact ⟨_, _, .inl ⟨e, rfl, rfl⟩⟩
  · by_cases h : l.length < 2 ∨ 200 < l.length ∨ ¬ AscJ l
    · exact ⟨_, _, .inr (.inl ⟨e, h, rfl, rfl⟩)⟩
    · have h1 : 2 ≤ l.length := by
        rcases Nat.lt_or_ge l.length 2 with g | g
        · exact absurd (.inl g) h
        · exact g
      have h2 : l.length ≤ 200 := by
        rcases Nat.lt_or_ge 200 l.length with g | g
        · exact absurd (.inr (.inl g)) h
        · exact g
      have h3 : AscJ l := Classical.byContradiction fun g => h (.inr (.inr g))
      exact ⟨_, _, .inr (.inr ⟨e, h1, h2, h3, rfl, rfl⟩)⟩

set_option maxHeartbeats 2000000 in
theorem specAsc (A : Option Addr) (len cap : Nat) (l : List (Int × Int)) (w : World) (hr : AngRow w w.heap.size A l) (hl : l.length = len) (hm : len ≤ 1000000000000) (hA : allAng l = true) :
    Calls Try.prog 104 #[.slice A len cap] w (ResYes w (AscJ l)) := by
  have HR := Lib.hid hr
  have HL := Lib.hid hl
  have HA := Lib.hid hA
  clear hr hl hA
  go_enter Try.func104, Try.ntmps104
  go_wp2
  go_loopw [3] (fun i wr => ∃ k : Nat, 1 ≤ k ∧ (k ≤ len ∨ k = 1) ∧ i = .int .i64 k ∧ Hid (∀ (j : Nat) (x y : Int × Int), j + 1 < k → l[j]? = some x → l[j + 1]? = some y → lessA x y = true) ∧ Below w.heap.size w wr) (fun i _ => len - (intOf i).toNat)
  case atStart => exact ⟨1, by omega, by omega, rfl, Lib.hid (fun j x y h => absurd h (by omega)), Below.refl _ _⟩
  case round =>
    obtain ⟨k, hk1, hk, rfl, HY, hbe⟩ := hrel
    by_cases hlt : k < len
    · obtain ⟨q, hq⟩ : ∃ q : Nat, k = q + 1 := ⟨k - 1, by omega⟩
      have hk2 : ((k : Int) - 1) = (q : Int) := by omega
      have hw : IntKind.i64.wrap (q : Int) = (q : Int) := IntWalk.i64_in _ (by omega)
      have hql : q < len := by omega
      obtain ⟨⟨n, d⟩, hx⟩ : ∃ p, l[q]? = some p := ⟨_, List.getElem?_eq_getElem (by have := HL.out; omega)⟩
      obtain ⟨⟨m, c⟩, hy⟩ : ∃ p, l[k]? = some p := ⟨_, List.getElem?_eq_getElem (by have := HL.out; omega)⟩
      obtain ⟨b, off, rfl, hbb, hcells⟩ := HR.out (by rintro rfl; cases hx)
      obtain ⟨x0, x1⟩ := hcells q n d hx
      obtain ⟨y0, y1⟩ := hcells k m c hy
      have x0 := cellThru hbe hbb x0
      have x1 := cellThru hbe hbb x1
      have y0 := cellThru hbe hbb y0
      have y1 := cellThru hbe hbb y1
      have hp := allAng_mem HA.out (q := (n, d)) (List.mem_of_getElem? hx)
      have hp' := allAng_mem HA.out (q := (m, c)) (List.mem_of_getElem? hy)
      have HC := Lib.hid (fun w => specLess n d m c w (isAng_ok hp) (isAng_ok hp'))
      have HE : Hid (lessA (n, d) (m, c) = ltA n d m c) := Lib.hid rfl
      have HX := Lib.hid hx
      have HZ := Lib.hid hy
      have HK := Lib.hid hq
      have hbw : b < wr.heap.size := Nat.lt_of_lt_of_le hbb hbe.size
      clear hcells hx hy hp hp' hq
      generalize ltA n d m c = t at *
      cases t
      · have HQ : Hid (¬ AscJ l) := Lib.hid (fun h => by
          have p := h q _ _ HX.out (by rw [← HK.out]; exact HZ.out)
          rw [HE.out] at p
          cases p)
        go_wp2_with fail
        go_region_with (first | (go_at_call 72; (with_reducible refine (HC.out _).mono ?_); rintro e w1 ⟨rfl, hb1⟩))
        all_goals
          have hB : Below w.heap.size w w1 := belowNext hbe.drew hb1
          clear x0 x1 y0 y1 hb1 hbe
          go_wp2
          go_ret
          exact ⟨⟨false, rfl, Lib.hid ⟨fun h => (by cases h), fun h => absurd h HQ.out⟩⟩, hB⟩
      · go_wp2_with fail
        go_region_with (first | (go_at_call 72; (with_reducible refine (HC.out _).mono ?_); rintro e w1 ⟨rfl, hb1⟩))
        all_goals
          have hB : Below w.heap.size w w1 := belowNext hbe.drew hb1
          clear x0 x1 y0 y1 hb1 hbe
          go_wp2
          go_roundw
          case rel =>
            refine ⟨k + 1, by omega, by omega, by go_num, Lib.hid (fun j x y hj hx hy => ?_), hB⟩
            by_cases hjk : j + 1 = k
            · have hq := HK.out
              obtain rfl : q = j := by omega
              have p1 := HX.out
              have p2 := HZ.out
              rw [← hjk] at p2
              rw [p1] at hx
              rw [p2] at hy
              injection hx with hx
              injection hy with hy
              rw [← hx, ← hy]
              exact HE.out
            · exact HY.out j x y (by omega) hx hy
          case measure => simp [intOf]; omega
    · have HQ : Hid (AscJ l) := Lib.hid (fun j x y hx hy => HY.out j x y (by
        rcases Nat.lt_or_ge (j + 1) l.length with h1 | h1
        · have := HL.out; omega
        · rw [List.getElem?_eq_none h1] at hy; cases hy) hx hy)
      go_wp2
      go_ret
      exact ⟨⟨true, rfl, Lib.hid ⟨fun _ => HQ.out, fun _ => rfl⟩⟩, hbe⟩

set_option maxRecDepth 100000 in
set_option maxHeartbeats 2000000 in
theorem specPoly (A : Option Addr) (len cap : Nat) (l : List (Int × Int)) (w : World) (hr : AngRow w w.heap.size A l) (hl : l.length = len) (h2 : 2 ≤ len) (h200 : len ≤ 200) (hA : allAng l = true) (hS : AscJ l) :
    Calls Try.prog 105 #[.slice A len cap] w fun e w' => ∃ b c, e = .returned (.slice (some ⟨b, 0, none⟩) (insAllL (polyL l)).length c) ∧ LfOwn w' w.heap.size (some ⟨b, 0, none⟩) (insAllL (polyL l)) ∧ Below w.heap.size w w' := by
  have HR := Lib.hid hr
  have HL := Lib.hid hl
  have HA := Lib.hid hA
  have HPl := Lib.hid (poly_lf hA hS (by omega))
  have HSd := Lib.hid (fun i (hi : i < l.length) => side_lf hA hS hi (by omega))
  clear hr hl hA hS
  go_enter Try.func105, Try.ntmps105
  go_wp2_with fail
  have HB0 : Hid (Below w.heap.size w (w.alloc (.cells #[] 31))) := Lib.hid (belowAlloc (Below.refl _ _) _)
  have HS : Hid ((w.alloc (.cells #[] 31)).ownsRow w.heap.size 31 4 (.slice (some ⟨w.heap.size, 0, none⟩) ([] : List Lf4).length 0) ([] : List Lf4).length (flatL [])) := Lib.hid ⟨rfl, .inr ⟨w.heap.size, 0, #[], rfl, Nat.le_refl _, heap_alloc_new w (.cells #[] 31), by simp, by unfold maxLen; omega, rfl, rfl⟩⟩
  generalize w.alloc (.cells #[] 31) = wc at *
  go_loopg [3, 4] len (fun g s3 s4 wr => ∃ (k : Nat) (O : List Lf4) (b c : Nat), k + g = len ∧ s4 = .int .i64 k ∧ s3 = .slice (some ⟨b, 0, none⟩) O.length c ∧ Hid (O = insAllL ((polyL l).take k)) ∧ Hid (wr.ownsRow w.heap.size 31 4 (.slice (some ⟨b, 0, none⟩) O.length c) O.length (flatL O)) ∧ Hid (Below w.heap.size w wr))
  case atStart => exact ⟨0, [], w.heap.size, 0, by omega, rfl, rfl, Lib.hid rfl, HS, HB0⟩
  case round =>
    clear HS HB0
    obtain ⟨k, O, b, c, hkg, rfl, rfl, HO, HW, HB⟩ := hrel
    cases gk with
    | zero =>
      obtain rfl : k = len := by omega
      have e2 : (polyL l).take k = polyL l := by rw [List.take_of_length_le]; rw [poly_len, HL.out]; exact Nat.le_refl _
      rw [e2] at HO
      have HW2 := Lib.hid (ownL_of rfl HW.out)
      clear HW e2
      go_wp2
      go_ret
      rw [← HO.out]
      exact ⟨b, c, rfl, HW2.out, HB.out⟩
    | succ g =>
      have hlt : k < len := by omega
      obtain ⟨j, hj⟩ : ∃ j, (k + 1) % len = j := ⟨_, rfl⟩
      have hjl : j < len := by rw [← hj]; exact Nat.mod_lt _ (by omega)
      have hmod : ((k : Int) + 1).tmod (len : Int) = (j : Int) := by
        rw [← hj]
        rw [Int.tmod_eq_emod_of_nonneg (by omega)]
        norm_cast
      have hmod2 : ((k : Int) + 1) % (len : Int) = (j : Int) := by
        rw [← hj]
        norm_cast
      have hwj : IntKind.i64.wrap (j : Int) = (j : Int) := IntWalk.i64_in _ (by omega)
      have hjI : ((j : Int) < (len : Int)) := by omega
      have HJm := Lib.hid hj
      clear hj
      have hkl : k < l.length := by have := HL.out; omega
      have hjl' : j < l.length := by have := HL.out; omega
      obtain ⟨b0, off, rfl, hb0, hc⟩ := HR.out (by rintro rfl; simp at hkl)
      obtain ⟨x0, x1⟩ := hc k _ _ (cAt_some hkl)
      obtain ⟨y0, y1⟩ := hc j _ _ (cAt_some hjl')
      have x0 := cellThru HB.out hb0 x0
      have x1 := cellThru HB.out hb0 x1
      have y0 := cellThru HB.out hb0 y0
      have y1 := cellThru HB.out hb0 y1
      have hp := cAt_ang HA.out hkl
      have hp' := cAt_ang HA.out hjl'
      have hsd := HSd.out k hkl
      have HAt := Lib.hid (poly_at hkl)
      have hs0 : sideL l k = lf4 (cAt l k).1 (cAt l k).2 (cAt l j).1 (cAt l j).2 := by unfold sideL; rw [HL.out, HJm.out]
      have HLB := Lib.hid (fun w => specLB (cAt l k).1 (cAt l k).2 (cAt l j).1 (cAt l j).2 w (isAng_ok hp) (isAng_ok hp') (apart_of (isAng_yes hp) (isAng_yes hp')))
      obtain ⟨⟨p1, p2, p3, p4⟩, hsp⟩ : ∃ s, sideL l k = s := ⟨_, rfl⟩
      rw [hsp] at hs0 hsd HAt
      obtain ⟨t1, t2, t3, t4⟩ := lf4_eq hs0.symm
      rw [t1, t2, t3, t4] at HLB
      have HPk : Hid (isLf p1 p2 p3 p4 = true) := Lib.hid hsd
      have hOall := insAllL_all (l := (polyL l).take k) (fun q hq => HPl.out q (List.mem_of_mem_take hq))
      have HOk : Hid (allLf O = true) := Lib.hid (by rw [HO.out]; exact hOall.2.1)
      have hOl : O.length ≤ 200 := by
        rw [HO.out]
        refine Nat.le_trans hOall.2.2.2 ?_
        rw [List.length_take]
        omega
      have HE : Hid (insL O (p1, p2, p3, p4) = insAllL ((polyL l).take (k + 1))) := Lib.hid (by
        rw [List.take_add_one, HAt.out, Option.toList_some, insAllL_snoc, HO.out])
      have hbw : b0 < wr.heap.size := Nat.lt_of_lt_of_le hb0 HB.out.size
      have hne : ¬ ((len : Int) = 0) := by omega
      have HI := Lib.hid (fun (W : World) (hB : Below wr.heap.size wr W) => specInsert w.heap.size b c O p1 p2 p3 p4 W (Nat.le_trans HB.out.size hB.size) HOk.out HPk.out (by omega) (ownKeepA HW.out hB))
      generalize (cAt l k).1 = n at *
      generalize (cAt l k).2 = d at *
      generalize (cAt l j).1 = m at *
      generalize (cAt l j).2 = c' at *
      clear hc hp hp' hsd hs0 hsp t1 t2 t3 t4 hOall HSd
      go_wp2_with fail
      go_region_with (first
        | (go_at_call 84; (with_reducible refine (HLB.out _).mono ?_); rintro e w1 ⟨rfl, hb1⟩; have B1 : Below wr.heap.size wr w1 := (by (repeat' (first | (with_reducible exact Below.refl _ _) | (with_reducible assumption) | (with_reducible refine belowNext ?_ (by with_reducible assumption)) | (with_reducible refine belowAlloc ?_ _) | (with_reducible refine Below.drew ?_) | (with_reducible refine below_drewN ?_ _) | (with_reducible refine Below.setCell ?_ ?_ _) | go_size | (with_reducible refine sizeOf' ?_) | (with_reducible refine sizeAdd ?_) | (dsimp only; first | (with_reducible refine sizeOf' ?_) | (with_reducible refine sizeAdd ?_))))))
        | (go_at_call 96; (with_reducible refine (HI.out _ B1).mono ?_); rintro e w2 ⟨b2, c2, rfl, ho2, hb2⟩; have B2 := belowNext B1 hb2))
      all_goals
        have HW2 := Lib.hid ho2
        have HB2 := Lib.hid (belowNext HB.out B2)
        clear ho2 hb2 hb1 B1 B2 x0 x1 y0 y1 HW HB HI HLB
        go_wp2
        go_roundg g
        case measure => omega
        case rel => exact ⟨k + 1, _, b2, c2, by omega, by go_num, rfl, HE, HW2, HB2⟩

set_option maxHeartbeats 2000000 in
theorem implAsc (A : Option Addr) (len cap : Nat) (l : List (Int × Int)) (w : World) (hr : AngRow w w.heap.size A l) (hl : l.length = len) (hm : len ≤ 1000000000000) (hA : allAng l = true) :
    Calls Try.prog 106 #[.slice A len cap, .func (Fn.func 103) #[] #[]] w (ResYes w (AscJ l)) := by
  have HR := Lib.hid hr
  have HL := Lib.hid hl
  have HA := Lib.hid hA
  clear hr hl hA
  go_enter Try.func106, Try.ntmps106
  go_wp2
  go_loopw [5] (fun i wr => ∃ k : Nat, 1 ≤ k ∧ (k ≤ len ∨ k = 1) ∧ i = .int .i64 k ∧ Hid (∀ (j : Nat) (x y : Int × Int), j + 1 < k → l[j]? = some x → l[j + 1]? = some y → lessA x y = true) ∧ Below w.heap.size w wr) (fun i _ => len - (intOf i).toNat)
  case atStart => exact ⟨1, by omega, by omega, rfl, Lib.hid (fun j x y h => absurd h (by omega)), Below.refl _ _⟩
  case round =>
    obtain ⟨k, hk1, hk, rfl, HY, hbe⟩ := hrel
    by_cases hlt : k < len
    · obtain ⟨q, hq⟩ : ∃ q : Nat, k = q + 1 := ⟨k - 1, by omega⟩
      have hk2 : ((k : Int) - 1) = (q : Int) := by omega
      have hw : IntKind.i64.wrap (q : Int) = (q : Int) := IntWalk.i64_in _ (by omega)
      have hql : q < len := by omega
      obtain ⟨⟨n, d⟩, hx⟩ : ∃ p, l[q]? = some p := ⟨_, List.getElem?_eq_getElem (by have := HL.out; omega)⟩
      obtain ⟨⟨m, c⟩, hy⟩ : ∃ p, l[k]? = some p := ⟨_, List.getElem?_eq_getElem (by have := HL.out; omega)⟩
      obtain ⟨b, off, rfl, hbb, hcells⟩ := HR.out (by rintro rfl; cases hx)
      obtain ⟨x0, x1⟩ := hcells q n d hx
      obtain ⟨y0, y1⟩ := hcells k m c hy
      have x0 := cellThru hbe hbb x0
      have x1 := cellThru hbe hbb x1
      have y0 := cellThru hbe hbb y0
      have y1 := cellThru hbe hbb y1
      have hp := allAng_mem HA.out (q := (n, d)) (List.mem_of_getElem? hx)
      have hp' := allAng_mem HA.out (q := (m, c)) (List.mem_of_getElem? hy)
      have HC := Lib.hid (fun w => cmpAng n d m c w (isAng_ok hp) (isAng_ok hp'))
      have HE : Hid (lessA (n, d) (m, c) = decide (cmpI (n * c) (m * d) < 0)) := Lib.hid (by
        show decide (n * c < m * d) = _
        rw [decide_eq_decide]
        constructor
        · exact fun h => cmpI_neg h
        · intro h
          rcases Int.lt_or_le (n * c) (m * d) with h1 | h1
          · exact h1
          · have := cmpI_nonneg (x := n * c) (y := m * d) (by omega)
            omega)
      have HX := Lib.hid hx
      have HZ := Lib.hid hy
      have HK := Lib.hid hq
      have hbw : b < wr.heap.size := Nat.lt_of_lt_of_le hbb hbe.size
      have hrg := cmpI_range (n * c) (m * d)
      clear hcells hx hy hp hp' hq
      generalize cmpI (n * c) (m * d) = R at *
      by_cases hR : R < 0
      · have HT : Hid (lessA (n, d) (m, c) = true) := Lib.hid (by rw [HE.out, decide_eq_true hR])
        go_wp2_with fail
        go_region_with (first | (go_at_call 103; (with_reducible refine (HC.out _).mono ?_); rintro e w1 ⟨rfl, hb1⟩))
        all_goals
          have hB : Below w.heap.size w w1 := belowNext hbe.drew hb1
          clear x0 x1 y0 y1 hb1 hbe
          go_wp2
          go_roundw
          case rel =>
            refine ⟨k + 1, by omega, by omega, by go_num, Lib.hid (fun j x y hj hx hy => ?_), hB⟩
            by_cases hjk : j + 1 = k
            · have hq := HK.out
              obtain rfl : q = j := by omega
              have p1 := HX.out
              have p2 := HZ.out
              rw [← hjk] at p2
              rw [p1] at hx
              rw [p2] at hy
              injection hx with hx
              injection hy with hy
              rw [← hx, ← hy]
              exact HT.out
            · exact HY.out j x y (by omega) hx hy
          case measure => simp [intOf]; omega
      · have HQ : Hid (¬ AscJ l) := Lib.hid (fun h => by
          have p := h q _ _ HX.out (by rw [← HK.out]; exact HZ.out)
          rw [HE.out, decide_eq_false hR] at p
          cases p)
        go_wp2_with fail
        go_region_with (first | (go_at_call 103; (with_reducible refine (HC.out _).mono ?_); rintro e w1 ⟨rfl, hb1⟩))
        all_goals
          have hB : Below w.heap.size w w1 := belowNext hbe.drew hb1
          clear x0 x1 y0 y1 hb1 hbe
          go_wp2
          go_ret
          exact ⟨⟨false, rfl, Lib.hid ⟨fun h => (by cases h), fun h => absurd h HQ.out⟩⟩, hB⟩
    · have HQ : Hid (AscJ l) := Lib.hid (fun j x y hx hy => HY.out j x y (by
        rcases Nat.lt_or_ge (j + 1) l.length with h1 | h1
        · have := HL.out; omega
        · rw [List.getElem?_eq_none h1] at hy; cases hy) hx hy)
      go_wp2
      go_ret
      exact ⟨⟨true, rfl, Lib.hid ⟨fun _ => HQ.out, fun _ => rfl⟩⟩, hbe⟩

theorem LfOwn.loY {w : World} {lo lo' : Nat} {A : Option Addr} {l : List Lf4} (h : LfOwn w lo A l) (hl : lo' ≤ lo) : LfOwn w lo' A l := by
  intro hn
  obtain ⟨b, off, e, h1, h2, hc⟩ := h hn
  exact ⟨b, off, e, Nat.le_trans hl h1, h2, hc⟩

set_option maxHeartbeats 2000000 in
theorem specPolygon (A : Option Addr) (len cap : Nat) (l : List (Int × Int)) (w : World) (hr : AngRow w w.heap.size A l) (hl : l.length = len) (hm : len ≤ 1100000) (R : List Lf4) (C : Int) (h : PoIs l R C) :
    Calls Try.prog 49 #[.slice A len cap] w (ResLf w R C) := by
  have HR := Lib.hid hr
  have HL := Lib.hid hl
  have H := Lib.hid h
  have HAs := Lib.hid (fun W (hB : Below w.heap.size w W) (ha : allAng l = true) => specAsc A len cap l W ((hr.below hB).more hB.size) hl (by omega) ha)
  have HPo := Lib.hid (fun W (hB : Below w.heap.size w W) (h2 : 2 ≤ len) (h200 : len ≤ 200) (ha : allAng l = true) (hs : AscJ l) => specPoly A len cap l W ((hr.below hB).more hB.size) hl h2 h200 ha hs)
  clear hr hl h
  go_enter Try.func49, Try.ntmps49
  go_wp2
  go_loopw [4] (fun i wr => ∃ k : Nat, k ≤ len ∧ i = .int .i64 k ∧ Hid (allAng (l.take k) = true) ∧ Below w.heap.size w wr) (fun i _ => len - (intOf i).toNat)
  case atStart => exact ⟨0, by omega, rfl, Lib.hid rfl, Below.refl _ _⟩
  case round =>
    obtain ⟨k, hk, rfl, HA, hbe⟩ := hrel
    by_cases hlt : k < len
    · obtain ⟨⟨n, d⟩, hq⟩ : ∃ q, l[k]? = some q := ⟨_, List.getElem?_eq_getElem (by have := HL.out; omega)⟩
      obtain ⟨b0, off, rfl, hb0, hc⟩ := HR.out (by rintro rfl; cases hq)
      obtain ⟨x0, x1⟩ := hc k n d hq
      have x0 := cellThru hbe hb0 x0
      have x1 := cellThru hbe hb0 x1
      have HQ := Lib.hid hq
      have HS := Lib.hid (fun w => specIs1 n d w)
      clear hq hc
      cases hi : isAng n d
      · rw [hi] at HS
        obtain ⟨rfl, rfl⟩ : R = [] ∧ C = 1 := by
          rcases H.out with ⟨_, h1, h2⟩ | ⟨h1, _⟩ | ⟨h1, _⟩
          · exact ⟨h1, h2⟩
          · rw [allAng_no HQ.out hi] at h1; cases h1
          · rw [allAng_no HQ.out hi] at h1; cases h1
        clear hi
        go_wp2_with fail
        refine (HS.out _).mono ?_
        rintro e w2 ⟨rfl, hb2⟩
        have B2 : Below w.heap.size w w2 := belowNext hbe hb2
        clear x0 x1 hb2
        go_wp2
        go_ret2
        exact ⟨none, 0, rfl, lfOwn_nil, B2⟩
      · rw [hi] at HS
        have HA2 : Hid (allAng (l.take (k + 1)) = true) := Lib.hid (allAng_next HA.out HQ.out hi)
        clear hi
        go_wp2_with fail
        refine (HS.out _).mono ?_
        rintro e w2 ⟨rfl, hb2⟩
        have B2 : Below w.heap.size w w2 := belowNext hbe hb2
        clear x0 x1 hb2
        go_wp2
        go_roundw
        case rel => exact ⟨k + 1, by omega, by go_num, HA2, B2⟩
        case measure => simp [intOf]; omega
    · obtain rfl : k = len := by omega
      have hall : allAng l = true := by
        have := HA.out
        rw [← HL.out, List.take_length] at this
        exact this
      have HAll := Lib.hid hall
      clear hall HA
      by_cases h2 : k < 2
      · obtain ⟨rfl, rfl⟩ : R = [] ∧ C = 2 := by
          rcases H.out with ⟨h1, _⟩ | ⟨_, _, h1, h3⟩ | ⟨_, h1, _⟩
          · rw [HAll.out] at h1; cases h1
          · exact ⟨h1, h3⟩
          · have := HL.out; omega
        have hI : ((k : Int) < 2) := by omega
        go_wp2
        go_ret2
        exact ⟨none, 0, rfl, lfOwn_nil, hbe⟩
      · by_cases h200 : 200 < k
        · obtain ⟨rfl, rfl⟩ : R = [] ∧ C = 2 := by
            rcases H.out with ⟨h1, _⟩ | ⟨_, _, h1, h3⟩ | ⟨_, _, h1, _⟩
            · rw [HAll.out] at h1; cases h1
            · exact ⟨h1, h3⟩
            · have := HL.out; omega
          have hI : ¬ ((k : Int) < 2) := by omega
          have hI2 : ((200 : Int) < (k : Int)) := by omega
          go_wp2
          go_ret2
          exact ⟨none, 0, rfl, lfOwn_nil, hbe⟩
        · have hI : ¬ ((k : Int) < 2) := by omega
          have hI2 : ¬ ((200 : Int) < (k : Int)) := by omega
          have HB0 := Lib.hid hbe
          go_wp2_with fail
          refine (HAs.out _ hbe HAll.out).mono ?_
          rintro e w2 ⟨⟨r, rfl, HQ⟩, hb2⟩
          have B2 : Below w.heap.size w w2 := belowNext HB0.out hb2
          cases r
          · obtain ⟨rfl, rfl⟩ : R = [] ∧ C = 2 := by
              rcases H.out with ⟨h1, _⟩ | ⟨_, _, h1, h3⟩ | ⟨_, _, _, h1, _⟩
              · rw [HAll.out] at h1; cases h1
              · exact ⟨h1, h3⟩
              · have := HQ.out.2 h1; cases this
            clear hb2 HQ
            go_wp2
            go_ret2
            exact ⟨none, 0, rfl, lfOwn_nil, B2⟩
          · have hasc := HQ.out.1 rfl
            obtain ⟨rfl, rfl⟩ : R = insAllL (polyL l) ∧ C = 0 := by
              rcases H.out with ⟨h1, _⟩ | ⟨_, h1, _⟩ | ⟨_, _, _, _, h1, h3⟩
              · rw [HAll.out] at h1; cases h1
              · rcases h1 with h1 | h1 | h1
                · have := HL.out; omega
                · have := HL.out; omega
                · exact absurd hasc h1
              · exact ⟨h1, h3⟩
            have HPp := Lib.hid (HPo.out w2 B2 (by omega) (by omega) HAll.out hasc)
            clear hb2 HQ hasc H HPo HAs
            generalize insAllL (polyL l) = L at *
            go_wp2_with fail
            refine HPp.out.mono ?_
            rintro e w3 ⟨b, c, rfl, ho, hb3⟩
            have B3 : Below w.heap.size w w3 := belowNext B2 hb3
            have HO := Lib.hid (ho.loY B2.size)
            clear ho hb3
            go_wp2
            go_ret2
            exact ⟨_, c, rfl, HO.out, B3⟩
end Go.Proofs.Ytkpgfafmaoaefaa

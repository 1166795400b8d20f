/-
  Contracts: the pairs around an angle, as the model puts them into their places.
-/
import Derived.Test.YtfakkibacepdeaaRA
import Derived.Test.YtfakkibacepdeaaR31
import Derived.Still
import Derived.StillTactics
import Derived.StillTailTactics
namespace Go.Proofs.Ytfakkibacepdeaa
open Go.RowKit

/-- A row that turns is another one. -/
theorem ownFar {w w1 : World} {row : Option Nat} {lo : Nat} {e : TypeId} {k : Nat} {v : Value} {n : Nat} {xs : List Value} (h : w.ownsRow lo e k v n xs) (hg : w.grownBy w1 row) (hr : ∀ j, row = some j → v.ownBlock ≠ some j) : w1.ownsRow lo e k v n xs := by
  obtain ⟨hx, h2⟩ := h
  rcases h2 with h3 | ⟨g, cap, cur, e1, hlo, hc, hrest⟩
  · exact ⟨hx, .inl h3⟩
  · have hlt : g < w.heap.size := (Array.getElem?_eq_some_iff.1 hc).1
    exact ⟨hx, .inr ⟨g, cap, cur, e1, hlo, (hg.block g hlt (fun e2 => hr g e2.symm (by rw [e1]; rfl))).trans hc, hrest⟩⟩
theorem own_lt {w : World} {lo : Nat} {e : TypeId} {k : Nat} {v : Value} {n : Nat} {xs : List Value} (h : w.ownsRow lo e k v n xs) : ∀ j, v.ownBlock = some j → j < w.heap.size := by
  intro j e1
  rcases h.2 with ⟨hv, _⟩ | ⟨g0, c0, cur, hv, hlo, hc, _⟩
  · rw [hv] at e1; simp [Value.ownBlock] at e1
  · rw [hv] at e1
    simp [Value.ownBlock] at e1
    subst e1
    exact (Array.getElem?_eq_some_iff.1 hc).1
theorem flatP_one : ∀ (l : List Lf4), ∀ u ∈ flatP l, u.oneCell' = true
  | [], u, h => by simp [flatP] at h
  | p :: l, u, h => by
    simp only [flatP, List.mem_cons] at h
    rcases h with rfl | rfl | rfl | rfl | h
    · rfl
    · rfl
    · rfl
    · rfl
    · exact flatP_one l u h
/-- Cells to be appended, read out of a row that is held. -/
theorem news_of_row {w : World} {lo g n cap : Nat} {e : TypeId} {xs : List Value} (h : w.ownsRow lo e 4 (.slice (some ⟨g, 0, none⟩) n cap) n xs) (o : Nat) (news : List Value) (hn : ∀ i u, news[i]? = some u → xs[o + i]? = some u) :
    ∀ i u, news[i]? = some u → w.cell? ((⟨g, o, none⟩ : Addr).add i) = some u := by
  intro i u hu
  have hadd : (⟨g, o, none⟩ : Addr).add i = ⟨g, o + i, none⟩ := by unfold Addr.add; split <;> simp_all
  have hx := hn i u hu
  have hl := (List.getElem?_eq_some_iff.1 hx).1
  rw [h.1] at hl
  rw [hadd]
  exact (h.cellAt (o + i) hl).trans hx
/-- An append at a step of a region that draws its order; nothing may be appended. -/
theorem step_append_at {P : Program} (w : World) {ops : Array Oper} {o : Oper} {a : Act} {K : Act → World → Prop} {Q : Exit → Act → World → Prop} {E : Prop} (hgd : o.guard = none) (s x : Operand) (t : TypeId)
    (ho : o.op = .call { callee := .builtin .append, args := #[s, x], argTypes := #[t, t] })
    (base : Nat) (e : TypeId) (i : TypeInfo) (z : Value) (size bytes : Nat) (ht : P.underlying t = some (.slice e)) (hi : P.info? e = some i) (hz : i.zero = some z)
    (hsize : i.size = size) (hby : i.bytes = bytes) (hzs : z.cells.size = size) (hsz : 0 < size)
    (v : Value) (n : Nat) (xs : List Value) (hs : a.eval s = v) (hown : w.ownsRow base e size v n xs)
    (ad : Addr) (m c : Nat) (news : List Value) (hx : a.eval x = .slice (some ad) m c) (hl : news.length = m * size) (hnews : ∀ j u, news[j]? = some u → w.cell? (ad.add j) = some u) (h1 : ∀ u ∈ news, u.oneCell' = true)
    (h63 : n + m ≤ maxLen) (hbytes : (n + m) * bytes ≤ 140737488355328) (hbase : base ≤ w.heap.size)
    (h : ∀ v' w', w'.ownsRow base e size v' (n + m) (xs ++ news) → w.grownBy w' v.ownBlock → K (a.put o.dst v') w') :
    if Region.wanted o (yielded ops a.tmps) = true then Oper.wp P o a w K Q else E := by
  obtain ⟨v', w', hr, h2, h3, _, _⟩ := run_append_own_at (P := P) w base t o.type e i z size bytes ht hi hz hsize hby hzs hsz v n xs hown ad m c news hl hnews h1 h63 hbytes hbase
  have hw : Region.wanted o (yielded ops a.tmps) = true := by simp [Region.wanted, hgd]
  rw [if_pos hw]
  unfold Oper.wp execOp
  simp only [ho, resolve, invoke, builtin, Sem.run_bind, Sem.run_pure, Result.andThen_ok, List.map_toArray, List.map_cons, List.map_nil, hs, hx, hr]
  exact h v' w' h2 h3
/-- What the condition of the inner loop tells. -/
def StopRes (w1 : World) (O : List Lf4) (p : Lf4) (j : Nat) (v : Value) (W : World) : Prop := ∃ t : Bool, v = .bool t ∧ Hid ((t = true → ∃ q, O[j]? = some q ∧ lowLt q p = true) ∧ (t = false → lessN O p = j)) ∧ Below w1.heap.size w1 W

set_option maxRecDepth 100000 in
set_option maxHeartbeats 2000000 in
theorem specSorted (n d : Int) (A : Option Addr) (len cap : Nat) (l : List Lf4) (w : World) (ha : angOk n d) (hok : ∀ p ∈ l, okP p = true) (hr : LfRow w w.heap.size A l) (hl : l.length = len) (hm : len ≤ 2000) :
    Calls Try.prog 117 #[ang n d, .slice A len cap] w fun e w' => ∃ A' cap', e = .returned (.slice A' (wkOf (n, d) [] l).length cap') ∧ w'.ownsRow w.heap.size 52 4 (.slice A' (wkOf (n, d) [] l).length cap') (wkOf (n, d) [] l).length (flatP (wkOf (n, d) [] l)) ∧ Below w.heap.size w w' := by
  have HR := Lib.hid hr
  have HL := Lib.hid hl
  have HOk := Lib.hid hok
  have HX := Lib.hid ha
  obtain ⟨i0, hi, hz0, hz1, hz2⟩ := info_parts infoP
  clear hr hl hok ha
  go_enter Try.func117, Try.ntmps117
  go_wp2_with fail
  obtain ⟨wb, hwb⟩ : ∃ wb, w.alloc (.cells #[.int .i64 n, .int .i64 d] 25) = wb := ⟨_, rfl⟩
  have zb : wb.heap.size = w.heap.size + 1 := by rw [← hwb]; simp
  have c0 : (wb.alloc (.cells #[] 52)).cell? ⟨w.heap.size, 0, none⟩ = some (.int .i64 n) := by rw [← hwb]; simp [go_sem]
  have c1 : (wb.alloc (.cells #[] 52)).cell? ⟨w.heap.size, 1, none⟩ = some (.int .i64 d) := by rw [← hwb]; simp [go_sem]
  have HB0 : Hid (Below w.heap.size w (wb.alloc (.cells #[] 52))) := Lib.hid (by rw [← hwb]; exact belowAlloc (belowAlloc (Below.refl _ _) _) _)
  have z0 : w.heap.size < (wb.alloc (.cells #[] 52)).heap.size := by simp; omega
  have HS : Hid ((wb.alloc (.cells #[] 52)).ownsRow (w.heap.size + 1) 52 4 (.slice (some ⟨w.heap.size + 1, 0, none⟩) ([] : List Lf4).length 0) ([] : List Lf4).length (flatP [])) := Lib.hid (by rw [← zb]; exact ⟨rfl, .inr ⟨wb.heap.size, 0, #[], rfl, Nat.le_refl _, heap_alloc_new wb (.cells #[] 52), by simp, by unfold maxLen; omega, rfl, rfl⟩⟩)
  rw [hwb]
  clear hwb
  generalize wb.alloc (.cells #[] 52) = wc at *
  clear zb
  go_loopg [5, 6] len (fun g s5 s6 wr => ∃ (k : Nat) (O : List Lf4) (b c : Nat), k + g = len ∧ s6 = .int .i64 k ∧ s5 = .slice (some ⟨b, 0, none⟩) O.length c ∧ Hid (O = wkOf (n, d) [] (l.take k)) ∧ Hid (wr.ownsRow (w.heap.size + 1) 52 4 s5 O.length (flatP O)) ∧ Hid (Below w.heap.size w wr) ∧ w.heap.size < wr.heap.size ∧ wr.cell? ⟨w.heap.size, 0, none⟩ = some (.int .i64 n) ∧ wr.cell? ⟨w.heap.size, 1, none⟩ = some (.int .i64 d))
  case atStart => exact ⟨0, [], w.heap.size + 1, 0, by omega, rfl, rfl, Lib.hid rfl, HS, HB0, z0, c0, c1⟩
  case round =>
    clear HS HB0 z0 c0 c1
    obtain ⟨k, O, b, c, hkg, rfl, rfl, HO, HW, HB, zr, x0, x1⟩ := hrel
    cases gk with
    | zero =>
      obtain rfl : k = len := by omega
      have e : O = wkOf (n, d) [] l := by rw [HO.out, ← HL.out, List.take_length]
      have HW2 := Lib.hid (ownMono HW.out (Nat.le_succ w.heap.size))
      rw [e] at HW2 ⊢
      clear HO HW e
      go_wp2
      go_ret
      exact ⟨_, _, rfl, HW2.out, HB.out⟩
    | succ g =>
      have hlt : k < len := by omega
      obtain ⟨g0, off, p1, p2, p3, p4, rfl, hq, y0, y1, y2, y3, hg0⟩ := row_pairE HR.out HB.out (k := k) (by have := HL.out; omega)
      have HP := Lib.hid (HOk.out _ (List.mem_of_getElem? hq))
      have HI := Lib.hid (fun w => specIns n d p1 p2 p3 p4 w HX.out (ok_low HP.out) (okP_up HP.out))
      have HNx := Lib.hid (wkOf_next (x := (n, d)) hq)
      have HQ := Lib.hid hq
      have hOl : O.length ≤ k := by rw [HO.out]; exact Nat.le_trans (wkOf_len _ _) (by rw [List.length_take]; omega)
      have HOkO : Hid (∀ q ∈ O, okP q = true) := Lib.hid (fun q hq => by rw [HO.out] at hq; exact HOk.out q (List.mem_of_mem_take (wkOf_mem hq)))
      obtain ⟨t, ht⟩ : ∃ t, arcB n d p1 p2 p3 p4 = t := ⟨_, rfl⟩
      rw [ht] at HI
      have HT : Hid (insX (n, d) (p1, p2, p3, p4) = t) := Lib.hid ht
      clear hq ht
      go_wp2_with fail
      go_still_tail 5, (by kernel_rfl)
      change wpList _ _ _ _ _ wr.drew
      have BD : Below w.heap.size w wr.drew := HB.out.drew
      have x0' : wr.drew.cell? ⟨w.heap.size, 0, none⟩ = some (.int .i64 n) := x0
      have x1' : wr.drew.cell? ⟨w.heap.size, 1, none⟩ = some (.int .i64 d) := x1
      have hg0' : g0 < wr.drew.heap.size := hg0
      have zr' : w.heap.size < wr.drew.heap.size := zr
      have HWD : Hid (wr.drew.ownsRow (w.heap.size + 1) 52 4 (.slice (some ⟨b, 0, none⟩) O.length c) O.length (flatP O)) := HW
      have yy : wr.drew.cell? ⟨g0, off + k * 4, none⟩ = some (.int .i64 p1) ∧ wr.drew.cell? ⟨g0, off + k * 4 + 1, none⟩ = some (.int .i64 p2) ∧ wr.drew.cell? ⟨g0, off + k * 4 + 2, none⟩ = some (.int .i64 p3) ∧ wr.drew.cell? ⟨g0, off + k * 4 + 3, none⟩ = some (.int .i64 p4) := ⟨y0, y1, y2, y3⟩
      have HY := Lib.hid yy
      clear x0 x1 y0 y1 y2 y3 yy hg0 zr HB HW
      generalize wr.drew = wd at *
      go_wp2_with fail
      refine (HI.out _).mono ?_
      rintro e w1 ⟨rfl, hb1⟩
      have f0 := cellThru hb1 zr' x0'
      have f1 := cellThru hb1 zr' x1'
      obtain ⟨v0, v1, v2, v3⟩ := HY.out
      have y0 := cellThru hb1 hg0' v0
      have y1 := cellThru hb1 hg0' v1
      have y2 := cellThru hb1 hg0' v2
      have y3 := cellThru hb1 hg0' v3
      have B1 := Lib.hid (belowNext BD hb1)
      have HW1 := Lib.hid (ownTurn HWD.out (belowG hb1) (fun j e => by cases e))
      have z1 : w.heap.size < w1.heap.size := Nat.lt_of_lt_of_le zr' hb1.size
      have hg1 : g0 < w1.heap.size := Nat.lt_of_lt_of_le hg0' hb1.size
      clear hb1 v0 v1 v2 v3 HY x0' x1' BD HWD zr' hg0'
      cases t
      · have E := HNx.out
        rw [HT.out] at E
        go_wp2
        go_roundg g
        case measure => omega
        case rel => exact ⟨k + 1, O, b, c, by omega, by go_num, rfl, Lib.hid (HO.out.trans E.symm), HW1, B1, z1, f0, f1⟩
      · have E := HNx.out
        rw [HT.out] at E
        have HE : Hid (insP O (p1, p2, p3, p4) = wkOf (n, d) [] (l.take (k + 1))) := Lib.hid (by rw [HO.out]; exact E.symm)
        clear E HT HNx
        have hOm : O.length ≤ 2000 := by omega
        have hbw : b < w1.heap.size := own_lt HW1.out b rfl
        go_wp2_with fail
        go_loopg [7] O.length (fun g2 s7 wx => ∃ j : Nat, j + g2 = O.length ∧ s7 = .int .i64 j ∧ Hid (∀ i, i < j → ∀ q, O[i]? = some q → lowLt q (p1, p2, p3, p4) = true) ∧ Hid (Below w1.heap.size w1 wx))
        case atStart => exact ⟨0, by omega, rfl, Lib.hid (fun i h => absurd h (by omega)), Lib.hid (Below.refl _ _)⟩
        case round =>
          obtain ⟨j, hjg, rfl, HJ, BX⟩ := hrel
          have a0 := cellThru BX.out hg1 y0
          have a1 := cellThru BX.out hg1 y1
          have hg2 : g0 < wr.heap.size := Nat.lt_of_lt_of_le hg1 BX.out.size
          have hb2 : b < wr.heap.size := Nat.lt_of_lt_of_le hbw BX.out.size
          go_upto_region 7 with fail
          go_cut [39] (fun s39 wy => StopRes w1 O (p1, p2, p3, p4) j s39 wy)
          case first =>
            cases gk with
            | zero =>
              have HST : Hid (lessN O (p1, p2, p3, p4) = j) := Lib.hid (by
                obtain rfl : j = O.length := by omega
                exact lessN_end HJ.out)
              have hn : ¬ ((j : Int) < (O.length : Int)) := by omega
              have hn2 : ((j : Int) < (O.length : Int)) = False := by simp; omega
              have hn3 : ¬ (j < O.length) := by omega
              clear hjg
              refine wp_region_any (by kernel_rfl) ?_
              try (change wpAny _ _ _ _ _ _ _ (World.drew _))
              refine wpAny_take (i := 0) (v := ?_) rfl (by kernel_rfl) (by kernel_rfl) (by kernel_rfl) (fun _ _ _ h => h) (Or.inl ⟨by kernel_rfl, ?_⟩) ?_
              rotate_left
              · intro w; first | (go_simp; done) | (go_simp; with_reducible rfl)
              refine wpAny_take (i := 1) (v := ?_) rfl (by kernel_rfl) (by kernel_rfl) (by kernel_rfl) (fun _ _ _ h => h) (Or.inl ⟨by kernel_rfl, ?_⟩) ?_
              rotate_left
              · intro w; first | (go_simp; done) | (go_simp; with_reducible rfl)
              refine wpAny_take (i := 2) (v := ?_) rfl (by kernel_rfl) (by kernel_rfl) (by kernel_rfl) (fun _ _ _ h => h) (Or.inl ⟨by kernel_rfl, ?_⟩) ?_
              rotate_left
              · intro w; first | (go_simp; done) | (go_simp; with_reducible rfl)
              refine wpAny_take (i := 3) (v := ?_) rfl (by kernel_rfl) (by kernel_rfl) (by kernel_rfl) (fun _ _ _ h => h) (Or.inl ⟨by kernel_rfl, ?_⟩) ?_
              rotate_left
              · intro w; first | (go_simp; done) | (go_simp; with_reducible rfl)
              refine wpAny_take (i := 4) (v := ?_) rfl (by kernel_rfl) (by kernel_rfl) (by kernel_rfl) (fun _ _ _ h => h) (Or.inl ⟨by kernel_rfl, ?_⟩) ?_
              rotate_left
              · intro w; first | (go_simp; done) | (go_simp; with_reducible rfl)
              refine wpAny_take (i := 5) (v := undef) rfl (by kernel_rfl) (by kernel_rfl) (by kernel_rfl) (fun _ _ _ h => h) (Or.inr ⟨by kernel_rfl, rfl⟩) ?_
              go_simp
              refine wpAny_take (i := 6) (v := undef) rfl (by kernel_rfl) (by kernel_rfl) (by kernel_rfl) (fun _ _ _ h => h) (Or.inr ⟨by kernel_rfl, rfl⟩) ?_
              go_simp
              refine wpAny_take (i := 7) (v := undef) rfl (by kernel_rfl) (by kernel_rfl) (by kernel_rfl) (fun _ _ _ h => h) (Or.inr ⟨by kernel_rfl, rfl⟩) ?_
              go_simp
              refine wpAny_take (i := 8) (v := undef) rfl (by kernel_rfl) (by kernel_rfl) (by kernel_rfl) (fun _ _ _ h => h) (Or.inr ⟨by kernel_rfl, rfl⟩) ?_
              go_simp
              refine wpAny_take (i := 9) (v := undef) rfl (by kernel_rfl) (by kernel_rfl) (by kernel_rfl) (fun _ _ _ h => h) (Or.inr ⟨by kernel_rfl, rfl⟩) ?_
              go_simp
              refine wpAny_take (i := 10) (v := undef) rfl (by kernel_rfl) (by kernel_rfl) (by kernel_rfl) (fun _ _ _ h => h) (Or.inr ⟨by kernel_rfl, rfl⟩) ?_
              go_simp
              refine wpAny_take (i := 11) (v := undef) rfl (by kernel_rfl) (by kernel_rfl) (by kernel_rfl) (fun _ _ _ h => h) (Or.inr ⟨by kernel_rfl, rfl⟩) ?_
              go_simp
              refine wpAny_take (i := 12) (v := undef) rfl (by kernel_rfl) (by kernel_rfl) (by kernel_rfl) (fun _ _ _ h => h) (Or.inr ⟨by kernel_rfl, rfl⟩) ?_
              go_simp
              refine wpAny_take (i := 13) (v := undef) rfl (by kernel_rfl) (by kernel_rfl) (by kernel_rfl) (fun _ _ _ h => h) (Or.inr ⟨by kernel_rfl, rfl⟩) ?_
              go_simp
              refine wpAny_take (i := 14) (v := undef) rfl (by kernel_rfl) (by kernel_rfl) (by kernel_rfl) (fun _ _ _ h => h) (Or.inr ⟨by kernel_rfl, rfl⟩) ?_
              go_simp
              refine wpAny_take (i := 15) (v := undef) rfl (by kernel_rfl) (by kernel_rfl) (by kernel_rfl) (fun _ _ _ h => h) (Or.inr ⟨by kernel_rfl, rfl⟩) ?_
              go_simp
              refine wpAny_take (i := 16) (v := ?_) rfl (by kernel_rfl) (by kernel_rfl) (by kernel_rfl) (fun _ _ _ h => h) (Or.inl ⟨by kernel_rfl, ?_⟩) ?_
              rotate_left
              · intro w; first | (go_simp; done) | (go_simp; with_reducible rfl)
              refine wpAny_done (by kernel_rfl) ?_ _
              have B1 : Below w1.heap.size w1 wr.drew := BX.out.drew
              go_wp2_with fail
              go_meet
              exact ⟨false, rfl, Lib.hid ⟨fun h => (by cases h), fun _ => HST.out⟩, B1⟩
            | succ g2 =>
              have hjl : j < O.length := by omega
              obtain ⟨⟨q1, q2, q3, q4⟩, hq⟩ : ∃ q, O[j]? = some q := ⟨_, List.getElem?_eq_getElem hjl⟩
              obtain ⟨r0, r1, _, _⟩ := flatP_at hq
              have o0 := cellThru BX.out hbw ((HW1.out.cellAt (j * 4) (by omega)).trans r0)
              have o1 := cellThru BX.out hbw ((HW1.out.cellAt (j * 4 + 1) (by omega)).trans r1)
              have HLe := Lib.hid (fun w => specLess q1 q2 p1 p2 w (ok_low (HOkO.out _ (List.mem_of_getElem? hq))) (ok_low HP.out))
              obtain ⟨t, ht⟩ : ∃ t, ltA q1 q2 p1 p2 = t := ⟨_, rfl⟩
              rw [ht] at HLe
              have HT1 : Hid (t = true → ∃ q, O[j]? = some q ∧ lowLt q (p1, p2, p3, p4) = true) := Lib.hid (fun h => ⟨_, hq, ht.trans h⟩)
              have HT0 : Hid (t = false → lessN O (p1, p2, p3, p4) = j) := Lib.hid (fun h => lessN_stop hjl HJ.out hq (ht.trans h))
              clear hq ht r0 r1
              refine wp_region_any (by kernel_rfl) ?_
              try (change wpAny _ _ _ _ _ _ _ (World.drew _))
              refine wpAny_take (i := 0) (v := ?_) rfl (by kernel_rfl) (by kernel_rfl) (by kernel_rfl) (fun _ _ _ h => h) (Or.inl ⟨by kernel_rfl, ?_⟩) ?_
              rotate_left
              · intro w; first | (go_simp; done) | (go_simp; with_reducible rfl)
              refine wpAny_take (i := 1) (v := ?_) rfl (by kernel_rfl) (by kernel_rfl) (by kernel_rfl) (fun _ _ _ h => h) (Or.inl ⟨by kernel_rfl, ?_⟩) ?_
              rotate_left
              · intro w; first | (go_simp; done) | (go_simp; with_reducible rfl)
              refine wpAny_take (i := 2) (v := ?_) rfl (by kernel_rfl) (by kernel_rfl) (by kernel_rfl) (fun _ _ _ h => h) (Or.inl ⟨by kernel_rfl, ?_⟩) ?_
              rotate_left
              · intro w; first | (go_simp; done) | (go_simp; with_reducible rfl)
              refine wpAny_take (i := 3) (v := ?_) rfl (by kernel_rfl) (by kernel_rfl) (by kernel_rfl) (fun _ _ _ h => h) (Or.inl ⟨by kernel_rfl, ?_⟩) ?_
              rotate_left
              · intro w; first | (go_simp; done) | (go_simp; with_reducible rfl)
              refine wpAny_take (i := 4) (v := ?_) rfl (by kernel_rfl) (by kernel_rfl) (by kernel_rfl) (fun _ _ _ h => h) (Or.inl ⟨by kernel_rfl, ?_⟩) ?_
              rotate_left
              · intro w; first | (go_simp; done) | (go_simp; with_reducible rfl)
              refine wpAny_take (i := 5) (v := ?_) rfl (by kernel_rfl) (by kernel_rfl) (by kernel_rfl) (fun _ _ _ h => h) (Or.inl ⟨by kernel_rfl, ?_⟩) ?_
              rotate_left
              · intro w; first | (go_simp; done) | (go_simp; with_reducible rfl)
              refine wpAny_take (i := 6) (v := ?_) rfl (by kernel_rfl) (by kernel_rfl) (by kernel_rfl) (fun _ _ _ h => h) (Or.inl ⟨by kernel_rfl, ?_⟩) ?_
              rotate_left
              · intro w; first | (go_simp; done) | (go_simp; with_reducible rfl)
              refine wpAny_take (i := 7) (v := ?_) rfl (by kernel_rfl) (by kernel_rfl) (by kernel_rfl) (fun _ _ _ h => h) (Or.inl ⟨by kernel_rfl, ?_⟩) ?_
              rotate_left
              · intro w; first | (go_simp; done) | (go_simp; with_reducible rfl)
              refine wpAny_take (i := 8) (v := ?_) rfl (by kernel_rfl) (by kernel_rfl) (by kernel_rfl) (fun _ _ _ h => h) (Or.inl ⟨by kernel_rfl, ?_⟩) ?_
              rotate_left
              · intro w; first | (go_simp; done) | (go_simp; with_reducible rfl)
              refine wpAny_take (i := 10) (v := ?_) rfl (by kernel_rfl) (by kernel_rfl) (by kernel_rfl) (fun _ _ _ h => h) (Or.inl ⟨by kernel_rfl, ?_⟩) ?_
              rotate_left
              · intro w; first | (go_simp; done) | (go_simp; with_reducible rfl)
              refine wpAny_take (i := 11) (v := ?_) rfl (by kernel_rfl) (by kernel_rfl) (by kernel_rfl) (fun _ _ _ h => h) (Or.inl ⟨by kernel_rfl, ?_⟩) ?_
              rotate_left
              · intro w; first | (go_simp; done) | (go_simp; with_reducible rfl)
              refine wpAny_take (i := 12) (v := ?_) rfl (by kernel_rfl) (by kernel_rfl) (by kernel_rfl) (fun _ _ _ h => h) (Or.inl ⟨by kernel_rfl, ?_⟩) ?_
              rotate_left
              · intro w; first | (go_simp; done) | (go_simp; with_reducible rfl)
              refine wpAny_take (i := 13) (v := ?_) rfl (by kernel_rfl) (by kernel_rfl) (by kernel_rfl) (fun _ _ _ h => h) (Or.inl ⟨by kernel_rfl, ?_⟩) ?_
              rotate_left
              · intro w; first | (go_simp; done) | (go_simp; with_reducible rfl)
              refine wpAny_ready (rs := [9, 14]) (by kernel_rfl) (by simp) ?_
              refine AllReady.cons rfl (fun K hK => ?_) (AllReady.cons rfl (fun K hK => ?_) AllReady.nil)
              · go_simp
                refine hK _ _ ?_
                clear hK K
                refine wpAny_ready (rs := [14]) (by kernel_rfl) (by simp) ?_
                refine AllReady.cons rfl (fun K hK => ?_) AllReady.nil
                go_simp
                refine hK _ _ ?_
                clear hK K
                refine wpAny_ready (rs := [15]) (by kernel_rfl) (by simp) ?_
                refine AllReady.cons rfl (fun K hK => ?_) AllReady.nil
                go_simp
                go_wp2_with (go_at_call 169; (with_reducible refine (HLe.out _).mono ?_); rintro e w2 ⟨rfl, hb2⟩)
                refine wpAny_take (i := 16) (v := ?_) rfl (by kernel_rfl) (by kernel_rfl) (by kernel_rfl) (fun _ _ _ h => h) (Or.inl ⟨by kernel_rfl, ?_⟩) ?_
                rotate_left
                · intro w; first | (go_simp; done) | (go_simp; with_reducible rfl)
                refine wpAny_done (by kernel_rfl) ?_ _
                have B1 : Below w1.heap.size w1 w2 := belowNext BX.out.drew hb2
                go_wp2_with fail
                go_meet
                exact ⟨t, rfl, Lib.hid ⟨fun h => HT1.out h, fun h => HT0.out h⟩, B1⟩
              · go_simp
                refine hK _ _ ?_
                clear hK K
                refine wpAny_ready (rs := [9]) (by kernel_rfl) (by simp) ?_
                refine AllReady.cons rfl (fun K hK => ?_) AllReady.nil
                go_simp
                refine hK _ _ ?_
                clear hK K
                refine wpAny_ready (rs := [15]) (by kernel_rfl) (by simp) ?_
                refine AllReady.cons rfl (fun K hK => ?_) AllReady.nil
                go_simp
                go_wp2_with (go_at_call 169; (with_reducible refine (HLe.out _).mono ?_); rintro e w2 ⟨rfl, hb2⟩)
                refine wpAny_take (i := 16) (v := ?_) rfl (by kernel_rfl) (by kernel_rfl) (by kernel_rfl) (fun _ _ _ h => h) (Or.inl ⟨by kernel_rfl, ?_⟩) ?_
                rotate_left
                · intro w; first | (go_simp; done) | (go_simp; with_reducible rfl)
                refine wpAny_done (by kernel_rfl) ?_ _
                have B1 : Below w1.heap.size w1 w2 := belowNext BX.out.drew hb2
                go_wp2_with fail
                go_meet
                exact ⟨t, rfl, Lib.hid ⟨fun h => HT1.out h, fun h => HT0.out h⟩, B1⟩
          case rest =>
            obtain ⟨t, ht, HQ, B2⟩ := hcut
            subst ht
            cases t
            · have hL := HQ.out.2 rfl
              have HB2 := Lib.hid B2
              have hjO : j ≤ O.length := by omega
              have hcO : O.length ≤ c := ownsCap HW1.out
              have s0 := cellThru HB2.out hg1 y0
              have s1 := cellThru HB2.out hg1 y1
              have s2 := cellThru HB2.out hg1 y2
              have s3 := cellThru HB2.out hg1 y3
              have e0 := cellThru HB2.out z1 f0
              have e1 := cellThru HB2.out z1 f1
              have HWc : Hid (wc.ownsRow (w.heap.size + 1) 52 4 (.slice (some ⟨b, 0, none⟩) O.length c) O.length (flatP O)) := Lib.hid (ownTurn HW1.out (belowG HB2.out) (fun j e => by cases e))
              have HBc := Lib.hid (B1.out.trans (HB2.out.mono B1.out.size))
              have zc : w.heap.size < wc.heap.size := Nat.lt_of_lt_of_le z1 HB2.out.size
              have hbc : b < wc.heap.size := Nat.lt_of_lt_of_le hbw HB2.out.size
              have hgc : g0 < wc.heap.size := Nat.lt_of_lt_of_le hg1 HB2.out.size
              have HLs := Lib.hid hL
              clear HQ B2 a0 a1 hg2 hb2 hL BX HJ HB2 B1 HW1 z1 hbw hg1 y0 y1 y2 y3 f0 f1
              by_cases hcj : c = j
              · have hm0 : O.length = j := by omega
                have hd : O.drop j = [] := by rw [← hm0]; exact List.drop_length
                go_wp2_with fail
                refine wp_region_any (by kernel_rfl) ?_
                try (change wpAny _ _ _ _ _ _ _ (World.drew _))
                refine wpAny_take (i := 0) (v := ?_) rfl (by kernel_rfl) (by kernel_rfl) (by kernel_rfl) (fun _ _ _ h => h) (Or.inl ⟨by kernel_rfl, ?_⟩) ?_
                rotate_left
                · intro w; first | (go_simp; done) | (go_simp; with_reducible rfl)
                refine wpAny_take (i := 1) (v := ?_) rfl (by kernel_rfl) (by kernel_rfl) (by kernel_rfl) (fun _ _ _ h => h) (Or.inl ⟨by kernel_rfl, ?_⟩) ?_
                rotate_left
                · intro w; first | (go_simp; done) | (go_simp; with_reducible rfl)
                refine wpAny_take (i := 2) (v := ?_) rfl (by kernel_rfl) (by kernel_rfl) (by kernel_rfl) (fun _ _ _ h => h) (Or.inl ⟨by kernel_rfl, ?_⟩) ?_
                rotate_left
                · intro w; first | (go_simp; done) | (go_simp; with_reducible rfl)
                refine wpAny_take (i := 5) (v := ?_) rfl (by kernel_rfl) (by kernel_rfl) (by kernel_rfl) (fun _ _ _ h => h) (Or.inl ⟨by kernel_rfl, ?_⟩) ?_
                rotate_left
                · intro w; first | (go_simp; done) | (go_simp; with_reducible rfl)
                refine wpAny_take (i := 6) (v := ?_) rfl (by kernel_rfl) (by kernel_rfl) (by kernel_rfl) (fun _ _ _ h => h) (Or.inl ⟨by kernel_rfl, ?_⟩) ?_
                rotate_left
                · intro w; first | (go_simp; done) | (go_simp; with_reducible rfl)
                refine wpAny_take (i := 7) (v := ?_) rfl (by kernel_rfl) (by kernel_rfl) (by kernel_rfl) (fun _ _ _ h => h) (Or.inl ⟨by kernel_rfl, ?_⟩) ?_
                rotate_left
                · intro w; first | (go_simp; done) | (go_simp; with_reducible rfl)
                refine wpAny_ready (rs := [3]) (by kernel_rfl) (by simp) ?_
                refine AllReady.cons rfl (fun K hK => ?_) AllReady.nil
                go_simp
                refine hK _ _ ?_
                clear hK K
                refine wpAny_ready (rs := [4]) (by kernel_rfl) (by simp) ?_
                refine AllReady.cons rfl (fun K hK => ?_) AllReady.nil
                go_simp
                refine hK _ _ ?_
                clear hK K
                refine wpAny_ready (rs := [8]) (by kernel_rfl) (by simp) ?_
                refine AllReady.cons rfl (fun K hK => ?_) AllReady.nil
                refine step_append_at _ rfl (.tmp 46) (.tmp 49) 47 rfl wc.heap.size 52 i0 (.agg #[.int .i64 0, .int .i64 0, .int .i64 0, .int .i64 0]) 4 32 Try.underlying47 hi hz0 hz1 hz2 rfl (by decide) (.slice (some ⟨wc.heap.size, 0, none⟩) 1 1) 1 [.int .i64 p1, .int .i64 p2, .int .i64 p3, .int .i64 p4] rfl ⟨rfl, .inr ⟨wc.heap.size, 1, #[.int .i64 p1, .int .i64 p2, .int .i64 p3, .int .i64 p4], rfl, Nat.le_refl _, heap_alloc_new wc (.cells #[.int .i64 p1, .int .i64 p2, .int .i64 p3, .int .i64 p4] 52), by omega, by unfold maxLen; omega, rfl, rfl⟩⟩ _ _ _ (flatP (O.drop j)) rfl ?r1 ?r2 ?r3 ?r4 ?r5 ?r6 ?_
                case r1 => have e := flatP_len (O.drop j); rw [List.length_drop] at e; omega
                case r2 => rw [hd]; intro i u hu; simp [flatP] at hu
                case r3 => exact flatP_one _
                case r4 => unfold maxLen; omega
                case r5 => omega
                case r6 => simp
                intro v9 w9 hown9 hgrow9
                refine hK _ _ ?_
                clear hK K
                refine wpAny_take (i := 9) (v := ?_) rfl (by kernel_rfl) (by kernel_rfl) (by kernel_rfl) (fun _ _ _ h => h) (Or.inl ⟨by kernel_rfl, ?_⟩) ?_
                rotate_left
                · intro w; first | (go_simp; done) | (go_simp; with_reducible rfl)
                refine wpAny_done (by kernel_rfl) ?_ _
                have hown9' : w9.ownsRow wc.heap.size 52 4 v9 (O.length - j + 1) (flatP ((p1, p2, p3, p4) :: O.drop j)) := by
                  have e0 : O.length - j + 1 = 1 + (O.length - j) := by omega
                  rw [e0]
                  rw [show O.length - j = 0 by omega]
                  exact hown9
                obtain ⟨gr, cr, rfl⟩ := ownsRow_succ hown9'
                have hgr : wc.heap.size ≤ gr := own_block hown9' gr rfl
                have hgl : gr < w9.heap.size := own_lt hown9' gr rfl
                have HR9 := Lib.hid hown9'
                have hs9 : wc.heap.size < w9.heap.size := by have := hgrow9.size; simp at this; omega
                have HW9 : Hid (w9.ownsRow (w.heap.size + 1) 52 4 (.slice (some ⟨b, 0, none⟩) O.length c) O.length (flatP O)) := Lib.hid (ownFar (show World.ownsRow ((wc.alloc (.cells #[.int .i64 p1, .int .i64 p2, .int .i64 p3, .int .i64 p4] 52)).drew) (w.heap.size + 1) 52 4 (.slice (some ⟨b, 0, none⟩) O.length c) O.length (flatP O) from World.ownsRow.alloc HWc.out _) hgrow9 (fun j e => by simp [Value.ownBlock] at e ⊢; omega))
                have HB9 : Hid (Below w.heap.size w w9) := Lib.hid ((belowAlloc HBc.out (.cells #[.int .i64 p1, .int .i64 p2, .int .i64 p3, .int .i64 p4] 52)).drew.grown hgrow9 (by simp; omega) (fun j e => by simp [Value.ownBlock] at e; omega))
                have h0 := cellG hgrow9 (show w.heap.size < (wc.alloc (.cells #[.int .i64 p1, .int .i64 p2, .int .i64 p3, .int .i64 p4] 52)).drew.heap.size by simp; omega) (fun e => by simp [Value.ownBlock] at e; omega) (cellThru (w1 := (wc.alloc (.cells #[.int .i64 p1, .int .i64 p2, .int .i64 p3, .int .i64 p4] 52)).drew) (belowAlloc (Below.refl _ _) _).drew zc e0)
                have h1 := cellG hgrow9 (show w.heap.size < (wc.alloc (.cells #[.int .i64 p1, .int .i64 p2, .int .i64 p3, .int .i64 p4] 52)).drew.heap.size by simp; omega) (fun e => by simp [Value.ownBlock] at e; omega) (cellThru (w1 := (wc.alloc (.cells #[.int .i64 p1, .int .i64 p2, .int .i64 p3, .int .i64 p4] 52)).drew) (belowAlloc (Below.refl _ _) _).drew zc e1)
                have hcO2 : j ≤ c := by omega
                clear hown9 hown9' hgrow9 s0 s1 s2 s3 e0 e1 HWc HBc hgc
                go_wp2_with (at_builtin; refine wpList_append_own_at _ rfl _ _ 47 rfl wc.heap.size 52 i0 (.agg #[.int .i64 0, .int .i64 0, .int .i64 0, .int .i64 0]) 4 32 Try.underlying47 hi hz0 hz1 hz2 rfl (by decide) (.slice (some ⟨w9.heap.size, 0, none⟩) 0 0) 0 [] rfl ⟨rfl, .inr ⟨w9.heap.size, 0, #[], rfl, Nat.le_of_lt hs9, heap_alloc_new w9 (.cells #[] 52), by omega, by unfold maxLen; omega, rfl, rfl⟩⟩ ⟨b, 0, none⟩ j _ (flatP (O.take j)) rfl ?r1 ?r2 ?r3 ?r4 ?r5 ?r6 ?_)
                case r1 => have e := flatP_len (O.take j); rw [List.length_take] at e; omega
                case r2 => exact news_of_row (World.ownsRow.alloc HW9.out _) 0 _ (fun i u hu => by rw [flatP_take] at hu; rw [Nat.zero_add]; rw [List.getElem?_take] at hu; split at hu; exact hu; cases hu)
                case r3 => exact flatP_one _
                case r4 => unfold maxLen; omega
                case r5 => omega
                case r6 => simp; omega
                intro v10 w10 hown10 hgrow10 _ _
                have HR10 : Hid (w10.ownsRow wc.heap.size 52 4 (.slice (some ⟨gr, 0, none⟩) (O.length - j + 1) cr) (O.length - j + 1) (flatP ((p1, p2, p3, p4) :: O.drop j))) := Lib.hid (ownFar (World.ownsRow.alloc HR9.out (.cells #[] 52)) hgrow10 (fun j e => by simp [Value.ownBlock] at e ⊢; omega))
                have HB10 : Hid (Below w.heap.size w w10) := Lib.hid ((belowAlloc HB9.out (.cells #[] 52)).grown hgrow10 (by simp; omega) (fun j e => by simp [Value.ownBlock] at e; omega))
                have k0 := cellG hgrow10 (show w.heap.size < (w9.alloc (.cells #[] 52)).heap.size by simp; omega) (fun e => by simp [Value.ownBlock] at e; omega) (cellThru (belowAlloc (Below.refl _ _) _) (by omega) h0)
                have k1 := cellG hgrow10 (show w.heap.size < (w9.alloc (.cells #[] 52)).heap.size by simp; omega) (fun e => by simp [Value.ownBlock] at e; omega) (cellThru (belowAlloc (Below.refl _ _) _) (by omega) h1)
                have hs10 : wc.heap.size < w10.heap.size := by have := hgrow10.size; simp at this; omega
                have HO10 := Lib.hid hown10
                clear hown10 hgrow10 HR9 HW9 HB9 h0 h1
                go_wp2_with (at_builtin; refine wpList_append_own_at _ rfl _ _ 47 rfl wc.heap.size 52 i0 (.agg #[.int .i64 0, .int .i64 0, .int .i64 0, .int .i64 0]) 4 32 Try.underlying47 hi hz0 hz1 hz2 rfl (by decide) v10 j (flatP (O.take j)) rfl HO10.out ⟨gr, 0, none⟩ _ _ (flatP ((p1, p2, p3, p4) :: O.drop j)) rfl ?r1 ?r2 ?r3 ?r4 ?r5 ?r6 ?_)
                case r1 => have e := flatP_len ((p1, p2, p3, p4) :: O.drop j); rw [List.length_cons, List.length_drop] at e; omega
                case r2 => exact news_of_row HR10.out 0 _ (fun i u hu => by rw [Nat.zero_add]; exact hu)
                case r3 => exact flatP_one _
                case r4 => unfold maxLen; omega
                case r5 => omega
                case r6 => omega
                intro v11 w11 hown11 hgrow11 _ _
                have hown11' : w11.ownsRow wc.heap.size 52 4 v11 (O.length + 1) (flatP (insP O (p1, p2, p3, p4))) := by
                  have e1 : j + (O.length - j + 1) = O.length + 1 := by omega
                  have e2 : flatP (O.take j) ++ flatP ((p1, p2, p3, p4) :: O.drop j) = flatP (insP O (p1, p2, p3, p4)) := by unfold insP; rw [HLs.out, flatP_app]
                  rw [hd] at e2
                  rw [show O.length + 1 = j + 1 by omega, ← e2]
                  exact hown11
                obtain ⟨gn, cn, rfl⟩ := ownsRow_succ hown11'
                have HB11 : Hid (Below w.heap.size w w11) := Lib.hid (HB10.out.grown hgrow11 (by omega) (fun j e => by have := own_block HO10.out j e; omega))
                have l0 := cellG hgrow11 (show w.heap.size < w10.heap.size by omega) (fun e => by have := own_block HO10.out _ e.symm; omega) k0
                have l1 := cellG hgrow11 (show w.heap.size < w10.heap.size by omega) (fun e => by have := own_block HO10.out _ e.symm; omega) k1
                have z11 : w.heap.size < w11.heap.size := by have := hgrow11.size; omega
                have HW11 : Hid (w11.ownsRow (w.heap.size + 1) 52 4 (.slice (some ⟨gn, 0, none⟩) (O.length + 1) cn) (insP O (p1, p2, p3, p4)).length (flatP (insP O (p1, p2, p3, p4)))) := Lib.hid (by rw [insP_len]; exact ownMono hown11' (by omega))
                clear hown11 hown11' hgrow11 HO10 HR10 HB10 k0 k1
                go_wp2
                go_roundg g
                case measure => omega
                case rel => exact ⟨k + 1, insP O (p1, p2, p3, p4), gn, cn, by omega, by go_num, by rw [insP_len], HE, HW11, HB11, z11, l0, l1⟩
              · go_wp2_with fail
                refine wp_region_any (by kernel_rfl) ?_
                try (change wpAny _ _ _ _ _ _ _ (World.drew _))
                refine wpAny_take (i := 0) (v := ?_) rfl (by kernel_rfl) (by kernel_rfl) (by kernel_rfl) (fun _ _ _ h => h) (Or.inl ⟨by kernel_rfl, ?_⟩) ?_
                rotate_left
                · intro w; first | (go_simp; done) | (go_simp; with_reducible rfl)
                refine wpAny_take (i := 1) (v := ?_) rfl (by kernel_rfl) (by kernel_rfl) (by kernel_rfl) (fun _ _ _ h => h) (Or.inl ⟨by kernel_rfl, ?_⟩) ?_
                rotate_left
                · intro w; first | (go_simp; done) | (go_simp; with_reducible rfl)
                refine wpAny_take (i := 2) (v := ?_) rfl (by kernel_rfl) (by kernel_rfl) (by kernel_rfl) (fun _ _ _ h => h) (Or.inl ⟨by kernel_rfl, ?_⟩) ?_
                rotate_left
                · intro w; first | (go_simp; done) | (go_simp; with_reducible rfl)
                refine wpAny_take (i := 5) (v := ?_) rfl (by kernel_rfl) (by kernel_rfl) (by kernel_rfl) (fun _ _ _ h => h) (Or.inl ⟨by kernel_rfl, ?_⟩) ?_
                rotate_left
                · intro w; first | (go_simp; done) | (go_simp; with_reducible rfl)
                refine wpAny_take (i := 6) (v := ?_) rfl (by kernel_rfl) (by kernel_rfl) (by kernel_rfl) (fun _ _ _ h => h) (Or.inl ⟨by kernel_rfl, ?_⟩) ?_
                rotate_left
                · intro w; first | (go_simp; done) | (go_simp; with_reducible rfl)
                refine wpAny_take (i := 7) (v := ?_) rfl (by kernel_rfl) (by kernel_rfl) (by kernel_rfl) (fun _ _ _ h => h) (Or.inl ⟨by kernel_rfl, ?_⟩) ?_
                rotate_left
                · intro w; first | (go_simp; done) | (go_simp; with_reducible rfl)
                refine wpAny_ready (rs := [3]) (by kernel_rfl) (by simp) ?_
                refine AllReady.cons rfl (fun K hK => ?_) AllReady.nil
                go_simp
                refine hK _ _ ?_
                clear hK K
                refine wpAny_ready (rs := [4]) (by kernel_rfl) (by simp) ?_
                refine AllReady.cons rfl (fun K hK => ?_) AllReady.nil
                go_simp
                refine hK _ _ ?_
                clear hK K
                refine wpAny_ready (rs := [8]) (by kernel_rfl) (by simp) ?_
                refine AllReady.cons rfl (fun K hK => ?_) AllReady.nil
                refine step_append_at _ rfl (.tmp 46) (.tmp 49) 47 rfl wc.heap.size 52 i0 (.agg #[.int .i64 0, .int .i64 0, .int .i64 0, .int .i64 0]) 4 32 Try.underlying47 hi hz0 hz1 hz2 rfl (by decide) (.slice (some ⟨wc.heap.size, 0, none⟩) 1 1) 1 [.int .i64 p1, .int .i64 p2, .int .i64 p3, .int .i64 p4] rfl ⟨rfl, .inr ⟨wc.heap.size, 1, #[.int .i64 p1, .int .i64 p2, .int .i64 p3, .int .i64 p4], rfl, Nat.le_refl _, heap_alloc_new wc (.cells #[.int .i64 p1, .int .i64 p2, .int .i64 p3, .int .i64 p4] 52), by omega, by unfold maxLen; omega, rfl, rfl⟩⟩ _ _ _ (flatP (O.drop j)) rfl ?r1 ?r2 ?r3 ?r4 ?r5 ?r6 ?_
                case r1 => have e := flatP_len (O.drop j); rw [List.length_drop] at e; omega
                case r2 => exact news_of_row (show World.ownsRow ((wc.alloc (.cells #[.int .i64 p1, .int .i64 p2, .int .i64 p3, .int .i64 p4] 52)).drew) (w.heap.size + 1) 52 4 (.slice (some ⟨b, 0, none⟩) O.length c) O.length (flatP O) from World.ownsRow.alloc HWc.out _) (j * 4) _ (fun i u hu => by rw [flatP_drop, List.getElem?_drop] at hu; exact hu)
                case r3 => exact flatP_one _
                case r4 => unfold maxLen; omega
                case r5 => omega
                case r6 => simp
                intro v9 w9 hown9 hgrow9
                refine hK _ _ ?_
                clear hK K
                refine wpAny_take (i := 9) (v := ?_) rfl (by kernel_rfl) (by kernel_rfl) (by kernel_rfl) (fun _ _ _ h => h) (Or.inl ⟨by kernel_rfl, ?_⟩) ?_
                rotate_left
                · intro w; first | (go_simp; done) | (go_simp; with_reducible rfl)
                refine wpAny_done (by kernel_rfl) ?_ _
                have hown9' : w9.ownsRow wc.heap.size 52 4 v9 (O.length - j + 1) (flatP ((p1, p2, p3, p4) :: O.drop j)) := by
                  have e0 : O.length - j + 1 = 1 + (O.length - j) := by omega
                  rw [e0]
                  exact hown9
                obtain ⟨gr, cr, rfl⟩ := ownsRow_succ hown9'
                have hgr : wc.heap.size ≤ gr := own_block hown9' gr rfl
                have hgl : gr < w9.heap.size := own_lt hown9' gr rfl
                have HR9 := Lib.hid hown9'
                have hs9 : wc.heap.size < w9.heap.size := by have := hgrow9.size; simp at this; omega
                have HW9 : Hid (w9.ownsRow (w.heap.size + 1) 52 4 (.slice (some ⟨b, 0, none⟩) O.length c) O.length (flatP O)) := Lib.hid (ownFar (show World.ownsRow ((wc.alloc (.cells #[.int .i64 p1, .int .i64 p2, .int .i64 p3, .int .i64 p4] 52)).drew) (w.heap.size + 1) 52 4 (.slice (some ⟨b, 0, none⟩) O.length c) O.length (flatP O) from World.ownsRow.alloc HWc.out _) hgrow9 (fun j e => by simp [Value.ownBlock] at e ⊢; omega))
                have HB9 : Hid (Below w.heap.size w w9) := Lib.hid ((belowAlloc HBc.out (.cells #[.int .i64 p1, .int .i64 p2, .int .i64 p3, .int .i64 p4] 52)).drew.grown hgrow9 (by simp; omega) (fun j e => by simp [Value.ownBlock] at e; omega))
                have h0 := cellG hgrow9 (show w.heap.size < (wc.alloc (.cells #[.int .i64 p1, .int .i64 p2, .int .i64 p3, .int .i64 p4] 52)).drew.heap.size by simp; omega) (fun e => by simp [Value.ownBlock] at e; omega) (cellThru (w1 := (wc.alloc (.cells #[.int .i64 p1, .int .i64 p2, .int .i64 p3, .int .i64 p4] 52)).drew) (belowAlloc (Below.refl _ _) _).drew zc e0)
                have h1 := cellG hgrow9 (show w.heap.size < (wc.alloc (.cells #[.int .i64 p1, .int .i64 p2, .int .i64 p3, .int .i64 p4] 52)).drew.heap.size by simp; omega) (fun e => by simp [Value.ownBlock] at e; omega) (cellThru (w1 := (wc.alloc (.cells #[.int .i64 p1, .int .i64 p2, .int .i64 p3, .int .i64 p4] 52)).drew) (belowAlloc (Below.refl _ _) _).drew zc e1)
                have hcO2 : j ≤ c := by omega
                clear hown9 hown9' hgrow9 s0 s1 s2 s3 e0 e1 HWc HBc hgc
                go_wp2_with (at_builtin; refine wpList_append_own_at _ rfl _ _ 47 rfl wc.heap.size 52 i0 (.agg #[.int .i64 0, .int .i64 0, .int .i64 0, .int .i64 0]) 4 32 Try.underlying47 hi hz0 hz1 hz2 rfl (by decide) (.slice (some ⟨w9.heap.size, 0, none⟩) 0 0) 0 [] rfl ⟨rfl, .inr ⟨w9.heap.size, 0, #[], rfl, Nat.le_of_lt hs9, heap_alloc_new w9 (.cells #[] 52), by omega, by unfold maxLen; omega, rfl, rfl⟩⟩ ⟨b, 0, none⟩ j _ (flatP (O.take j)) rfl ?r1 ?r2 ?r3 ?r4 ?r5 ?r6 ?_)
                case r1 => have e := flatP_len (O.take j); rw [List.length_take] at e; omega
                case r2 => exact news_of_row (World.ownsRow.alloc HW9.out _) 0 _ (fun i u hu => by rw [flatP_take] at hu; rw [Nat.zero_add]; rw [List.getElem?_take] at hu; split at hu; exact hu; cases hu)
                case r3 => exact flatP_one _
                case r4 => unfold maxLen; omega
                case r5 => omega
                case r6 => simp; omega
                intro v10 w10 hown10 hgrow10 _ _
                have HR10 : Hid (w10.ownsRow wc.heap.size 52 4 (.slice (some ⟨gr, 0, none⟩) (O.length - j + 1) cr) (O.length - j + 1) (flatP ((p1, p2, p3, p4) :: O.drop j))) := Lib.hid (ownFar (World.ownsRow.alloc HR9.out (.cells #[] 52)) hgrow10 (fun j e => by simp [Value.ownBlock] at e ⊢; omega))
                have HB10 : Hid (Below w.heap.size w w10) := Lib.hid ((belowAlloc HB9.out (.cells #[] 52)).grown hgrow10 (by simp; omega) (fun j e => by simp [Value.ownBlock] at e; omega))
                have k0 := cellG hgrow10 (show w.heap.size < (w9.alloc (.cells #[] 52)).heap.size by simp; omega) (fun e => by simp [Value.ownBlock] at e; omega) (cellThru (belowAlloc (Below.refl _ _) _) (by omega) h0)
                have k1 := cellG hgrow10 (show w.heap.size < (w9.alloc (.cells #[] 52)).heap.size by simp; omega) (fun e => by simp [Value.ownBlock] at e; omega) (cellThru (belowAlloc (Below.refl _ _) _) (by omega) h1)
                have hs10 : wc.heap.size < w10.heap.size := by have := hgrow10.size; simp at this; omega
                have HO10 := Lib.hid hown10
                clear hown10 hgrow10 HR9 HW9 HB9 h0 h1
                go_wp2_with (at_builtin; refine wpList_append_own_at _ rfl _ _ 47 rfl wc.heap.size 52 i0 (.agg #[.int .i64 0, .int .i64 0, .int .i64 0, .int .i64 0]) 4 32 Try.underlying47 hi hz0 hz1 hz2 rfl (by decide) v10 j (flatP (O.take j)) rfl HO10.out ⟨gr, 0, none⟩ _ _ (flatP ((p1, p2, p3, p4) :: O.drop j)) rfl ?r1 ?r2 ?r3 ?r4 ?r5 ?r6 ?_)
                case r1 => have e := flatP_len ((p1, p2, p3, p4) :: O.drop j); rw [List.length_cons, List.length_drop] at e; omega
                case r2 => exact news_of_row HR10.out 0 _ (fun i u hu => by rw [Nat.zero_add]; exact hu)
                case r3 => exact flatP_one _
                case r4 => unfold maxLen; omega
                case r5 => omega
                case r6 => omega
                intro v11 w11 hown11 hgrow11 _ _
                have hown11' : w11.ownsRow wc.heap.size 52 4 v11 (O.length + 1) (flatP (insP O (p1, p2, p3, p4))) := by
                  have e1 : j + (O.length - j + 1) = O.length + 1 := by omega
                  have e2 : flatP (O.take j) ++ flatP ((p1, p2, p3, p4) :: O.drop j) = flatP (insP O (p1, p2, p3, p4)) := by unfold insP; rw [HLs.out, flatP_app]
                  rw [e1, e2] at hown11
                  exact hown11
                obtain ⟨gn, cn, rfl⟩ := ownsRow_succ hown11'
                have HB11 : Hid (Below w.heap.size w w11) := Lib.hid (HB10.out.grown hgrow11 (by omega) (fun j e => by have := own_block HO10.out j e; omega))
                have l0 := cellG hgrow11 (show w.heap.size < w10.heap.size by omega) (fun e => by have := own_block HO10.out _ e.symm; omega) k0
                have l1 := cellG hgrow11 (show w.heap.size < w10.heap.size by omega) (fun e => by have := own_block HO10.out _ e.symm; omega) k1
                have z11 : w.heap.size < w11.heap.size := by have := hgrow11.size; omega
                have HW11 : Hid (w11.ownsRow (w.heap.size + 1) 52 4 (.slice (some ⟨gn, 0, none⟩) (O.length + 1) cn) (insP O (p1, p2, p3, p4)).length (flatP (insP O (p1, p2, p3, p4)))) := Lib.hid (by rw [insP_len]; exact ownMono hown11' (by omega))
                clear hown11 hown11' hgrow11 HO10 HR10 HB10 k0 k1
                go_wp2
                go_roundg g
                case measure => omega
                case rel => exact ⟨k + 1, insP O (p1, p2, p3, p4), gn, cn, by omega, by go_num, by rw [insP_len], HE, HW11, HB11, z11, l0, l1⟩
            · obtain ⟨q, hq, hlq⟩ := HQ.out.1 rfl
              have hjl : j < O.length := (List.getElem?_eq_some_iff.1 hq).1
              obtain ⟨g2, rfl⟩ : ∃ g2, gk = g2 + 1 := ⟨gk - 1, by omega⟩
              have HJ2 : Hid (∀ i, i < j + 1 → ∀ q, O[i]? = some q → lowLt q (p1, p2, p3, p4) = true) := Lib.hid (fun i h q' hq' => by
                by_cases hij : i = j
                · subst hij
                  rw [hq] at hq'
                  injection hq' with e
                  rw [← e]; exact hlq
                · exact HJ.out i (by omega) q' hq')
              have HB2 := Lib.hid B2
              clear HQ hq hlq B2 a0 a1 hg2 hb2
              go_wp2
              go_roundg g2
              case measure => omega
              case rel => exact ⟨j + 1, by omega, by go_num, HJ2, HB2⟩
end Go.Proofs.Ytfakkibacepdeaa

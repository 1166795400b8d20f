/-
  Contracts: PolygonOf, on the program's side.
-/
import Derived.Test.YtkpgfafmaoaefaaYS
import Derived.Test.YtkpgfafmaoaefaaYT
import Derived.Laws.Cover3
namespace Go.Proofs.Ytkpgfafmaoaefaa
open Go.RowKit

/-- What sorting and compacting makes of the sides. -/
theorem cA_inj {l : List (Int × Int)} (ha : allAng l = true) (hs : AscJ l) {i j : Nat} (hi : i < l.length) (hj : j < l.length) (e : cAt l i = cAt l j) : i = j := by
  rcases Nat.lt_trichotomy i j with h | h | h
  · have := asc_pairs ha hs i j _ _ h (cAt_some hi) (cAt_some hj)
    have e' : ((cAt l i).1, (cAt l i).2) = ((cAt l j).1, (cAt l j).2) := by rw [e]
    rw [e', lessA_self] at this
    cases this
  · exact h
  · have := asc_pairs ha hs j i _ _ h (cAt_some hj) (cAt_some hi)
    have e' : ((cAt l i).1, (cAt l i).2) = ((cAt l j).1, (cAt l j).2) := by rw [e]
    rw [e', lessA_self] at this
    cases this
theorem side_ne {l : List (Int × Int)} (ha : allAng l = true) (hs : AscJ l) (h3 : 3 ≤ l.length) {i j : Nat} (hij : i < j) (hj : j < l.length) : sideL l i ≠ sideL l j := by
  intro e
  obtain ⟨e1, -⟩ := side_in ha hs (i := i) (by omega)
  by_cases hl : j + 1 < l.length
  · obtain ⟨e2, -⟩ := side_in ha hs hl
    rw [e1, e2] at e
    simp only [Prod.mk.injEq] at e
    have := cA_inj ha hs (i := i) (j := j) (by omega) hj (Prod.ext e.1 e.2.1)
    omega
  · obtain ⟨e2, -⟩ := side_last ha hs (i := j) (by omega) (by omega)
    rw [e1, e2] at e
    simp only [Prod.mk.injEq] at e
    have a := cA_inj ha hs (i := i) (j := 0) (by omega) (by omega) (Prod.ext e.1 e.2.1)
    have b := cA_inj ha hs (i := i + 1) (j := j) (by omega) hj (Prod.ext e.2.2.1 e.2.2.2)
    omega
theorem poly_nd {l : List (Int × Int)} (ha : allAng l = true) (hs : AscJ l) (h3 : 3 ≤ l.length) : (polyL l).Nodup := by
  refine List.pairwise_iff_getElem.2 fun i j hi hj hij => ?_
  rw [poly_len] at hi hj
  have a := poly_at hi
  have b := poly_at hj
  rw [List.getElem?_eq_getElem (by rw [poly_len]; exact hi)] at a
  rw [List.getElem?_eq_getElem (by rw [poly_len]; exact hj)] at b
  injection a with a
  injection b with b
  rw [a, b]
  exact side_ne ha hs h3 hij hj
theorem poly_two {l : List (Int × Int)} (ha : allAng l = true) (hs : AscJ l) (h2 : l.length = 2) : polyL l = [sideL l 0, sideL l 0] := by
  obtain ⟨e1, -⟩ := side_in ha hs (i := 0) (by omega)
  obtain ⟨e2, -⟩ := side_last ha hs (i := 1) (by omega) (by omega)
  have : sideL l 1 = sideL l 0 := by rw [e1, e2]
  unfold polyL
  rw [h2]
  show [sideL l 0, sideL l 1] = _
  rw [this]

set_option maxHeartbeats 1000000 in
theorem implPoly1 (A : Option Addr) (len cap : Nat) (l : List (Int × Int)) (w : World) (hr : AngRow w w.heap.size A l) (hl : l.length = len) (hm : len ≤ 1100000) (h : allAng l = false) :
    Calls Try.prog 50 #[.slice A len cap] w (ResLf w [] 1) := by
  have HA := Lib.hid (areAng A len cap l w hr hl (by omega))
  rw [h] at HA
  clear hr hl h
  go_enter Try.func50, Try.ntmps50
  go_wp2_with fail
  refine HA.out.mono ?_
  rintro e w1 ⟨rfl, hb1⟩
  go_wp2
  go_ret2
  exact ⟨none, 0, rfl, lfOwn_nil, hb1⟩

set_option maxHeartbeats 1000000 in
theorem implPoly2 (A : Option Addr) (len cap : Nat) (l : List (Int × Int)) (w : World) (hr : AngRow w w.heap.size A l) (hl : l.length = len) (hm : len ≤ 1100000) (h : allAng l = true) (h2 : len < 2 ∨ 200 < len ∨ ¬ AscJ l) :
    Calls Try.prog 50 #[.slice A len cap] w (ResLf w [] 2) := by
  have HA := Lib.hid (areAng A len cap l w hr hl (by omega))
  rw [h] at HA
  have HAs := Lib.hid (fun W (hB : Below w.heap.size w W) => implAsc A len cap l W ((hr.below hB).more hB.size) hl (by omega) h)
  clear hr hl h
  by_cases ha : len < 2
  · have hI : ((len : Int) < 2) := by omega
    go_enter Try.func50, Try.ntmps50
    go_wp2_with fail
    refine HA.out.mono ?_
    rintro e w1 ⟨rfl, hb1⟩
    go_wp2
    go_ret2
    exact ⟨none, 0, rfl, lfOwn_nil, hb1⟩
  · by_cases hb : 200 < len
    · have hI : ¬ ((len : Int) < 2) := by omega
      have hI2 : ((200 : Int) < (len : Int)) := by omega
      go_enter Try.func50, Try.ntmps50
      go_wp2_with fail
      refine HA.out.mono ?_
      rintro e w1 ⟨rfl, hb1⟩
      go_wp2
      go_ret2
      exact ⟨none, 0, rfl, lfOwn_nil, hb1⟩
    · have hI : ¬ ((len : Int) < 2) := by omega
      have hI2 : ¬ ((200 : Int) < (len : Int)) := by omega
      have HN : Hid (¬ AscJ l) := Lib.hid (by
        rcases h2 with h2 | h2 | h2
        · omega
        · omega
        · exact h2)
      clear h2
      go_enter Try.func50, Try.ntmps50
      go_wp2_with fail
      refine HA.out.mono ?_
      rintro e w1 ⟨rfl, hb1⟩
      go_wp2_with fail
      refine (HAs.out _ hb1).mono ?_
      rintro e w2 ⟨⟨r, rfl, HQ⟩, hb2⟩
      obtain rfl : r = false := by
        cases r
        · rfl
        · exact absurd (HQ.out.1 rfl) HN.out
      have B2 : Below w.heap.size w w2 := belowNext hb1 hb2
      go_wp2
      go_ret2
      exact ⟨none, 0, rfl, lfOwn_nil, B2⟩

theorem ins_two (p : Lf4) : insAllL [p, p] = [p] := by
  have e0 : insL [] p = [p] := rfl
  have hl : lessNL [p] p = 0 := lessNL_stop (k := 0) (by simp) (fun j h => absurd h (by omega)) (q := p) rfl (lessX_self p)
  have e1 : insL [p] p = [p] := insL_old (by rw [hl]; rfl)
  show insL (insL [] p) p = _
  rw [e0, e1]
theorem perm_two {l' : List Lf4} {p : Lf4} (h : l'.Perm [p, p]) : l' = [p, p] := by
  have h2 : l'.Perm (List.replicate 2 p) := h
  exact List.perm_replicate.1 h2
theorem AngRow.takeY {w : World} {B : Nat} {A : Option Addr} {l : List (Int × Int)} (h : AngRow w B A l) (i : Nat) : AngRow w B A (l.take i) := by
  intro hn
  obtain ⟨b, off, e, hb, hc⟩ := h (fun h0 => hn (by rw [h0]; simp))
  refine ⟨b, off, e, hb, fun j n d hj => hc j n d ?_⟩
  by_cases hh : j < i
  · rw [List.getElem?_take_of_lt hh] at hj; exact hj
  · rw [List.getElem?_eq_none (by simp; omega)] at hj; cases hj
theorem concTwo (b0 off len cap g : Nat) (l : List (Int × Int)) (w : World) (hr : AngRow w w.heap.size (some ⟨b0, off, none⟩) l) (hl : l.length = len) (h2 : 2 ≤ len) (h200 : len ≤ 200) (x0 : w.cell? ⟨g, 0, none⟩ = some (.slice (some ⟨b0, off, none⟩) len cap)) (x1 : w.cell? ⟨g, 1, none⟩ = some (.slice (some ⟨b0, off, none⟩) 1 cap)) (hg : g < w.heap.size) :
    Calls Try.prog 107 #[.slice (some ⟨g, 0, none⟩) 2 2] w fun e w' => ∃ b c, e = .returned (.slice (some ⟨b, 0, none⟩) (len + 1) c) ∧ w'.ownsRow w.heap.size 29 2 (.slice (some ⟨b, 0, none⟩) (len + 1) c) (len + 1) (flatA (l ++ l.take 1)) ∧ Below w.heap.size w w' := by
  have e2 : accA (fun k => if k = 0 then l else l.take 1) 2 = l ++ l.take 1 := by simp [accA]
  have hlen2 : (l ++ l.take 1).length = len + 1 := by rw [List.length_append, List.length_take, hl]; omega
  have := concatA 2 g (fun k => if k = 0 then .slice (some ⟨b0, off, none⟩) len cap else .slice (some ⟨b0, off, none⟩) 1 cap) (fun k => if k = 0 then l else l.take 1) w (fun k hk => by
      match k, hk with
      | 0, _ => exact ⟨some ⟨b0, off, none⟩, cap, by simp [hl], hr, by simp⟩
      | 1, _ => exact ⟨some ⟨b0, off, none⟩, cap, by rw [show ((fun k => if k = 0 then l else l.take 1) 1).length = 1 by simp [hl]; omega]; rfl, hr.takeY 1, by simp⟩) (fun k hk => by
      match k, hk with
      | 0, _ => exact x0
      | 1, _ => exact x1) hg (by omega) (fun k hk => by
      match k, hk with
      | 0, _ => simp [accA]
      | 1, _ => simp [accA, hl]; omega
      | 2, _ => rw [e2, hlen2]; omega) (by rw [e2, hlen2]; omega)
  rw [e2, hlen2] at this
  exact this

set_option maxRecDepth 100000 in
set_option maxHeartbeats 4000000 in
theorem implPoly3 (A : Option Addr) (len cap : Nat) (l : List (Int × Int)) (w : World) (hr : AngRow w w.heap.size A l) (hl : l.length = len) (hcap : len ≤ cap) (h2 : 2 ≤ len) (h200 : len ≤ 200) (ha : allAng l = true) (hs : AscJ l) :
    Calls Try.prog 50 #[.slice A len cap] w (ResLf w (insAllL (polyL l)) 0) := by
  have HA := Lib.hid (areAng A len cap l w hr hl (by omega))
  rw [ha] at HA
  have HAs := Lib.hid (fun W (hB : Below w.heap.size w W) => implAsc A len cap l W ((hr.below hB).more hB.size) hl (by omega) ha)
  have HS := Lib.hid hs
  have HAl := Lib.hid ha
  have HR := Lib.hid hr
  have HL := Lib.hid hl
  have hI : ((len : Int) < 2) = False := by simp; omega
  have hI2 : ((200 : Int) < (len : Int)) = False := by simp; omega
  obtain ⟨b0, off, rfl, hb0, _⟩ := hr (by rintro rfl; simp at hl; omega)
  clear hr hl ha hs
  have hc1 : 1 ≤ cap := by omega
  go_enter Try.func50, Try.ntmps50
  go_wp2_with fail
  refine HA.out.mono ?_
  rintro e w1 ⟨rfl, hb1⟩
  go_wp2_with fail
  refine (HAs.out _ hb1).mono ?_
  rintro e w2 ⟨⟨r, rfl, HQ⟩, hb2⟩
  obtain rfl : r = true := HQ.out.2 HS.out
  have B2 : Below w.heap.size w w2 := belowNext hb1 hb2
  clear hb1 hb2 HQ HA HAs
  go_wp2_with fail
  have HCt := Lib.hid (concTwo b0 off len cap w2.heap.size l (w2.alloc (.cells #[.slice (some ⟨b0, off, none⟩) len cap, .slice (some ⟨b0, off, none⟩) 1 cap] 60)) (HR.out.below (belowAlloc B2 _) |>.more (belowAlloc B2 _).size) HL.out h2 h200 (by simp [go_sem]) (by simp [go_sem]) (by simp))
  refine HCt.out.mono ?_
  rintro e w3 ⟨b3, c3, rfl, ho3, hb3⟩
  have B3 : Below w.heap.size w w3 := belowNext (belowAlloc B2 _) hb3
  have HG := Lib.hid (ownA_of (show (l ++ l.take 1).length = len + 1 by rw [List.length_append, List.length_take, HL.out]; omega) ho3)
  have hcp : len + 1 ≤ c3 := ownsCapL ho3
  have hb3w : b3 < w3.heap.size := own_ltL ho3 b3 rfl
  have HCe : Hid (∀ k, k < len → (w3.cell? ⟨b3, k * 2, none⟩ = some (.int .i64 (cAt l k).1) ∧ w3.cell? ⟨b3, k * 2 + 1, none⟩ = some (.int .i64 (cAt l k).2)) ∧ w3.cell? ⟨b3, k * 2 + 2, none⟩ = some (.int .i64 (cAt l ((k + 1) % len)).1) ∧ w3.cell? ⟨b3, k * 2 + 3, none⟩ = some (.int .i64 (cAt l ((k + 1) % len)).2)) := Lib.hid (by
    obtain ⟨b', off', e, _, _, hc⟩ := HG.out (by intro e; rw [List.append_eq_nil_iff] at e; have := HL.out; rw [e.1] at this; simp at this; omega)
    injection e with e
    injection e with e1 e2
    subst e1 e2
    intro k hk
    have hkl : k < l.length := by have := HL.out; omega
    obtain ⟨a0, a1, -, -⟩ := hc k (cAt l k).1 (cAt l k).2 (by rw [List.getElem?_append_left hkl]; exact cAt_some hkl)
    obtain ⟨a2, a3, -, -⟩ := hc (k + 1) (cAt l ((k + 1) % len)).1 (cAt l ((k + 1) % len)).2 (by
      by_cases h : k + 1 < len
      · rw [Nat.mod_eq_of_lt h, List.getElem?_append_left (by have := HL.out; omega)]
        exact cAt_some (by have := HL.out; omega)
      · have e : k + 1 = len := by omega
        rw [e, Nat.mod_self, List.getElem?_append_right (by have := HL.out; omega), HL.out, Nat.sub_self]
        rw [List.getElem?_take_of_lt (by omega)]
        exact cAt_some (by have := HL.out; omega))
    rw [show 0 + (k + 1) * 2 = k * 2 + 2 by omega] at a2 a3
    rw [Nat.zero_add] at a0 a1
    exact ⟨⟨a0, a1⟩, a2, a3⟩)
  obtain ⟨i0, hi, hz0, hz1, hz2⟩ := infoL_parts infoLf
  clear HCt ho3 hb3 HG B2
  go_wp2_with fail
  clear hI hI2
  go_loopg [5, 31] len (fun g s5 s31 wr => ∃ (k : Nat) (O : List Lf4) (A' : Option Addr) (cap' : Nat), k + g = len ∧ s31 = .int .i64 k ∧ s5 = .slice A' O.length cap' ∧ Hid (O = (polyL l).take k) ∧ Hid (wr.ownsRow w3.heap.size 31 4 (.slice A' O.length cap') O.length (flatL O)) ∧ Hid (Below w3.heap.size w3 wr))
  case atStart => exact ⟨0, [], none, 0, by omega, rfl, rfl, Lib.hid rfl, Lib.hid own_noneL, Lib.hid (Below.refl _ _)⟩
  case round =>
    obtain ⟨k, O, A', cap', hkg, rfl, rfl, HO, HW, HB⟩ := hrel
    cases gk with
    | zero =>
      obtain rfl : k = len := by omega
      have HOl : Hid (O.length = k) := Lib.hid (by rw [HO.out, List.length_take, poly_len, HL.out]; omega)
      have HOe : Hid (O = polyL l) := Lib.hid (by rw [HO.out, List.take_of_length_le]; rw [poly_len, HL.out]; exact Nat.le_refl _)
      have HLf := Lib.hid (poly_lf HAl.out HS.out (by have := HL.out; omega))
      go_wp2_with fail
      refine (implSortLf w3.heap.size A' O.length cap' O wr HW.out rfl (fun p hp => HLf.out p (by rw [← HOe.out]; exact hp)) (by have := HOl.out; omega)).mono ?_
      rintro e w5 ⟨rfl, H5⟩
      obtain ⟨l', hp, hss, ho5, hb5⟩ := H5.out
      have hll : l'.length = O.length := hp.length_eq
      have B5 : Below w.heap.size w w5 := B3.trans ((HB.out.trans hb5).mono B3.size)
      have hO := HOe.out
      have hOl := HOl.out
      have hLf := HLf.out
      clear HOe HOl HLf
      by_cases h3 : 3 ≤ k
      · have hnd : l'.Nodup := hp.nodup_iff.2 (by rw [hO]; exact poly_nd HAl.out HS.out (by have := HL.out; omega))
        have hE : l' = insAllL (polyL l) := sort_sameL hLf (fun q => by rw [hp.mem_iff, hO]) hnd hss
        have HCn := Lib.hid (compNo A' O.length cap' l' w5 (rowL_of hll ho5) hll (by omega) (fun i x y hx hy e => by
          obtain ⟨hi', rfl⟩ := List.getElem?_eq_some_iff.1 hx
          obtain ⟨hj', rfl⟩ := List.getElem?_eq_some_iff.1 hy
          exact (List.pairwise_iff_getElem.1 hnd) i (i + 1) hi' hj' (by omega) e))
        have HOw := Lib.hid ((ownL_of hll ho5).loY (lo' := w.heap.size) B3.size)
        have HLn := Lib.hid hll
        subst hE
        clear hp hss ho5 hb5 hll hnd hLf hO H5 HW HB hOl
        go_wp2_with fail
        refine HCn.out.mono ?_
        rintro e w6 ⟨rfl, hb6⟩
        have B6 : Below w.heap.size w w6 := belowNext B5 hb6
        have HO6 := Lib.hid (HOw.out.next hb6)
        clear hb6
        go_wp2
        go_ret2
        exact ⟨A', cap', by rw [HLn.out]; rfl, HO6.out, B6⟩
      · have hk2 : k = 2 := by omega
        have hl2 : l.length = 2 := by have := HL.out; omega
        have hPt := poly_two HAl.out HS.out hl2
        obtain ⟨⟨p1, p2, p3, p4⟩, hsd⟩ : ∃ s, sideL l 0 = s := ⟨_, rfl⟩
        rw [hsd] at hPt
        have hE : l' = [(p1, p2, p3, p4), (p1, p2, p3, p4)] := by
          rw [hO, hPt] at hp
          exact perm_two hp
        have hI1 : insAllL (polyL l) = [(p1, p2, p3, p4)] := by
          rw [hPt]; exact ins_two _
        have hO2 : O.length = 2 := by omega
        rw [hO2] at ho5 hll
        have HI1 := Lib.hid hI1
        obtain ⟨g5, c5, hv, hlo5, hg5⟩ := ho5.form (by omega)
        obtain ⟨rfl, rfl⟩ : A' = some ⟨g5, 0, none⟩ ∧ cap' = c5 := by injection hv with hA hn hc; exact ⟨hA, hc⟩
        have hc5 : 2 ≤ cap' := ownsCapL ho5
        subst hE
        have HCn := Lib.hid (compTwo g5 cap' w.heap.size p1 p2 p3 p4 w5 ((ownL_of hll ho5).loY B3.size) hc5)
        rw [hO2]
        clear hp hss ho5 hb5 hll hLf hO H5 HW HB hOl hPt hsd hI1 hv hlo5 hg5 hc5 hO2 hl2 hk2
        go_wp2_with fail
        refine HCn.out.mono ?_
        rintro e w6 ⟨rfl, H6⟩
        have B6 : Below w.heap.size w w6 := B5.trans H6.out.2
        go_wp2
        go_ret2
        exact ⟨some ⟨g5, 0, none⟩, cap', by rw [HI1.out]; rfl, by rw [HI1.out]; exact H6.out.1, B6⟩
    | succ g =>
      have hlt : k < len := by omega
      obtain ⟨⟨a0, a1⟩, a2, a3⟩ := HCe.out k hlt
      have a0 := cellThru HB.out hb3w a0
      have a1 := cellThru HB.out hb3w a1
      have a2 := cellThru HB.out hb3w a2
      have a3 := cellThru HB.out hb3w a3
      have hkc : k + 2 ≤ c3 := by omega
      have hkl : k < l.length := by have := HL.out; omega
      obtain ⟨j, hj⟩ : ∃ j, (k + 1) % len = j := ⟨_, rfl⟩
      have hjl : j < l.length := by rw [← hj, HL.out]; exact Nat.mod_lt _ (by omega)
      rw [hj] at a2 a3
      have hp := cAt_ang HAl.out hkl
      have hp' := cAt_ang HAl.out hjl
      have hsd := side_lf HAl.out HS.out hkl (by have := HL.out; omega)
      have HAt := Lib.hid (poly_at hkl)
      have hs0 : sideL l k = lf4 (cAt l k).1 (cAt l k).2 (cAt l j).1 (cAt l j).2 := by unfold sideL; rw [HL.out, hj]
      have HLB := Lib.hid (fun w => implLB (cAt l k).1 (cAt l k).2 (cAt l j).1 (cAt l j).2 w (isAng_ok hp) (isAng_ok hp'))
      obtain ⟨⟨p1, p2, p3, p4⟩, hsp⟩ : ∃ s, sideL l k = s := ⟨_, rfl⟩
      rw [hsp] at hs0 hsd HAt
      obtain ⟨t1, t2, t3, t4⟩ := lf4_eq hs0.symm
      rw [t1, t2, t3, t4] at HLB
      have hOl : O.length ≤ 200 := by rw [HO.out, List.length_take, poly_len, HL.out]; omega
      have HE : Hid (O ++ [(p1, p2, p3, p4)] = (polyL l).take (k + 1)) := Lib.hid (by rw [List.take_add_one, HAt.out, Option.toList_some, HO.out])
      have hat : ∀ W, (Instr.arrayAt 118 (.slice (some ⟨b3, k * 2, none⟩) 2 (c3 - k))).run Try.prog W = .ok (.pointer (some ⟨b3, k * 2, none⟩)) W := fun W => run_arrayAt W 118 _ 2 _ 2 _ Try.underlying118 (by omega)
      have hbw : b3 < wr.heap.size := Nat.lt_of_lt_of_le hb3w HB.out.size
      generalize (cAt l k).1 = n at *
      generalize (cAt l k).2 = d at *
      generalize (cAt l j).1 = m at *
      generalize (cAt l j).2 = c' at *
      clear hkl hj hjl hp hp' hsd hs0 hsp t1 t2 t3 t4
      go_wp2_with fail
      refine (HLB.out _).mono ?_
      rintro e w5 ⟨rfl, hb5⟩
      have B5 : Below wr.heap.size wr w5 := by
        (repeat' (first | (with_reducible exact Below.refl _ _) | (with_reducible assumption) | (with_reducible refine belowNext ?_ (by with_reducible assumption)) | (with_reducible refine belowAlloc ?_ _) | (with_reducible refine Below.drew ?_) | (with_reducible refine below_drewN ?_ _) | (with_reducible refine Below.setCell ?_ ?_ _) | go_size | (with_reducible refine sizeOf' ?_) | (with_reducible refine sizeAdd ?_) | (dsimp only; first | (with_reducible refine sizeOf' ?_) | (with_reducible refine sizeAdd ?_))))
      have HW5 := Lib.hid (ownKeepA HW.out B5)
      have B35 : Below w3.heap.size w3 w5 := belowNext HB.out B5
      clear hb5 a0 a1 a2 a3 hat HLB
      go_wp2_with (at_builtin; refine wpList_append_own_at _ rfl _ _ 26 rfl w3.heap.size 31 i0 (.agg #[.int .i64 0, .int .i64 0, .int .i64 0, .int .i64 0]) 4 32 Try.underlying26 hi hz0 hz1 hz2 rfl (by decide) _ _ _ rfl (World.ownsRow.alloc HW5.out _) ⟨w5.heap.size, 0, none⟩ 1 1 [.int .i64 p1, .int .i64 p2, .int .i64 p3, .int .i64 p4] rfl rfl ?c1 ?c2 ?c3 ?c4 ?c5 ?_)
      case c1 => exact cell_four_newL _ _ _ _ _ _
      case c2 => intro u hu; simp at hu; rcases hu with rfl | rfl | rfl | rfl <;> rfl
      case c3 => unfold maxLen; omega
      case c4 => omega
      case c5 => have := B35.size; simp; omega
      intro v' w7 hown' hgrow _ _
      obtain ⟨gn, capn, rfl⟩ := ownsRow_succ hown'
      have B7 : Below w3.heap.size w3 w7 := (belowAlloc B35 _).grown hgrow (belowAlloc B35 _).size (fun j hj => by have := own_blockL HW5.out j hj; omega)
      have e1 : (O ++ [((p1, p2, p3, p4) : Lf4)]).length = O.length + 1 := by simp
      have HW7 : Hid (w7.ownsRow w3.heap.size 31 4 (.slice (some ⟨gn, 0, none⟩) (O ++ [((p1, p2, p3, p4) : Lf4)]).length capn) (O ++ [((p1, p2, p3, p4) : Lf4)]).length (flatL (O ++ [(p1, p2, p3, p4)]))) := Lib.hid (by rw [e1, flatL_app]; exact hown')
      have HE1 := Lib.hid e1
      have HB7 := Lib.hid B7
      clear hown' hgrow B7 e1 B35 HW5 B5 HW HB
      go_wp2
      go_roundg g
      case measure => omega
      case rel => exact ⟨k + 1, O ++ [(p1, p2, p3, p4)], some ⟨gn, 0, none⟩, capn, by omega, by go_num, by rw [HE1.out], HE, HW7, HB7⟩

theorem implPolygon (A : Option Addr) (len cap : Nat) (l : List (Int × Int)) (w : World) (hr : AngRow w w.heap.size A l) (hl : l.length = len) (hcap : len ≤ cap) (hm : len ≤ 1100000) (R : List Lf4) (C : Int) (h : PoIs l R C) :
    Calls Try.prog 50 #[.slice A len cap] w (ResLf w R C) := by
  rcases h with ⟨h1, rfl, rfl⟩ | ⟨h1, h2, rfl, rfl⟩ | ⟨h1, h2, h3, h4, rfl, rfl⟩
  · exact implPoly1 A len cap l w hr hl hm h1
  · exact implPoly2 A len cap l w hr hl hm h1 (by rw [hl] at h2; exact h2)
  · exact implPoly3 A len cap l w hr hl hcap (by omega) (by omega) h1 h4
end Go.Proofs.Ytkpgfafmaoaefaa

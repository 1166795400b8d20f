/-
  The walk of the law of wakes: its code is drawn from; written by genWW.py.
-/
import Derived.Test.YtnciiodgkanpjaaWKX
import Derived.Test.YtnciiodgkanpjaaRB
namespace Go.Proofs.Ytnciiodgkanpjaa
open Go.RowKit

/-- Cells that a region reads. -/
structure K6 (w : World) (p1 p2 p3 p4 p5 p6 : Addr) (v1 v2 v3 v4 v5 v6 : Value) (W : World) : Prop where
  B : Below w.heap.size w W
  z1 : p1.block < W.heap.size
  z2 : p2.block < W.heap.size
  z3 : p3.block < W.heap.size
  z4 : p4.block < W.heap.size
  z5 : p5.block < W.heap.size
  z6 : p6.block < W.heap.size
  x1 : W.cell? p1 = some v1
  x2 : W.cell? p2 = some v2
  x3 : W.cell? p3 = some v3
  x4 : W.cell? p4 = some v4
  x5 : W.cell? p5 = some v5
  x6 : W.cell? p6 = some v6
theorem K6.on {w W W1 : World} {p1 p2 p3 p4 p5 p6 : Addr} {v1 v2 v3 v4 v5 v6 : Value} (H : K6 w p1 p2 p3 p4 p5 p6 v1 v2 v3 v4 v5 v6 W) (hb : Below W.heap.size W W1) : K6 w p1 p2 p3 p4 p5 p6 v1 v2 v3 v4 v5 v6 W1 := by
  have hs := hb.size
  have := H.z1
  have := H.z2
  have := H.z3
  have := H.z4
  have := H.z5
  have := H.z6
  exact ⟨belowNext H.B hb, by omega, by omega, by omega, by omega, by omega, by omega, (hb.cell H.z1).trans H.x1, (hb.cell H.z2).trans H.x2, (hb.cell H.z3).trans H.x3, (hb.cell H.z4).trans H.x4, (hb.cell H.z5).trans H.x5, (hb.cell H.z6).trans H.x6⟩
/-- Cells that a region reads. -/
structure K10 (w : World) (p1 p2 p3 p4 p5 p6 p7 p8 p9 p10 : Addr) (v1 v2 v3 v4 v5 v6 v7 v8 v9 v10 : Value) (W : World) : Prop where
  B : Below w.heap.size w W
  z1 : p1.block < W.heap.size
  z2 : p2.block < W.heap.size
  z3 : p3.block < W.heap.size
  z4 : p4.block < W.heap.size
  z5 : p5.block < W.heap.size
  z6 : p6.block < W.heap.size
  z7 : p7.block < W.heap.size
  z8 : p8.block < W.heap.size
  z9 : p9.block < W.heap.size
  z10 : p10.block < W.heap.size
  x1 : W.cell? p1 = some v1
  x2 : W.cell? p2 = some v2
  x3 : W.cell? p3 = some v3
  x4 : W.cell? p4 = some v4
  x5 : W.cell? p5 = some v5
  x6 : W.cell? p6 = some v6
  x7 : W.cell? p7 = some v7
  x8 : W.cell? p8 = some v8
  x9 : W.cell? p9 = some v9
  x10 : W.cell? p10 = some v10
theorem K10.on {w W W1 : World} {p1 p2 p3 p4 p5 p6 p7 p8 p9 p10 : Addr} {v1 v2 v3 v4 v5 v6 v7 v8 v9 v10 : Value} (H : K10 w p1 p2 p3 p4 p5 p6 p7 p8 p9 p10 v1 v2 v3 v4 v5 v6 v7 v8 v9 v10 W) (hb : Below W.heap.size W W1) : K10 w p1 p2 p3 p4 p5 p6 p7 p8 p9 p10 v1 v2 v3 v4 v5 v6 v7 v8 v9 v10 W1 := by
  have hs := hb.size
  have := H.z1
  have := H.z2
  have := H.z3
  have := H.z4
  have := H.z5
  have := H.z6
  have := H.z7
  have := H.z8
  have := H.z9
  have := H.z10
  exact ⟨belowNext H.B hb, by omega, by omega, by omega, by omega, by omega, by omega, by omega, by omega, by omega, by omega, (hb.cell H.z1).trans H.x1, (hb.cell H.z2).trans H.x2, (hb.cell H.z3).trans H.x3, (hb.cell H.z4).trans H.x4, (hb.cell H.z5).trans H.x5, (hb.cell H.z6).trans H.x6, (hb.cell H.z7).trans H.x7, (hb.cell H.z8).trans H.x8, (hb.cell H.z9).trans H.x9, (hb.cell H.z10).trans H.x10⟩
theorem eqlAngSame (a b : Int) (W : World) : (binOp .eql 25 (ang a b) (ang a b)).run Try.prog W = .ok (.bool true) W := by simp [go_sem]
theorem hasA_next {l : List (Int × Int)} {k : Nat} {u v a b : Int} (h : l[k]? = some (u, v)) : hasA (l.take (k + 1)) a b = (hasA (l.take k) a b || eqA u v a b) := by
  unfold hasA
  rw [List.take_add_one, h, List.any_append, eqA_swap u v]
  simp
theorem lessYes {a b c d : Int} (h1 : angOk a b) (h2 : angOk c d) (h : ltA a b c d = true) : ∀ w : World, Calls Try.prog 44 #[ang a b, ang c d] w fun e w' => e = .returned (.bool true) ∧ Below w.heap.size w w' := fun w => by
  have := lawLess9 a b c d w h1 h2
  rw [h] at this
  exact this
theorem wkIn {y1 y2 m : Int} {p : Lf4} (hp : p ∈ waL y1 y2 m) : (∀ w : World, Calls Try.prog 44 #[ang p.1 p.2.1, ang y1 y2] w fun e w' => e = .returned (.bool true) ∧ Below w.heap.size w w') ∧ ∀ w : World, Calls Try.prog 44 #[ang y1 y2, ang p.2.2.1 p.2.2.2] w fun e w' => e = .returned (.bool true) ∧ Below w.heap.size w w' := by
  obtain ⟨a, b, c, d⟩ := wa_in hp
  exact ⟨lessYes (ok_low b) a c, lessYes a (okP_uppers b) d⟩
theorem wkNext {y1 y2 m : Int} {i : Nat} {p q : Lf4} (hp : (waL y1 y2 m)[i]? = some p) (hq : (waL y1 y2 m)[i + 1]? = some q) : (∀ w : World, Calls Try.prog 44 #[ang p.1 p.2.1, ang q.1 q.2.1] w fun e w' => e = .returned (.bool true) ∧ Below w.heap.size w w') ∧ ∀ w : World, Calls Try.prog 44 #[ang q.2.2.1 q.2.2.2, ang p.2.2.1 p.2.2.2] w fun e w' => e = .returned (.bool true) ∧ Below w.heap.size w w' := by
  obtain ⟨a, b⟩ := wa_next hp hq
  obtain ⟨_, h1, _, _⟩ := wa_in (List.mem_of_getElem? hp)
  obtain ⟨_, h2, _, _⟩ := wa_in (List.mem_of_getElem? hq)
  exact ⟨lessYes (ok_low h1) (ok_low h2) a, lessYes (okP_uppers h2) (okP_uppers h1) b⟩
theorem wkGood (x y : Int) (hc : poC x y = 0) : (∀ w : World, Calls Try.prog 20 #[ang (poP x y).1 (poP x y).2.1, ang (wiA x y).1 (wiA x y).2] w fun e w' => e = .returned (res3 (poP x y).2.2.1 (poP x y).2.2.2 0) ∧ Below w.heap.size w w') ∧ oC (poP x y).1 (poP x y).2.1 = 0 ∧
    saB x y = hasA (oL (poP x y).1 (poP x y).2.1) (poP x y).2.2.1 (poP x y).2.2.2 ∧ (prC x y = 0 → (∀ w : World, Calls Try.prog 44 #[ang (prP x y).1 (prP x y).2.1, ang (poP x y).1 (poP x y).2.1] w fun e w' => e = .returned (.bool true) ∧ Below w.heap.size w w') ∧ ∀ w : World, Calls Try.prog 44 #[ang (poP x y).2.2.1 (poP x y).2.2.2, ang (prP x y).2.2.1 (prP x y).2.2.2] w fun e w' => e = .returned (.bool true) ∧ Below w.heap.size w w') ∧ (prC x y ≠ 0 → dpN x y = 0) := by
  refine ⟨fun w => ?_, po_orbit hc, by unfold saB; rw [if_pos hc], fun h => ?_, pr_bad hc⟩
  · obtain ⟨e1, e2, e3⟩ := wi_sum hc
    have := implAdd (poP x y).1 (poP x y).2.1 (wiA x y).1 (wiA x y).2 w
    rw [e1, e2, e3] at this
    exact this
  · obtain ⟨a, b, c, d⟩ := pr_good hc h
    exact ⟨lessYes (ok_low a) (ok_low b) c, lessYes (okP_uppers b) (okP_uppers a) d⟩
set_option maxRecDepth 8000 in
set_option maxHeartbeats 8000000 in
theorem lawWakes (A : Option Addr) (n cap : Nat) (w : World) (h : CodeRow w w.heap.size A n) :
    Calls Try.prog 4 #[.slice A n cap] w fun e w' => e = .returned (.bool true) ∧ Below w.heap.size w w' := by
  have HG := Lib.hid (lawBig A n cap w)
  by_cases hn : 4096 < n
  · have dn : decide (4096 < n) = true := decide_eq_true hn
    rw [dn] at HG
    clear h
    go_enter Try.func4, Try.ntmps4
    go_wp2_with fail
    refine HG.out.mono ?_
    rintro e w1 ⟨rfl, rfl⟩
    go_wp2
    go_ret
    exact ⟨rfl, Below.refl _ _⟩
  have dn : decide (4096 < n) = false := decide_eq_false hn
  rw [dn] at HG
  clear dn
  have HB : Hid (Below w.heap.size w w) := Lib.hid (Below.refl _ _)
  have HR := Lib.hid h
  have hn' : n ≤ 4096 := by omega
  have HD1 := Lib.hid (drawWidth A n cap w h hn')
  have HD2 := Lib.hid (fun W (hB : Below w.heap.size w W) => drawWakes A n cap W (codeOn HR.out hB) hn')
  have HD3 := Lib.hid (fun W (hB : Below w.heap.size w W) => drawCount A n cap W (codeOn HR.out hB) hn')
  clear h HR
  go_enter Try.func4, Try.ntmps4
  go_wp2_with fail
  refine HG.out.mono ?_
  rintro e w1 ⟨rfl, rfl⟩
  clear HG
  go_wp2_with fail
  refine HD1.out.mono ?_
  rintro e v0 ⟨⟨x, y, rfl⟩, hb⟩
  replace HB := Lib.hid (belowNext HB.out hb)
  clear hb
  clear HD1
  go_wp2_with fail
  have HG3 := Lib.hid (box2 v0 x y 25)
  replace HB := Lib.hid (belowAlloc HB.out (.cells #[.int .i64 x, .int .i64 y] 25))
  generalize v0.alloc (.cells #[.int .i64 x, .int .i64 y] 25) = u1 at *
  generalize v0.heap.size = G3 at *
  have HW1 := Lib.hid (fun w => implWidth x y w)
  have HW2 := Lib.hid (fun w => specWidth x y w)
  have HS1 := Lib.hid (fun w => implIsSat x y w)
  have HS2 := Lib.hid (fun w => specIsSat x y w)
  have HP1 := Lib.hid (fun w => implParent x y w)
  have HP2 := Lib.hid (fun w => specParent x y w)
  have HT1 := Lib.hid (fun w => implDepth x y w)
  have HT2 := Lib.hid (fun w => specDepth x y w)
  have HQ := Lib.hid (fun w => implPairOf x y w)
  have HGood := Lib.hid (fun h => wkGood x y h)
  have HWb : Hid (poC x y ≠ 0 → wiA x y = (0, 0)) := Lib.hid wi_bad
  have HO := Lib.hid (fun w => implOrbitOf (poP x y).1 (poP x y).2.1 w)
  have hl36 := oL_len (poP x y).1 (poP x y).2.1
  generalize saB x y = SB at *
  generalize prP x y = R at *
  generalize prC x y = C19 at *
  generalize dpN x y = DP at *
  generalize wiA x y = WW at *
  generalize poP x y = P at *
  generalize poC x y = C1 at *
  obtain ⟨p1, p2, p3, p4⟩ := P
  obtain ⟨r1, r2, r3, r4⟩ := R
  obtain ⟨w1, w2⟩ := WW
  dsimp only at HW1 HW2 HGood HO hl36
  generalize oL p1 p2 = l36 at *
  generalize oC p1 p2 = C37 at *
  obtain ⟨m36, hm36⟩ : ∃ m, l36.length = m := ⟨_, rfl⟩
  rw [hm36] at hl36
  have HL36 := Lib.hid hm36
  clear hm36
  have N1 := fun W => neqAngSame w1 w2 W
  have N2 := fun W => neqRpSame r1 r2 r3 r4 W
  refine (HW1.out _).mono ?_
  rintro e v1 ⟨rfl, hb⟩
  replace HG3 := Lib.hid (HG3.out.on hb)
  replace HB := Lib.hid (belowNext HB.out hb)
  clear hb
  clear HW1
  obtain ⟨fG30, fG31, fG32⟩ := id HG3.out
  go_wp2_with fail
  clear fG30 fG31 fG32
  replace HG3 := Lib.hid (HG3.out.on (belowAlloc (Below.refl _ _) (.cells #[.int .i64 w1, .int .i64 w2] 25)))
  have HG4 := Lib.hid (box2 v1 w1 w2 25)
  replace HB := Lib.hid (belowAlloc HB.out (.cells #[.int .i64 w1, .int .i64 w2] 25))
  generalize v1.alloc (.cells #[.int .i64 w1, .int .i64 w2] 25) = u2 at *
  generalize v1.heap.size = G4 at *
  refine (HW2.out _).mono ?_
  rintro e v2 ⟨rfl, hb⟩
  replace HG3 := Lib.hid (HG3.out.on hb)
  replace HG4 := Lib.hid (HG4.out.on hb)
  replace HB := Lib.hid (belowNext HB.out hb)
  clear hb
  clear HW2
  obtain ⟨fG30, fG31, fG32⟩ := id HG3.out
  obtain ⟨fG40, fG41, fG42⟩ := id HG4.out
  go_wp2_with fail
  clear fG30 fG31 fG32 fG40 fG41 fG42
  replace HG3 := Lib.hid (HG3.out.on (belowAlloc (Below.refl _ _) (.cells #[.int .i64 w1, .int .i64 w2] 25)))
  replace HG4 := Lib.hid (HG4.out.on (belowAlloc (Below.refl _ _) (.cells #[.int .i64 w1, .int .i64 w2] 25)))
  have HG6 := Lib.hid (box2 v2 w1 w2 25)
  replace HB := Lib.hid (belowAlloc HB.out (.cells #[.int .i64 w1, .int .i64 w2] 25))
  generalize v2.alloc (.cells #[.int .i64 w1, .int .i64 w2] 25) = u3 at *
  generalize v2.heap.size = G6 at *
  clear HG6
  clear N1
  refine (HS1.out _).mono ?_
  rintro e v3 ⟨rfl, hb⟩
  replace HG3 := Lib.hid (HG3.out.on hb)
  replace HG4 := Lib.hid (HG4.out.on hb)
  replace HB := Lib.hid (belowNext HB.out hb)
  clear hb
  clear HS1
  obtain ⟨fG30, fG31, fG32⟩ := id HG3.out
  go_wp2_with fail
  clear fG30 fG31 fG32
  refine (HS2.out _).mono ?_
  rintro e v4 ⟨rfl, hb⟩
  replace HG3 := Lib.hid (HG3.out.on hb)
  replace HG4 := Lib.hid (HG4.out.on hb)
  replace HB := Lib.hid (belowNext HB.out hb)
  clear hb
  clear HS2
  go_wp2_with fail
  refine (HD2.out _ HB.out).mono ?_
  rintro e v5 ⟨⟨y1, y2, m, rfl⟩, hb⟩
  replace HG3 := Lib.hid (HG3.out.on hb)
  replace HG4 := Lib.hid (HG4.out.on hb)
  replace HB := Lib.hid (belowNext HB.out hb)
  clear hb
  clear HD2
  go_wp2_with fail
  replace HG3 := Lib.hid (HG3.out.on (belowAlloc (Below.refl _ _) (.cells #[.int .i64 y1, .int .i64 y2] 25)))
  replace HG4 := Lib.hid (HG4.out.on (belowAlloc (Below.refl _ _) (.cells #[.int .i64 y1, .int .i64 y2] 25)))
  have HG12 := Lib.hid (box2 v5 y1 y2 25)
  replace HB := Lib.hid (belowAlloc HB.out (.cells #[.int .i64 y1, .int .i64 y2] 25))
  generalize v5.alloc (.cells #[.int .i64 y1, .int .i64 y2] 25) = u6 at *
  generalize v5.heap.size = G12 at *
  have HK1 := Lib.hid (fun w => implWakesOf y1 y2 m w)
  have HK2 := Lib.hid (fun w => specWakesOf y1 y2 m w)
  have HIn := Lib.hid (fun (p : Lf4) (hp : p ∈ waL y1 y2 m) => wkIn hp)
  have HNx := Lib.hid (fun (i : Nat) (p q : Lf4) (hp : (waL y1 y2 m)[i]? = some p) (hq : (waL y1 y2 m)[i + 1]? = some q) => wkNext hp hq)
  have hl14 := waL_len y1 y2 m
  generalize waL y1 y2 m = l14 at *
  generalize waC y1 y2 m = C15 at *
  obtain ⟨m14, hm14⟩ : ∃ m, l14.length = m := ⟨_, rfl⟩
  rw [hm14] at hl14
  have HL14 := Lib.hid hm14
  clear hm14
  refine (HK1.out _).mono ?_
  rintro e v6 ⟨A14, c14, rfl, hG14, hb⟩
  replace HG3 := Lib.hid (HG3.out.on hb)
  replace HG4 := Lib.hid (HG4.out.on hb)
  replace HG12 := Lib.hid (HG12.out.on hb)
  have HG14 := Lib.hid (hG14.row)
  clear hG14
  replace HB := Lib.hid (belowNext HB.out hb)
  clear hb
  rw [HL14.out]
  clear HK1
  obtain ⟨fG120, fG121, fG122⟩ := id HG12.out
  go_wp2_with fail
  clear fG120 fG121 fG122
  refine (HK2.out _).mono ?_
  rintro e v7 ⟨A16, c16, rfl, hG16, hb⟩
  replace HG3 := Lib.hid (HG3.out.on hb)
  replace HG4 := Lib.hid (HG4.out.on hb)
  replace HG12 := Lib.hid (HG12.out.on hb)
  replace HG14 := Lib.hid (HG14.out.next hb)
  have HG16 := Lib.hid (hG16.row)
  clear hG16
  replace HB := Lib.hid (belowNext HB.out hb)
  clear hb
  rw [HL14.out]
  clear HK2
  go_wp2_with fail
  refine (eqPairs9 _ _ _ _ _ l14 _ HG14.out HG16.out HL14.out (by omega)).mono ?_
  rintro e v8 ⟨rfl, hb⟩
  replace HG3 := Lib.hid (HG3.out.on hb)
  replace HG4 := Lib.hid (HG4.out.on hb)
  replace HG12 := Lib.hid (HG12.out.on hb)
  replace HG14 := Lib.hid (HG14.out.next hb)
  replace HG16 := Lib.hid (HG16.out.next hb)
  replace HB := Lib.hid (belowNext HB.out hb)
  clear hb
  clear HG16
  obtain ⟨fG30, fG31, fG32⟩ := id HG3.out
  go_wp2_with fail
  clear fG30 fG31 fG32
  refine (HP1.out _).mono ?_
  rintro e v9 ⟨rfl, hb⟩
  replace HG3 := Lib.hid (HG3.out.on hb)
  replace HG4 := Lib.hid (HG4.out.on hb)
  replace HG12 := Lib.hid (HG12.out.on hb)
  replace HG14 := Lib.hid (HG14.out.next hb)
  replace HB := Lib.hid (belowNext HB.out hb)
  clear hb
  clear HP1
  obtain ⟨fG30, fG31, fG32⟩ := id HG3.out
  go_wp2_with fail
  clear fG30 fG31 fG32
  replace HG3 := Lib.hid (HG3.out.on (belowAlloc (Below.refl _ _) (.cells #[.int .i64 r1, .int .i64 r2, .int .i64 r3, .int .i64 r4] 52)))
  replace HG4 := Lib.hid (HG4.out.on (belowAlloc (Below.refl _ _) (.cells #[.int .i64 r1, .int .i64 r2, .int .i64 r3, .int .i64 r4] 52)))
  replace HG12 := Lib.hid (HG12.out.on (belowAlloc (Below.refl _ _) (.cells #[.int .i64 r1, .int .i64 r2, .int .i64 r3, .int .i64 r4] 52)))
  replace HG14 := Lib.hid (HG14.out.next (belowAlloc (Below.refl _ _) (.cells #[.int .i64 r1, .int .i64 r2, .int .i64 r3, .int .i64 r4] 52)))
  have HG18 := Lib.hid (box4 v9 r1 r2 r3 r4 52)
  replace HB := Lib.hid (belowAlloc HB.out (.cells #[.int .i64 r1, .int .i64 r2, .int .i64 r3, .int .i64 r4] 52))
  generalize v9.alloc (.cells #[.int .i64 r1, .int .i64 r2, .int .i64 r3, .int .i64 r4] 52) = u10 at *
  generalize v9.heap.size = G18 at *
  refine (HP2.out _).mono ?_
  rintro e v10 ⟨rfl, hb⟩
  replace HG3 := Lib.hid (HG3.out.on hb)
  replace HG4 := Lib.hid (HG4.out.on hb)
  replace HG12 := Lib.hid (HG12.out.on hb)
  replace HG14 := Lib.hid (HG14.out.next hb)
  replace HG18 := Lib.hid (HG18.out.on hb)
  replace HB := Lib.hid (belowNext HB.out hb)
  clear hb
  clear HP2
  obtain ⟨fG30, fG31, fG32⟩ := id HG3.out
  obtain ⟨fG180, fG181, fG182, fG183, fG184⟩ := id HG18.out
  go_wp2_with fail
  clear fG30 fG31 fG32 fG180 fG181 fG182 fG183 fG184
  replace HG3 := Lib.hid (HG3.out.on (belowAlloc (Below.refl _ _) (.cells #[.int .i64 r1, .int .i64 r2, .int .i64 r3, .int .i64 r4] 52)))
  replace HG4 := Lib.hid (HG4.out.on (belowAlloc (Below.refl _ _) (.cells #[.int .i64 r1, .int .i64 r2, .int .i64 r3, .int .i64 r4] 52)))
  replace HG12 := Lib.hid (HG12.out.on (belowAlloc (Below.refl _ _) (.cells #[.int .i64 r1, .int .i64 r2, .int .i64 r3, .int .i64 r4] 52)))
  replace HG14 := Lib.hid (HG14.out.next (belowAlloc (Below.refl _ _) (.cells #[.int .i64 r1, .int .i64 r2, .int .i64 r3, .int .i64 r4] 52)))
  replace HG18 := Lib.hid (HG18.out.on (belowAlloc (Below.refl _ _) (.cells #[.int .i64 r1, .int .i64 r2, .int .i64 r3, .int .i64 r4] 52)))
  have HG20 := Lib.hid (box4 v10 r1 r2 r3 r4 52)
  replace HB := Lib.hid (belowAlloc HB.out (.cells #[.int .i64 r1, .int .i64 r2, .int .i64 r3, .int .i64 r4] 52))
  generalize v10.alloc (.cells #[.int .i64 r1, .int .i64 r2, .int .i64 r3, .int .i64 r4] 52) = u11 at *
  generalize v10.heap.size = G20 at *
  clear HG20
  clear N2
  refine (HT1.out _).mono ?_
  rintro e v11 ⟨rfl, hb⟩
  replace HG3 := Lib.hid (HG3.out.on hb)
  replace HG4 := Lib.hid (HG4.out.on hb)
  replace HG12 := Lib.hid (HG12.out.on hb)
  replace HG14 := Lib.hid (HG14.out.next hb)
  replace HG18 := Lib.hid (HG18.out.on hb)
  replace HB := Lib.hid (belowNext HB.out hb)
  clear hb
  clear HT1
  obtain ⟨fG30, fG31, fG32⟩ := id HG3.out
  go_wp2_with fail
  clear fG30 fG31 fG32
  refine (HT2.out _).mono ?_
  rintro e v12 ⟨rfl, hb⟩
  replace HG3 := Lib.hid (HG3.out.on hb)
  replace HG4 := Lib.hid (HG4.out.on hb)
  replace HG12 := Lib.hid (HG12.out.on hb)
  replace HG14 := Lib.hid (HG14.out.next hb)
  replace HG18 := Lib.hid (HG18.out.on hb)
  replace HB := Lib.hid (belowNext HB.out hb)
  clear hb
  clear HT2
  go_wp2_with fail
  refine (HD3.out _ HB.out).mono ?_
  rintro e v13 ⟨⟨kk, rfl⟩, hb⟩
  replace HG3 := Lib.hid (HG3.out.on hb)
  replace HG4 := Lib.hid (HG4.out.on hb)
  replace HG12 := Lib.hid (HG12.out.on hb)
  replace HG14 := Lib.hid (HG14.out.next hb)
  replace HG18 := Lib.hid (HG18.out.on hb)
  replace HB := Lib.hid (belowNext HB.out hb)
  clear hb
  clear HD3
  have HC1 := Lib.hid (fun w => implCount kk w)
  have HC2 := Lib.hid (fun w => specCount kk w)
  generalize (csN kk : Int) = CC at *
  generalize popC kk = C28 at *
  go_wp2_with fail
  refine (HC1.out _).mono ?_
  rintro e v14 ⟨rfl, hb⟩
  replace HG3 := Lib.hid (HG3.out.on hb)
  replace HG4 := Lib.hid (HG4.out.on hb)
  replace HG12 := Lib.hid (HG12.out.on hb)
  replace HG14 := Lib.hid (HG14.out.next hb)
  replace HG18 := Lib.hid (HG18.out.on hb)
  replace HB := Lib.hid (belowNext HB.out hb)
  clear hb
  clear HC1
  go_wp2_with fail
  refine (HC2.out _).mono ?_
  rintro e v15 ⟨rfl, hb⟩
  replace HG3 := Lib.hid (HG3.out.on hb)
  replace HG4 := Lib.hid (HG4.out.on hb)
  replace HG12 := Lib.hid (HG12.out.on hb)
  replace HG14 := Lib.hid (HG14.out.next hb)
  replace HG18 := Lib.hid (HG18.out.on hb)
  replace HB := Lib.hid (belowNext HB.out hb)
  clear hb
  clear HC2
  go_wp2_with fail
  go_loopg [31] m14 (fun gg s31 wr => ∃ k : Nat, k + gg = m14 ∧ s31 = .int .i64 k ∧ Hid (Below w.heap.size w wr) ∧ Hid (Box2 G3 x y wr) ∧ Hid (Box2 G4 w1 w2 wr) ∧ Hid (Box2 G12 y1 y2 wr) ∧ Hid (LfRow wr wr.heap.size A14 l14) ∧ Hid (Box4 G18 r1 r2 r3 r4 wr))
  case atStart => exact ⟨0, by omega, rfl, HB, HG3, HG4, HG12, HG14, HG18⟩
  case round =>
    clear HB HG3 HG4 HG12 HG14 HG18
    obtain ⟨k, hkg, rfl, HB, HG3, HG4, HG12, HG14, HG18⟩ := hrel
    cases gk with
    | succ gg =>
      have hlt : k < m14 := by omega
      have hlt2 : (k : Int) < (m14 : Int) := by omega
      have hkl : k < l14.length := by have := HL14.out; omega
      obtain ⟨⟨p, q, s, t⟩, hq⟩ : ∃ q, l14[k]? = some q := ⟨_, List.getElem?_eq_getElem hkl⟩
      have hne : l14 ≠ [] := by intro h; rw [h] at hkl; simp at hkl
      obtain ⟨b0, off, rfl, hb0, hcells⟩ := HG14.out hne
      obtain ⟨y0, y1', y2', y3⟩ := hcells k p q s t hq
      have HE := Lib.hid (HIn.out _ (List.mem_of_getElem? hq))
      dsimp only at HE
      obtain ⟨zx, xc0, xc1⟩ := id HG12.out
      clear hne hkl
      go_wp2_with fail
      by_cases hk0 : k = 0
      · have d0 : decide ((0 : Int) < (k : Int)) = false := decide_eq_false (by omega)
        have d1 : ((0 : Int) < (k : Int)) = (false = true) := by simp; omega
        have d2 : decide (0 < k) = false := decide_eq_false (by omega)
        have d3 : (0 < k) = (false = true) := by simp; omega
        have S0 : K6 wr ⟨G12, 0, none⟩ ⟨G12, 1, none⟩ ⟨b0, off + k * 4, none⟩ ⟨b0, off + k * 4 + 1, none⟩ ⟨b0, off + k * 4 + 2, none⟩ ⟨b0, off + k * 4 + 3, none⟩ (.int .i64 y1) (.int .i64 y2) (.int .i64 p) (.int .i64 q) (.int .i64 s) (.int .i64 t) wr := ⟨Below.refl _ _, zx, zx, hb0, hb0, hb0, hb0, xc0, xc1, y0, y1', y2', y3⟩
        have HK0 := Lib.hid hk0
        clear hcells hq HNx zx xc0 xc1 y0 y1' y2' y3 hk0
        refine wp_region_held_drew (S := (K6 wr ⟨G12, 0, none⟩ ⟨G12, 1, none⟩ ⟨b0, off + k * 4, none⟩ ⟨b0, off + k * 4 + 1, none⟩ ⟨b0, off + k * 4 + 2, none⟩ ⟨b0, off + k * 4 + 3, none⟩ (.int .i64 y1) (.int .i64 y2) (.int .i64 p) (.int .i64 q) (.int .i64 s) (.int .i64 t))) (by kernel_rfl) ?_ (fun hHeld => ?_)
        · exact S0.on (Below.refl _ _).drew
        refine wpAnyH_take (i := 0) (v := ?_) rfl (by kernel_rfl) (by kernel_rfl) (by kernel_rfl) (fun _ _ _ h => h) (Or.inl ⟨by kernel_rfl, ?_⟩) hHeld ?_
        rotate_left
        · intro w hSw; obtain ⟨B, z1, z2, z3, z4, z5, z6, x1, x2, x3, x4, x5, x6⟩ := hSw; first | (go_simp; done) | (go_simp; with_reducible rfl)
        refine wpAnyH_take (i := 1) (v := ?_) rfl (by kernel_rfl) (by kernel_rfl) (by kernel_rfl) (fun _ _ _ h => h) (Or.inl ⟨by kernel_rfl, ?_⟩) hHeld ?_
        rotate_left
        · intro w hSw; obtain ⟨B, z1, z2, z3, z4, z5, z6, x1, x2, x3, x4, x5, x6⟩ := hSw; first | (go_simp; done) | (go_simp; with_reducible rfl)
        refine wpAnyH_take (i := 2) (v := ?_) rfl (by kernel_rfl) (by kernel_rfl) (by kernel_rfl) (fun _ _ _ h => h) (Or.inl ⟨by kernel_rfl, ?_⟩) hHeld ?_
        rotate_left
        · intro w hSw; obtain ⟨B, z1, z2, z3, z4, z5, z6, x1, x2, x3, x4, x5, x6⟩ := hSw; first | (go_simp; done) | (go_simp; with_reducible rfl)
        refine wpAnyH_take (i := 3) (v := ?_) rfl (by kernel_rfl) (by kernel_rfl) (by kernel_rfl) (fun _ _ _ h => h) (Or.inl ⟨by kernel_rfl, ?_⟩) hHeld ?_
        rotate_left
        · intro w hSw; obtain ⟨B, z1, z2, z3, z4, z5, z6, x1, x2, x3, x4, x5, x6⟩ := hSw; first | (go_simp; done) | (go_simp; with_reducible rfl)
        refine wpAnyH_take (i := 4) (v := ?_) rfl (by kernel_rfl) (by kernel_rfl) (by kernel_rfl) (fun _ _ _ h => h) (Or.inl ⟨by kernel_rfl, ?_⟩) hHeld ?_
        rotate_left
        · intro w hSw; obtain ⟨B, z1, z2, z3, z4, z5, z6, x1, x2, x3, x4, x5, x6⟩ := hSw; first | (go_simp; done) | (go_simp; with_reducible rfl)
        refine wpAnyH_take (i := 5) (v := ?_) rfl (by kernel_rfl) (by kernel_rfl) (by kernel_rfl) (fun _ _ _ h => h) (Or.inl ⟨by kernel_rfl, ?_⟩) hHeld ?_
        rotate_left
        · intro w hSw; obtain ⟨B, z1, z2, z3, z4, z5, z6, x1, x2, x3, x4, x5, x6⟩ := hSw; first | (go_simp; done) | (go_simp; with_reducible rfl)
        refine wpAnyH_ready (rs := [6]) (by kernel_rfl) (by simp) ?_
        refine AllReadyH.cons rfl (fun K hK => ?_) AllReadyH.nil
        go_simp
        go_wp2_with (go_at_call 44; (with_reducible refine (HE.out.1 _).mono ?_); rintro e a1 ⟨rfl, hb1⟩)
        have S1 := hHeld.on hb1
        refine hK.out _ _ ?_ (fun hHeld => ?_)
        · exact S1
        clear hK K
        refine wpAnyH_take (i := 7) (v := ?_) rfl (by kernel_rfl) (by kernel_rfl) (by kernel_rfl) (fun _ _ _ h => h) (Or.inl ⟨by kernel_rfl, ?_⟩) hHeld ?_
        rotate_left
        · intro w hSw; obtain ⟨B, z1, z2, z3, z4, z5, z6, x1, x2, x3, x4, x5, x6⟩ := hSw; first | (go_simp; done) | (go_simp; with_reducible rfl)
        refine wpAnyH_take (i := 8) (v := ?_) rfl (by kernel_rfl) (by kernel_rfl) (by kernel_rfl) (fun _ _ _ h => h) (Or.inl ⟨by kernel_rfl, ?_⟩) hHeld ?_
        rotate_left
        · intro w hSw; obtain ⟨B, z1, z2, z3, z4, z5, z6, x1, x2, x3, x4, x5, x6⟩ := hSw; first | (go_simp; done) | (go_simp; with_reducible rfl)
        refine wpAnyH_take (i := 9) (v := ?_) rfl (by kernel_rfl) (by kernel_rfl) (by kernel_rfl) (fun _ _ _ h => h) (Or.inl ⟨by kernel_rfl, ?_⟩) hHeld ?_
        rotate_left
        · intro w hSw; obtain ⟨B, z1, z2, z3, z4, z5, z6, x1, x2, x3, x4, x5, x6⟩ := hSw; first | (go_simp; done) | (go_simp; with_reducible rfl)
        refine wpAnyH_take (i := 10) (v := ?_) rfl (by kernel_rfl) (by kernel_rfl) (by kernel_rfl) (fun _ _ _ h => h) (Or.inl ⟨by kernel_rfl, ?_⟩) hHeld ?_
        rotate_left
        · intro w hSw; obtain ⟨B, z1, z2, z3, z4, z5, z6, x1, x2, x3, x4, x5, x6⟩ := hSw; first | (go_simp; done) | (go_simp; with_reducible rfl)
        refine wpAnyH_take (i := 11) (v := ?_) rfl (by kernel_rfl) (by kernel_rfl) (by kernel_rfl) (fun _ _ _ h => h) (Or.inl ⟨by kernel_rfl, ?_⟩) hHeld ?_
        rotate_left
        · intro w hSw; obtain ⟨B, z1, z2, z3, z4, z5, z6, x1, x2, x3, x4, x5, x6⟩ := hSw; first | (go_simp; done) | (go_simp; with_reducible rfl)
        refine wpAnyH_take (i := 12) (v := ?_) rfl (by kernel_rfl) (by kernel_rfl) (by kernel_rfl) (fun _ _ _ h => h) (Or.inl ⟨by kernel_rfl, ?_⟩) hHeld ?_
        rotate_left
        · intro w hSw; obtain ⟨B, z1, z2, z3, z4, z5, z6, x1, x2, x3, x4, x5, x6⟩ := hSw; first | (go_simp; done) | (go_simp; with_reducible rfl)
        refine wpAnyH_take (i := 13) (v := ?_) rfl (by kernel_rfl) (by kernel_rfl) (by kernel_rfl) (fun _ _ _ h => h) (Or.inl ⟨by kernel_rfl, ?_⟩) hHeld ?_
        rotate_left
        · intro w hSw; obtain ⟨B, z1, z2, z3, z4, z5, z6, x1, x2, x3, x4, x5, x6⟩ := hSw; first | (go_simp; done) | (go_simp; with_reducible rfl)
        refine wpAnyH_take (i := 14) (v := ?_) rfl (by kernel_rfl) (by kernel_rfl) (by kernel_rfl) (fun _ _ _ h => h) (Or.inl ⟨by kernel_rfl, ?_⟩) hHeld ?_
        rotate_left
        · intro w hSw; obtain ⟨B, z1, z2, z3, z4, z5, z6, x1, x2, x3, x4, x5, x6⟩ := hSw; first | (go_simp; done) | (go_simp; with_reducible rfl)
        refine wpAnyH_ready (rs := [15]) (by kernel_rfl) (by simp) ?_
        refine AllReadyH.cons rfl (fun K hK => ?_) AllReadyH.nil
        go_simp
        go_wp2_with (go_at_call 44; (with_reducible refine (HE.out.2 _).mono ?_); rintro e a2 ⟨rfl, hb2⟩)
        have S2 := hHeld.on hb2
        refine hK.out _ _ ?_ (fun hHeld => ?_)
        · exact S2
        clear hK K
        refine wpAnyH_take (i := 16) (v := ?_) rfl (by kernel_rfl) (by kernel_rfl) (by kernel_rfl) (fun _ _ _ h => h) (Or.inl ⟨by kernel_rfl, ?_⟩) hHeld ?_
        rotate_left
        · intro w hSw; obtain ⟨B, z1, z2, z3, z4, z5, z6, x1, x2, x3, x4, x5, x6⟩ := hSw; first | (go_simp; done) | (go_simp; with_reducible rfl)
        refine wpAnyH_take (i := 17) (v := ?_) rfl (by kernel_rfl) (by kernel_rfl) (by kernel_rfl) (fun _ _ _ h => h) (Or.inl ⟨by kernel_rfl, ?_⟩) hHeld ?_
        rotate_left
        · intro w hSw; obtain ⟨B, z1, z2, z3, z4, z5, z6, x1, x2, x3, x4, x5, x6⟩ := hSw; first | (go_simp; done) | (go_simp; with_reducible rfl)
        refine wpAnyH_take (i := 18) (v := ?_) rfl (by kernel_rfl) (by kernel_rfl) (by kernel_rfl) (fun _ _ _ h => h) (Or.inl ⟨by kernel_rfl, ?_⟩) hHeld ?_
        rotate_left
        · intro w hSw; obtain ⟨B, z1, z2, z3, z4, z5, z6, x1, x2, x3, x4, x5, x6⟩ := hSw; first | (go_simp; done) | (go_simp; with_reducible rfl)
        refine wpAnyH_take (i := 19) (v := ?_) rfl (by kernel_rfl) (by kernel_rfl) (by kernel_rfl) (fun _ _ _ h => h) (Or.inl ⟨by kernel_rfl, ?_⟩) hHeld ?_
        rotate_left
        · intro w hSw; obtain ⟨B, z1, z2, z3, z4, z5, z6, x1, x2, x3, x4, x5, x6⟩ := hSw; first | (go_simp; done) | (go_simp; with_reducible rfl)
        refine wpAnyH_take (i := 20) (v := ?_) rfl (by kernel_rfl) (by kernel_rfl) (by kernel_rfl) (fun _ _ _ h => h) (Or.inl ⟨by kernel_rfl, ?_⟩) hHeld ?_
        rotate_left
        · intro w hSw; obtain ⟨B, z1, z2, z3, z4, z5, z6, x1, x2, x3, x4, x5, x6⟩ := hSw; first | (go_simp; done) | (go_simp; with_reducible rfl)
        refine wpAnyH_take (i := 21) (v := ?_) rfl (by kernel_rfl) (by kernel_rfl) (by kernel_rfl) (fun _ _ _ h => h) (Or.inl ⟨by kernel_rfl, ?_⟩) hHeld ?_
        rotate_left
        · intro w hSw; obtain ⟨B, z1, z2, z3, z4, z5, z6, x1, x2, x3, x4, x5, x6⟩ := hSw; first | (go_simp; done) | (go_simp; with_reducible rfl)
        refine wpAnyH_take (i := 22) (v := undef) rfl (by kernel_rfl) (by kernel_rfl) (by kernel_rfl) (fun _ _ _ h => h) (Or.inr ⟨by kernel_rfl, rfl⟩) hHeld ?_
        go_simp
        refine wpAnyH_take (i := 23) (v := undef) rfl (by kernel_rfl) (by kernel_rfl) (by kernel_rfl) (fun _ _ _ h => h) (Or.inr ⟨by kernel_rfl, rfl⟩) hHeld ?_
        go_simp
        refine wpAnyH_take (i := 24) (v := undef) rfl (by kernel_rfl) (by kernel_rfl) (by kernel_rfl) (fun _ _ _ h => h) (Or.inr ⟨by kernel_rfl, rfl⟩) hHeld ?_
        go_simp
        refine wpAnyH_take (i := 25) (v := undef) rfl (by kernel_rfl) (by kernel_rfl) (by kernel_rfl) (fun _ _ _ h => h) (Or.inr ⟨by kernel_rfl, rfl⟩) hHeld ?_
        go_simp
        refine wpAnyH_take (i := 26) (v := undef) rfl (by kernel_rfl) (by kernel_rfl) (by kernel_rfl) (fun _ _ _ h => h) (Or.inr ⟨by kernel_rfl, rfl⟩) hHeld ?_
        go_simp
        refine wpAnyH_take (i := 27) (v := undef) rfl (by kernel_rfl) (by kernel_rfl) (by kernel_rfl) (fun _ _ _ h => h) (Or.inr ⟨by kernel_rfl, rfl⟩) hHeld ?_
        go_simp
        refine wpAnyH_take (i := 28) (v := undef) rfl (by kernel_rfl) (by kernel_rfl) (by kernel_rfl) (fun _ _ _ h => h) (Or.inr ⟨by kernel_rfl, rfl⟩) hHeld ?_
        go_simp
        refine wpAnyH_take (i := 29) (v := undef) rfl (by kernel_rfl) (by kernel_rfl) (by kernel_rfl) (fun _ _ _ h => h) (Or.inr ⟨by kernel_rfl, rfl⟩) hHeld ?_
        go_simp
        refine wpAnyH_take (i := 30) (v := undef) rfl (by kernel_rfl) (by kernel_rfl) (by kernel_rfl) (fun _ _ _ h => h) (Or.inr ⟨by kernel_rfl, rfl⟩) hHeld ?_
        go_simp
        refine wpAnyH_take (i := 31) (v := undef) rfl (by kernel_rfl) (by kernel_rfl) (by kernel_rfl) (fun _ _ _ h => h) (Or.inr ⟨by kernel_rfl, rfl⟩) hHeld ?_
        go_simp
        refine wpAnyH_take (i := 32) (v := undef) rfl (by kernel_rfl) (by kernel_rfl) (by kernel_rfl) (fun _ _ _ h => h) (Or.inr ⟨by kernel_rfl, rfl⟩) hHeld ?_
        go_simp
        refine wpAnyH_take (i := 33) (v := undef) rfl (by kernel_rfl) (by kernel_rfl) (by kernel_rfl) (fun _ _ _ h => h) (Or.inr ⟨by kernel_rfl, rfl⟩) hHeld ?_
        go_simp
        refine wpAnyH_take (i := 34) (v := undef) rfl (by kernel_rfl) (by kernel_rfl) (by kernel_rfl) (fun _ _ _ h => h) (Or.inr ⟨by kernel_rfl, rfl⟩) hHeld ?_
        go_simp
        refine wpAnyH_take (i := 35) (v := undef) rfl (by kernel_rfl) (by kernel_rfl) (by kernel_rfl) (fun _ _ _ h => h) (Or.inr ⟨by kernel_rfl, rfl⟩) hHeld ?_
        go_simp
        refine wpAnyH_take (i := 36) (v := undef) rfl (by kernel_rfl) (by kernel_rfl) (by kernel_rfl) (fun _ _ _ h => h) (Or.inr ⟨by kernel_rfl, rfl⟩) hHeld ?_
        go_simp
        refine wpAnyH_take (i := 37) (v := undef) rfl (by kernel_rfl) (by kernel_rfl) (by kernel_rfl) (fun _ _ _ h => h) (Or.inr ⟨by kernel_rfl, rfl⟩) hHeld ?_
        go_simp
        refine wpAnyH_take (i := 38) (v := undef) rfl (by kernel_rfl) (by kernel_rfl) (by kernel_rfl) (fun _ _ _ h => h) (Or.inr ⟨by kernel_rfl, rfl⟩) hHeld ?_
        go_simp
        refine wpAnyH_take (i := 39) (v := undef) rfl (by kernel_rfl) (by kernel_rfl) (by kernel_rfl) (fun _ _ _ h => h) (Or.inr ⟨by kernel_rfl, rfl⟩) hHeld ?_
        go_simp
        refine wpAnyH_take (i := 40) (v := undef) rfl (by kernel_rfl) (by kernel_rfl) (by kernel_rfl) (fun _ _ _ h => h) (Or.inr ⟨by kernel_rfl, rfl⟩) hHeld ?_
        go_simp
        refine wpAnyH_take (i := 41) (v := undef) rfl (by kernel_rfl) (by kernel_rfl) (by kernel_rfl) (fun _ _ _ h => h) (Or.inr ⟨by kernel_rfl, rfl⟩) hHeld ?_
        go_simp
        refine wpAnyH_take (i := 42) (v := undef) rfl (by kernel_rfl) (by kernel_rfl) (by kernel_rfl) (fun _ _ _ h => h) (Or.inr ⟨by kernel_rfl, rfl⟩) hHeld ?_
        go_simp
        refine wpAnyH_take (i := 43) (v := undef) rfl (by kernel_rfl) (by kernel_rfl) (by kernel_rfl) (fun _ _ _ h => h) (Or.inr ⟨by kernel_rfl, rfl⟩) hHeld ?_
        go_simp
        refine wpAnyH_take (i := 44) (v := undef) rfl (by kernel_rfl) (by kernel_rfl) (by kernel_rfl) (fun _ _ _ h => h) (Or.inr ⟨by kernel_rfl, rfl⟩) hHeld ?_
        go_simp
        refine wpAnyH_take (i := 45) (v := undef) rfl (by kernel_rfl) (by kernel_rfl) (by kernel_rfl) (fun _ _ _ h => h) (Or.inr ⟨by kernel_rfl, rfl⟩) hHeld ?_
        go_simp
        refine wpAnyH_take (i := 46) (v := undef) rfl (by kernel_rfl) (by kernel_rfl) (by kernel_rfl) (fun _ _ _ h => h) (Or.inr ⟨by kernel_rfl, rfl⟩) hHeld ?_
        go_simp
        refine wpAnyH_take (i := 47) (v := undef) rfl (by kernel_rfl) (by kernel_rfl) (by kernel_rfl) (fun _ _ _ h => h) (Or.inr ⟨by kernel_rfl, rfl⟩) hHeld ?_
        go_simp
        refine wpAnyH_take (i := 48) (v := undef) rfl (by kernel_rfl) (by kernel_rfl) (by kernel_rfl) (fun _ _ _ h => h) (Or.inr ⟨by kernel_rfl, rfl⟩) hHeld ?_
        go_simp
        refine wpAnyH_take (i := 49) (v := undef) rfl (by kernel_rfl) (by kernel_rfl) (by kernel_rfl) (fun _ _ _ h => h) (Or.inr ⟨by kernel_rfl, rfl⟩) hHeld ?_
        go_simp
        refine wpAnyH_take (i := 50) (v := ?_) rfl (by kernel_rfl) (by kernel_rfl) (by kernel_rfl) (fun _ _ _ h => h) (Or.inl ⟨by kernel_rfl, ?_⟩) hHeld ?_
        rotate_left
        · intro w hSw; obtain ⟨B, z1, z2, z3, z4, z5, z6, x1, x2, x3, x4, x5, x6⟩ := hSw; first | (go_simp; done) | (go_simp; with_reducible rfl)
        refine wpAnyH_take (i := 51) (v := ?_) rfl (by kernel_rfl) (by kernel_rfl) (by kernel_rfl) (fun _ _ _ h => h) (Or.inl ⟨by kernel_rfl, ?_⟩) hHeld ?_
        rotate_left
        · intro w hSw; obtain ⟨B, z1, z2, z3, z4, z5, z6, x1, x2, x3, x4, x5, x6⟩ := hSw; first | (go_simp; done) | (go_simp; with_reducible rfl)
        refine wpAnyH_done (by kernel_rfl) ?_ _
        go_wp2
        go_roundg gg
        case measure => omega
        case rel => exact ⟨k + 1, by omega, by go_num, Lib.hid (belowNext HB.out S2.B), Lib.hid (HG3.out.on S2.B), Lib.hid (HG4.out.on S2.B), Lib.hid (HG12.out.on S2.B), Lib.hid (HG14.out.next S2.B), Lib.hid (HG18.out.on S2.B)⟩
      · obtain ⟨j, hj⟩ : ∃ j : Nat, k = j + 1 := ⟨k - 1, by omega⟩
        have hjm : (j : Int) < (m14 : Int) := by omega
        have d0 : decide ((0 : Int) < (k : Int)) = true := decide_eq_true (by omega)
        have d1 : ((0 : Int) < (k : Int)) = True := eq_true (by omega)
        have d2 : decide (0 < k) = true := decide_eq_true (by omega)
        have d3 : (0 < k) = True := eq_true (by omega)
        have wj1 : wrap64 ((k : Int) - 1) = (j : Int) := by rw [show (k : Int) - 1 = (j : Int) by omega]; exact IntWalk.wrap64_in _ (by omega)
        have wj2 : IntKind.i64.wrap ((k : Int) - 1) = (j : Int) := by rw [show (k : Int) - 1 = (j : Int) by omega]; exact IntWalk.i64_in _ (by omega)
        obtain ⟨⟨p', q', s', t'⟩, hq'⟩ : ∃ q, l14[j]? = some q := ⟨_, List.getElem?_eq_getElem (by have := HL14.out; omega)⟩
        obtain ⟨u0, u1', u2', u3⟩ := hcells j p' q' s' t' hq'
        have HX := Lib.hid (HNx.out j _ _ hq' (by rw [← hj]; exact hq))
        dsimp only at HX
        have S0 : K10 wr ⟨G12, 0, none⟩ ⟨G12, 1, none⟩ ⟨b0, off + k * 4, none⟩ ⟨b0, off + k * 4 + 1, none⟩ ⟨b0, off + k * 4 + 2, none⟩ ⟨b0, off + k * 4 + 3, none⟩ ⟨b0, off + j * 4, none⟩ ⟨b0, off + j * 4 + 1, none⟩ ⟨b0, off + j * 4 + 2, none⟩ ⟨b0, off + j * 4 + 3, none⟩ (.int .i64 y1) (.int .i64 y2) (.int .i64 p) (.int .i64 q) (.int .i64 s) (.int .i64 t) (.int .i64 p') (.int .i64 q') (.int .i64 s') (.int .i64 t') wr := ⟨Below.refl _ _, zx, zx, hb0, hb0, hb0, hb0, hb0, hb0, hb0, hb0, xc0, xc1, y0, y1', y2', y3, u0, u1', u2', u3⟩
        have HK := Lib.hid hj
        clear hcells hq hq' hj hk0 zx xc0 xc1 y0 y1' y2' y3 u0 u1' u2' u3
        refine wp_region_held_drew (S := (K10 wr ⟨G12, 0, none⟩ ⟨G12, 1, none⟩ ⟨b0, off + k * 4, none⟩ ⟨b0, off + k * 4 + 1, none⟩ ⟨b0, off + k * 4 + 2, none⟩ ⟨b0, off + k * 4 + 3, none⟩ ⟨b0, off + j * 4, none⟩ ⟨b0, off + j * 4 + 1, none⟩ ⟨b0, off + j * 4 + 2, none⟩ ⟨b0, off + j * 4 + 3, none⟩ (.int .i64 y1) (.int .i64 y2) (.int .i64 p) (.int .i64 q) (.int .i64 s) (.int .i64 t) (.int .i64 p') (.int .i64 q') (.int .i64 s') (.int .i64 t'))) (by kernel_rfl) ?_ (fun hHeld => ?_)
        · exact S0.on (Below.refl _ _).drew
        refine wpAnyH_take (i := 0) (v := ?_) rfl (by kernel_rfl) (by kernel_rfl) (by kernel_rfl) (fun _ _ _ h => h) (Or.inl ⟨by kernel_rfl, ?_⟩) hHeld ?_
        rotate_left
        · intro w hSw; obtain ⟨B, z1, z2, z3, z4, z5, z6, z7, z8, z9, z10, x1, x2, x3, x4, x5, x6, x7, x8, x9, x10⟩ := hSw; first | (go_simp; done) | (go_simp; with_reducible rfl)
        refine wpAnyH_take (i := 1) (v := ?_) rfl (by kernel_rfl) (by kernel_rfl) (by kernel_rfl) (fun _ _ _ h => h) (Or.inl ⟨by kernel_rfl, ?_⟩) hHeld ?_
        rotate_left
        · intro w hSw; obtain ⟨B, z1, z2, z3, z4, z5, z6, z7, z8, z9, z10, x1, x2, x3, x4, x5, x6, x7, x8, x9, x10⟩ := hSw; first | (go_simp; done) | (go_simp; with_reducible rfl)
        refine wpAnyH_take (i := 2) (v := ?_) rfl (by kernel_rfl) (by kernel_rfl) (by kernel_rfl) (fun _ _ _ h => h) (Or.inl ⟨by kernel_rfl, ?_⟩) hHeld ?_
        rotate_left
        · intro w hSw; obtain ⟨B, z1, z2, z3, z4, z5, z6, z7, z8, z9, z10, x1, x2, x3, x4, x5, x6, x7, x8, x9, x10⟩ := hSw; first | (go_simp; done) | (go_simp; with_reducible rfl)
        refine wpAnyH_take (i := 3) (v := ?_) rfl (by kernel_rfl) (by kernel_rfl) (by kernel_rfl) (fun _ _ _ h => h) (Or.inl ⟨by kernel_rfl, ?_⟩) hHeld ?_
        rotate_left
        · intro w hSw; obtain ⟨B, z1, z2, z3, z4, z5, z6, z7, z8, z9, z10, x1, x2, x3, x4, x5, x6, x7, x8, x9, x10⟩ := hSw; first | (go_simp; done) | (go_simp; with_reducible rfl)
        refine wpAnyH_take (i := 4) (v := ?_) rfl (by kernel_rfl) (by kernel_rfl) (by kernel_rfl) (fun _ _ _ h => h) (Or.inl ⟨by kernel_rfl, ?_⟩) hHeld ?_
        rotate_left
        · intro w hSw; obtain ⟨B, z1, z2, z3, z4, z5, z6, z7, z8, z9, z10, x1, x2, x3, x4, x5, x6, x7, x8, x9, x10⟩ := hSw; first | (go_simp; done) | (go_simp; with_reducible rfl)
        refine wpAnyH_take (i := 5) (v := ?_) rfl (by kernel_rfl) (by kernel_rfl) (by kernel_rfl) (fun _ _ _ h => h) (Or.inl ⟨by kernel_rfl, ?_⟩) hHeld ?_
        rotate_left
        · intro w hSw; obtain ⟨B, z1, z2, z3, z4, z5, z6, z7, z8, z9, z10, x1, x2, x3, x4, x5, x6, x7, x8, x9, x10⟩ := hSw; first | (go_simp; done) | (go_simp; with_reducible rfl)
        refine wpAnyH_ready (rs := [6]) (by kernel_rfl) (by simp) ?_
        refine AllReadyH.cons rfl (fun K hK => ?_) AllReadyH.nil
        go_simp
        go_wp2_with (go_at_call 44; (with_reducible refine (HE.out.1 _).mono ?_); rintro e a1 ⟨rfl, hb1⟩)
        have S1 := hHeld.on hb1
        refine hK.out _ _ ?_ (fun hHeld => ?_)
        · exact S1
        clear hK K
        refine wpAnyH_take (i := 7) (v := ?_) rfl (by kernel_rfl) (by kernel_rfl) (by kernel_rfl) (fun _ _ _ h => h) (Or.inl ⟨by kernel_rfl, ?_⟩) hHeld ?_
        rotate_left
        · intro w hSw; obtain ⟨B, z1, z2, z3, z4, z5, z6, z7, z8, z9, z10, x1, x2, x3, x4, x5, x6, x7, x8, x9, x10⟩ := hSw; first | (go_simp; done) | (go_simp; with_reducible rfl)
        refine wpAnyH_take (i := 8) (v := ?_) rfl (by kernel_rfl) (by kernel_rfl) (by kernel_rfl) (fun _ _ _ h => h) (Or.inl ⟨by kernel_rfl, ?_⟩) hHeld ?_
        rotate_left
        · intro w hSw; obtain ⟨B, z1, z2, z3, z4, z5, z6, z7, z8, z9, z10, x1, x2, x3, x4, x5, x6, x7, x8, x9, x10⟩ := hSw; first | (go_simp; done) | (go_simp; with_reducible rfl)
        refine wpAnyH_take (i := 9) (v := ?_) rfl (by kernel_rfl) (by kernel_rfl) (by kernel_rfl) (fun _ _ _ h => h) (Or.inl ⟨by kernel_rfl, ?_⟩) hHeld ?_
        rotate_left
        · intro w hSw; obtain ⟨B, z1, z2, z3, z4, z5, z6, z7, z8, z9, z10, x1, x2, x3, x4, x5, x6, x7, x8, x9, x10⟩ := hSw; first | (go_simp; done) | (go_simp; with_reducible rfl)
        refine wpAnyH_take (i := 10) (v := ?_) rfl (by kernel_rfl) (by kernel_rfl) (by kernel_rfl) (fun _ _ _ h => h) (Or.inl ⟨by kernel_rfl, ?_⟩) hHeld ?_
        rotate_left
        · intro w hSw; obtain ⟨B, z1, z2, z3, z4, z5, z6, z7, z8, z9, z10, x1, x2, x3, x4, x5, x6, x7, x8, x9, x10⟩ := hSw; first | (go_simp; done) | (go_simp; with_reducible rfl)
        refine wpAnyH_take (i := 11) (v := ?_) rfl (by kernel_rfl) (by kernel_rfl) (by kernel_rfl) (fun _ _ _ h => h) (Or.inl ⟨by kernel_rfl, ?_⟩) hHeld ?_
        rotate_left
        · intro w hSw; obtain ⟨B, z1, z2, z3, z4, z5, z6, z7, z8, z9, z10, x1, x2, x3, x4, x5, x6, x7, x8, x9, x10⟩ := hSw; first | (go_simp; done) | (go_simp; with_reducible rfl)
        refine wpAnyH_take (i := 12) (v := ?_) rfl (by kernel_rfl) (by kernel_rfl) (by kernel_rfl) (fun _ _ _ h => h) (Or.inl ⟨by kernel_rfl, ?_⟩) hHeld ?_
        rotate_left
        · intro w hSw; obtain ⟨B, z1, z2, z3, z4, z5, z6, z7, z8, z9, z10, x1, x2, x3, x4, x5, x6, x7, x8, x9, x10⟩ := hSw; first | (go_simp; done) | (go_simp; with_reducible rfl)
        refine wpAnyH_take (i := 13) (v := ?_) rfl (by kernel_rfl) (by kernel_rfl) (by kernel_rfl) (fun _ _ _ h => h) (Or.inl ⟨by kernel_rfl, ?_⟩) hHeld ?_
        rotate_left
        · intro w hSw; obtain ⟨B, z1, z2, z3, z4, z5, z6, z7, z8, z9, z10, x1, x2, x3, x4, x5, x6, x7, x8, x9, x10⟩ := hSw; first | (go_simp; done) | (go_simp; with_reducible rfl)
        refine wpAnyH_take (i := 14) (v := ?_) rfl (by kernel_rfl) (by kernel_rfl) (by kernel_rfl) (fun _ _ _ h => h) (Or.inl ⟨by kernel_rfl, ?_⟩) hHeld ?_
        rotate_left
        · intro w hSw; obtain ⟨B, z1, z2, z3, z4, z5, z6, z7, z8, z9, z10, x1, x2, x3, x4, x5, x6, x7, x8, x9, x10⟩ := hSw; first | (go_simp; done) | (go_simp; with_reducible rfl)
        refine wpAnyH_ready (rs := [15]) (by kernel_rfl) (by simp) ?_
        refine AllReadyH.cons rfl (fun K hK => ?_) AllReadyH.nil
        go_simp
        go_wp2_with (go_at_call 44; (with_reducible refine (HE.out.2 _).mono ?_); rintro e a2 ⟨rfl, hb2⟩)
        have S2 := hHeld.on hb2
        refine hK.out _ _ ?_ (fun hHeld => ?_)
        · exact S2
        clear hK K
        refine wpAnyH_take (i := 16) (v := ?_) rfl (by kernel_rfl) (by kernel_rfl) (by kernel_rfl) (fun _ _ _ h => h) (Or.inl ⟨by kernel_rfl, ?_⟩) hHeld ?_
        rotate_left
        · intro w hSw; obtain ⟨B, z1, z2, z3, z4, z5, z6, z7, z8, z9, z10, x1, x2, x3, x4, x5, x6, x7, x8, x9, x10⟩ := hSw; first | (go_simp; done) | (go_simp; with_reducible rfl)
        refine wpAnyH_take (i := 17) (v := ?_) rfl (by kernel_rfl) (by kernel_rfl) (by kernel_rfl) (fun _ _ _ h => h) (Or.inl ⟨by kernel_rfl, ?_⟩) hHeld ?_
        rotate_left
        · intro w hSw; obtain ⟨B, z1, z2, z3, z4, z5, z6, z7, z8, z9, z10, x1, x2, x3, x4, x5, x6, x7, x8, x9, x10⟩ := hSw; first | (go_simp; done) | (go_simp; with_reducible rfl)
        refine wpAnyH_take (i := 18) (v := ?_) rfl (by kernel_rfl) (by kernel_rfl) (by kernel_rfl) (fun _ _ _ h => h) (Or.inl ⟨by kernel_rfl, ?_⟩) hHeld ?_
        rotate_left
        · intro w hSw; obtain ⟨B, z1, z2, z3, z4, z5, z6, z7, z8, z9, z10, x1, x2, x3, x4, x5, x6, x7, x8, x9, x10⟩ := hSw; first | (go_simp; done) | (go_simp; with_reducible rfl)
        refine wpAnyH_take (i := 19) (v := ?_) rfl (by kernel_rfl) (by kernel_rfl) (by kernel_rfl) (fun _ _ _ h => h) (Or.inl ⟨by kernel_rfl, ?_⟩) hHeld ?_
        rotate_left
        · intro w hSw; obtain ⟨B, z1, z2, z3, z4, z5, z6, z7, z8, z9, z10, x1, x2, x3, x4, x5, x6, x7, x8, x9, x10⟩ := hSw; first | (go_simp; done) | (go_simp; with_reducible rfl)
        refine wpAnyH_take (i := 20) (v := ?_) rfl (by kernel_rfl) (by kernel_rfl) (by kernel_rfl) (fun _ _ _ h => h) (Or.inl ⟨by kernel_rfl, ?_⟩) hHeld ?_
        rotate_left
        · intro w hSw; obtain ⟨B, z1, z2, z3, z4, z5, z6, z7, z8, z9, z10, x1, x2, x3, x4, x5, x6, x7, x8, x9, x10⟩ := hSw; first | (go_simp; done) | (go_simp; with_reducible rfl)
        refine wpAnyH_take (i := 21) (v := ?_) rfl (by kernel_rfl) (by kernel_rfl) (by kernel_rfl) (fun _ _ _ h => h) (Or.inl ⟨by kernel_rfl, ?_⟩) hHeld ?_
        rotate_left
        · intro w hSw; obtain ⟨B, z1, z2, z3, z4, z5, z6, z7, z8, z9, z10, x1, x2, x3, x4, x5, x6, x7, x8, x9, x10⟩ := hSw; first | (go_simp; done) | (go_simp; with_reducible rfl)
        refine wpAnyH_take (i := 22) (v := ?_) rfl (by kernel_rfl) (by kernel_rfl) (by kernel_rfl) (fun _ _ _ h => h) (Or.inl ⟨by kernel_rfl, ?_⟩) hHeld ?_
        rotate_left
        · intro w hSw; obtain ⟨B, z1, z2, z3, z4, z5, z6, z7, z8, z9, z10, x1, x2, x3, x4, x5, x6, x7, x8, x9, x10⟩ := hSw; first | (go_simp; done) | (go_simp; with_reducible rfl)
        refine wpAnyH_take (i := 23) (v := ?_) rfl (by kernel_rfl) (by kernel_rfl) (by kernel_rfl) (fun _ _ _ h => h) (Or.inl ⟨by kernel_rfl, ?_⟩) hHeld ?_
        rotate_left
        · intro w hSw; obtain ⟨B, z1, z2, z3, z4, z5, z6, z7, z8, z9, z10, x1, x2, x3, x4, x5, x6, x7, x8, x9, x10⟩ := hSw; first | (go_simp; done) | (go_simp; with_reducible rfl)
        refine wpAnyH_take (i := 24) (v := ?_) rfl (by kernel_rfl) (by kernel_rfl) (by kernel_rfl) (fun _ _ _ h => h) (Or.inl ⟨by kernel_rfl, ?_⟩) hHeld ?_
        rotate_left
        · intro w hSw; obtain ⟨B, z1, z2, z3, z4, z5, z6, z7, z8, z9, z10, x1, x2, x3, x4, x5, x6, x7, x8, x9, x10⟩ := hSw; first | (go_simp; done) | (go_simp; with_reducible rfl)
        refine wpAnyH_take (i := 25) (v := ?_) rfl (by kernel_rfl) (by kernel_rfl) (by kernel_rfl) (fun _ _ _ h => h) (Or.inl ⟨by kernel_rfl, ?_⟩) hHeld ?_
        rotate_left
        · intro w hSw; obtain ⟨B, z1, z2, z3, z4, z5, z6, z7, z8, z9, z10, x1, x2, x3, x4, x5, x6, x7, x8, x9, x10⟩ := hSw; first | (go_simp; done) | (go_simp; with_reducible rfl)
        refine wpAnyH_take (i := 26) (v := ?_) rfl (by kernel_rfl) (by kernel_rfl) (by kernel_rfl) (fun _ _ _ h => h) (Or.inl ⟨by kernel_rfl, ?_⟩) hHeld ?_
        rotate_left
        · intro w hSw; obtain ⟨B, z1, z2, z3, z4, z5, z6, z7, z8, z9, z10, x1, x2, x3, x4, x5, x6, x7, x8, x9, x10⟩ := hSw; first | (go_simp; done) | (go_simp; with_reducible rfl)
        refine wpAnyH_take (i := 27) (v := ?_) rfl (by kernel_rfl) (by kernel_rfl) (by kernel_rfl) (fun _ _ _ h => h) (Or.inl ⟨by kernel_rfl, ?_⟩) hHeld ?_
        rotate_left
        · intro w hSw; obtain ⟨B, z1, z2, z3, z4, z5, z6, z7, z8, z9, z10, x1, x2, x3, x4, x5, x6, x7, x8, x9, x10⟩ := hSw; first | (go_simp; done) | (go_simp; with_reducible rfl)
        refine wpAnyH_take (i := 28) (v := ?_) rfl (by kernel_rfl) (by kernel_rfl) (by kernel_rfl) (fun _ _ _ h => h) (Or.inl ⟨by kernel_rfl, ?_⟩) hHeld ?_
        rotate_left
        · intro w hSw; obtain ⟨B, z1, z2, z3, z4, z5, z6, z7, z8, z9, z10, x1, x2, x3, x4, x5, x6, x7, x8, x9, x10⟩ := hSw; first | (go_simp; done) | (go_simp; with_reducible rfl)
        refine wpAnyH_take (i := 29) (v := ?_) rfl (by kernel_rfl) (by kernel_rfl) (by kernel_rfl) (fun _ _ _ h => h) (Or.inl ⟨by kernel_rfl, ?_⟩) hHeld ?_
        rotate_left
        · intro w hSw; obtain ⟨B, z1, z2, z3, z4, z5, z6, z7, z8, z9, z10, x1, x2, x3, x4, x5, x6, x7, x8, x9, x10⟩ := hSw; first | (go_simp; done) | (go_simp; with_reducible rfl)
        refine wpAnyH_take (i := 30) (v := ?_) rfl (by kernel_rfl) (by kernel_rfl) (by kernel_rfl) (fun _ _ _ h => h) (Or.inl ⟨by kernel_rfl, ?_⟩) hHeld ?_
        rotate_left
        · intro w hSw; obtain ⟨B, z1, z2, z3, z4, z5, z6, z7, z8, z9, z10, x1, x2, x3, x4, x5, x6, x7, x8, x9, x10⟩ := hSw; first | (go_simp; done) | (go_simp; with_reducible rfl)
        refine wpAnyH_take (i := 31) (v := ?_) rfl (by kernel_rfl) (by kernel_rfl) (by kernel_rfl) (fun _ _ _ h => h) (Or.inl ⟨by kernel_rfl, ?_⟩) hHeld ?_
        rotate_left
        · intro w hSw; obtain ⟨B, z1, z2, z3, z4, z5, z6, z7, z8, z9, z10, x1, x2, x3, x4, x5, x6, x7, x8, x9, x10⟩ := hSw; first | (go_simp; done) | (go_simp; with_reducible rfl)
        refine wpAnyH_take (i := 32) (v := ?_) rfl (by kernel_rfl) (by kernel_rfl) (by kernel_rfl) (fun _ _ _ h => h) (Or.inl ⟨by kernel_rfl, ?_⟩) hHeld ?_
        rotate_left
        · intro w hSw; obtain ⟨B, z1, z2, z3, z4, z5, z6, z7, z8, z9, z10, x1, x2, x3, x4, x5, x6, x7, x8, x9, x10⟩ := hSw; first | (go_simp; done) | (go_simp; with_reducible rfl)
        refine wpAnyH_ready (rs := [33]) (by kernel_rfl) (by simp) ?_
        refine AllReadyH.cons rfl (fun K hK => ?_) AllReadyH.nil
        go_simp
        go_wp2_with (go_at_call 44; (with_reducible refine (HX.out.1 _).mono ?_); rintro e a3 ⟨rfl, hb3⟩)
        have S3 := hHeld.on hb3
        refine hK.out _ _ ?_ (fun hHeld => ?_)
        · exact S3
        clear hK K
        refine wpAnyH_take (i := 34) (v := ?_) rfl (by kernel_rfl) (by kernel_rfl) (by kernel_rfl) (fun _ _ _ h => h) (Or.inl ⟨by kernel_rfl, ?_⟩) hHeld ?_
        rotate_left
        · intro w hSw; obtain ⟨B, z1, z2, z3, z4, z5, z6, z7, z8, z9, z10, x1, x2, x3, x4, x5, x6, x7, x8, x9, x10⟩ := hSw; first | (go_simp; done) | (go_simp; with_reducible rfl)
        refine wpAnyH_take (i := 35) (v := ?_) rfl (by kernel_rfl) (by kernel_rfl) (by kernel_rfl) (fun _ _ _ h => h) (Or.inl ⟨by kernel_rfl, ?_⟩) hHeld ?_
        rotate_left
        · intro w hSw; obtain ⟨B, z1, z2, z3, z4, z5, z6, z7, z8, z9, z10, x1, x2, x3, x4, x5, x6, x7, x8, x9, x10⟩ := hSw; first | (go_simp; done) | (go_simp; with_reducible rfl)
        refine wpAnyH_take (i := 36) (v := ?_) rfl (by kernel_rfl) (by kernel_rfl) (by kernel_rfl) (fun _ _ _ h => h) (Or.inl ⟨by kernel_rfl, ?_⟩) hHeld ?_
        rotate_left
        · intro w hSw; obtain ⟨B, z1, z2, z3, z4, z5, z6, z7, z8, z9, z10, x1, x2, x3, x4, x5, x6, x7, x8, x9, x10⟩ := hSw; first | (go_simp; done) | (go_simp; with_reducible rfl)
        refine wpAnyH_take (i := 37) (v := ?_) rfl (by kernel_rfl) (by kernel_rfl) (by kernel_rfl) (fun _ _ _ h => h) (Or.inl ⟨by kernel_rfl, ?_⟩) hHeld ?_
        rotate_left
        · intro w hSw; obtain ⟨B, z1, z2, z3, z4, z5, z6, z7, z8, z9, z10, x1, x2, x3, x4, x5, x6, x7, x8, x9, x10⟩ := hSw; first | (go_simp; done) | (go_simp; with_reducible rfl)
        refine wpAnyH_take (i := 38) (v := ?_) rfl (by kernel_rfl) (by kernel_rfl) (by kernel_rfl) (fun _ _ _ h => h) (Or.inl ⟨by kernel_rfl, ?_⟩) hHeld ?_
        rotate_left
        · intro w hSw; obtain ⟨B, z1, z2, z3, z4, z5, z6, z7, z8, z9, z10, x1, x2, x3, x4, x5, x6, x7, x8, x9, x10⟩ := hSw; first | (go_simp; done) | (go_simp; with_reducible rfl)
        refine wpAnyH_take (i := 39) (v := ?_) rfl (by kernel_rfl) (by kernel_rfl) (by kernel_rfl) (fun _ _ _ h => h) (Or.inl ⟨by kernel_rfl, ?_⟩) hHeld ?_
        rotate_left
        · intro w hSw; obtain ⟨B, z1, z2, z3, z4, z5, z6, z7, z8, z9, z10, x1, x2, x3, x4, x5, x6, x7, x8, x9, x10⟩ := hSw; first | (go_simp; done) | (go_simp; with_reducible rfl)
        refine wpAnyH_take (i := 40) (v := ?_) rfl (by kernel_rfl) (by kernel_rfl) (by kernel_rfl) (fun _ _ _ h => h) (Or.inl ⟨by kernel_rfl, ?_⟩) hHeld ?_
        rotate_left
        · intro w hSw; obtain ⟨B, z1, z2, z3, z4, z5, z6, z7, z8, z9, z10, x1, x2, x3, x4, x5, x6, x7, x8, x9, x10⟩ := hSw; first | (go_simp; done) | (go_simp; with_reducible rfl)
        refine wpAnyH_take (i := 41) (v := ?_) rfl (by kernel_rfl) (by kernel_rfl) (by kernel_rfl) (fun _ _ _ h => h) (Or.inl ⟨by kernel_rfl, ?_⟩) hHeld ?_
        rotate_left
        · intro w hSw; obtain ⟨B, z1, z2, z3, z4, z5, z6, z7, z8, z9, z10, x1, x2, x3, x4, x5, x6, x7, x8, x9, x10⟩ := hSw; first | (go_simp; done) | (go_simp; with_reducible rfl)
        refine wpAnyH_take (i := 42) (v := ?_) rfl (by kernel_rfl) (by kernel_rfl) (by kernel_rfl) (fun _ _ _ h => h) (Or.inl ⟨by kernel_rfl, ?_⟩) hHeld ?_
        rotate_left
        · intro w hSw; obtain ⟨B, z1, z2, z3, z4, z5, z6, z7, z8, z9, z10, x1, x2, x3, x4, x5, x6, x7, x8, x9, x10⟩ := hSw; first | (go_simp; done) | (go_simp; with_reducible rfl)
        refine wpAnyH_take (i := 43) (v := ?_) rfl (by kernel_rfl) (by kernel_rfl) (by kernel_rfl) (fun _ _ _ h => h) (Or.inl ⟨by kernel_rfl, ?_⟩) hHeld ?_
        rotate_left
        · intro w hSw; obtain ⟨B, z1, z2, z3, z4, z5, z6, z7, z8, z9, z10, x1, x2, x3, x4, x5, x6, x7, x8, x9, x10⟩ := hSw; first | (go_simp; done) | (go_simp; with_reducible rfl)
        refine wpAnyH_take (i := 44) (v := ?_) rfl (by kernel_rfl) (by kernel_rfl) (by kernel_rfl) (fun _ _ _ h => h) (Or.inl ⟨by kernel_rfl, ?_⟩) hHeld ?_
        rotate_left
        · intro w hSw; obtain ⟨B, z1, z2, z3, z4, z5, z6, z7, z8, z9, z10, x1, x2, x3, x4, x5, x6, x7, x8, x9, x10⟩ := hSw; first | (go_simp; done) | (go_simp; with_reducible rfl)
        refine wpAnyH_take (i := 45) (v := ?_) rfl (by kernel_rfl) (by kernel_rfl) (by kernel_rfl) (fun _ _ _ h => h) (Or.inl ⟨by kernel_rfl, ?_⟩) hHeld ?_
        rotate_left
        · intro w hSw; obtain ⟨B, z1, z2, z3, z4, z5, z6, z7, z8, z9, z10, x1, x2, x3, x4, x5, x6, x7, x8, x9, x10⟩ := hSw; first | (go_simp; done) | (go_simp; with_reducible rfl)
        refine wpAnyH_take (i := 46) (v := ?_) rfl (by kernel_rfl) (by kernel_rfl) (by kernel_rfl) (fun _ _ _ h => h) (Or.inl ⟨by kernel_rfl, ?_⟩) hHeld ?_
        rotate_left
        · intro w hSw; obtain ⟨B, z1, z2, z3, z4, z5, z6, z7, z8, z9, z10, x1, x2, x3, x4, x5, x6, x7, x8, x9, x10⟩ := hSw; first | (go_simp; done) | (go_simp; with_reducible rfl)
        refine wpAnyH_ready (rs := [47]) (by kernel_rfl) (by simp) ?_
        refine AllReadyH.cons rfl (fun K hK => ?_) AllReadyH.nil
        go_simp
        go_wp2_with (go_at_call 44; (with_reducible refine (HX.out.2 _).mono ?_); rintro e a4 ⟨rfl, hb4⟩)
        have S4 := hHeld.on hb4
        refine hK.out _ _ ?_ (fun hHeld => ?_)
        · exact S4
        clear hK K
        refine wpAnyH_take (i := 48) (v := ?_) rfl (by kernel_rfl) (by kernel_rfl) (by kernel_rfl) (fun _ _ _ h => h) (Or.inl ⟨by kernel_rfl, ?_⟩) hHeld ?_
        rotate_left
        · intro w hSw; obtain ⟨B, z1, z2, z3, z4, z5, z6, z7, z8, z9, z10, x1, x2, x3, x4, x5, x6, x7, x8, x9, x10⟩ := hSw; first | (go_simp; done) | (go_simp; with_reducible rfl)
        refine wpAnyH_take (i := 49) (v := ?_) rfl (by kernel_rfl) (by kernel_rfl) (by kernel_rfl) (fun _ _ _ h => h) (Or.inl ⟨by kernel_rfl, ?_⟩) hHeld ?_
        rotate_left
        · intro w hSw; obtain ⟨B, z1, z2, z3, z4, z5, z6, z7, z8, z9, z10, x1, x2, x3, x4, x5, x6, x7, x8, x9, x10⟩ := hSw; first | (go_simp; done) | (go_simp; with_reducible rfl)
        refine wpAnyH_take (i := 50) (v := ?_) rfl (by kernel_rfl) (by kernel_rfl) (by kernel_rfl) (fun _ _ _ h => h) (Or.inl ⟨by kernel_rfl, ?_⟩) hHeld ?_
        rotate_left
        · intro w hSw; obtain ⟨B, z1, z2, z3, z4, z5, z6, z7, z8, z9, z10, x1, x2, x3, x4, x5, x6, x7, x8, x9, x10⟩ := hSw; first | (go_simp; done) | (go_simp; with_reducible rfl)
        refine wpAnyH_take (i := 51) (v := ?_) rfl (by kernel_rfl) (by kernel_rfl) (by kernel_rfl) (fun _ _ _ h => h) (Or.inl ⟨by kernel_rfl, ?_⟩) hHeld ?_
        rotate_left
        · intro w hSw; obtain ⟨B, z1, z2, z3, z4, z5, z6, z7, z8, z9, z10, x1, x2, x3, x4, x5, x6, x7, x8, x9, x10⟩ := hSw; first | (go_simp; done) | (go_simp; with_reducible rfl)
        refine wpAnyH_done (by kernel_rfl) ?_ _
        go_wp2
        go_roundg gg
        case measure => omega
        case rel => exact ⟨k + 1, by omega, by go_num, Lib.hid (belowNext HB.out S4.B), Lib.hid (HG3.out.on S4.B), Lib.hid (HG4.out.on S4.B), Lib.hid (HG12.out.on S4.B), Lib.hid (HG14.out.next S4.B), Lib.hid (HG18.out.on S4.B)⟩
    | zero =>
      have hk4 : k = m14 := by omega
      subst hk4
      have hn4 : ¬ ((k : Int) < (k : Int)) := by omega
      clear HIn HNx HL14 hkg
      clear HG12 HG14
      by_cases hC1 : C1 = 0
      · subst hC1
        obtain ⟨HAd, hC37, hSB, hPr, hDp⟩ := HGood.out (by first | rfl | trivial)
        subst hC37
        have HAd := Lib.hid HAd
        have HSB := Lib.hid hSB
        have HPr := Lib.hid hPr
        have HDp := Lib.hid hDp
        clear HGood HWb hSB hPr hDp
        obtain ⟨fG30, fG31, fG32⟩ := id HG3.out
        go_wp2_with fail
        clear fG30 fG31 fG32
        refine (HQ.out _).mono ?_
        rintro e v30 ⟨rfl, hb⟩
        replace HG3 := Lib.hid (HG3.out.on hb)
        replace HG4 := Lib.hid (HG4.out.on hb)
        replace HG18 := Lib.hid (HG18.out.on hb)
        replace HB := Lib.hid (belowNext HB.out hb)
        clear hb
        clear HQ
        obtain ⟨fG40, fG41, fG42⟩ := id HG4.out
        go_wp2_with fail
        clear fG40 fG41 fG42
        replace HG3 := Lib.hid (HG3.out.on (belowAlloc (Below.refl _ _) (.cells #[.int .i64 p1, .int .i64 p2, .int .i64 p3, .int .i64 p4] 52)))
        replace HG4 := Lib.hid (HG4.out.on (belowAlloc (Below.refl _ _) (.cells #[.int .i64 p1, .int .i64 p2, .int .i64 p3, .int .i64 p4] 52)))
        replace HG18 := Lib.hid (HG18.out.on (belowAlloc (Below.refl _ _) (.cells #[.int .i64 p1, .int .i64 p2, .int .i64 p3, .int .i64 p4] 52)))
        have HG32 := Lib.hid (box4 v30 p1 p2 p3 p4 52)
        replace HB := Lib.hid (belowAlloc HB.out (.cells #[.int .i64 p1, .int .i64 p2, .int .i64 p3, .int .i64 p4] 52))
        generalize v30.alloc (.cells #[.int .i64 p1, .int .i64 p2, .int .i64 p3, .int .i64 p4] 52) = u31 at *
        generalize v30.heap.size = G32 at *
        clear HG3 HG4
        refine (HAd.out _).mono ?_
        rintro e v31 ⟨rfl, hb⟩
        replace HG18 := Lib.hid (HG18.out.on hb)
        replace HG32 := Lib.hid (HG32.out.on hb)
        replace HB := Lib.hid (belowNext HB.out hb)
        clear hb
        clear HAd
        obtain ⟨fG320, fG321, fG322, fG323, fG324⟩ := id HG32.out
        go_wp2_with fail
        clear fG320 fG321 fG322 fG323 fG324
        replace HG18 := Lib.hid (HG18.out.on (belowAlloc (Below.refl _ _) (.cells #[.int .i64 p3, .int .i64 p4] 25)))
        replace HG32 := Lib.hid (HG32.out.on (belowAlloc (Below.refl _ _) (.cells #[.int .i64 p3, .int .i64 p4] 25)))
        have HG34 := Lib.hid (box2 v31 p3 p4 25)
        replace HB := Lib.hid (belowAlloc HB.out (.cells #[.int .i64 p3, .int .i64 p4] 25))
        generalize v31.alloc (.cells #[.int .i64 p3, .int .i64 p4] 25) = u32 at *
        generalize v31.heap.size = G34 at *
        refine (HO.out _).mono ?_
        rintro e v32 ⟨A36, c36, rfl, hG36, hb⟩
        replace HG18 := Lib.hid (HG18.out.on hb)
        replace HG32 := Lib.hid (HG32.out.on hb)
        replace HG34 := Lib.hid (HG34.out.on hb)
        have HG36 := Lib.hid (hG36.row)
        clear hG36
        replace HB := Lib.hid (belowNext HB.out hb)
        clear hb
        rw [HL36.out]
        clear HO
        go_wp2_with fail
        go_loopg [38, 39] m36 (fun gg s38 s39 wr => ∃ (k : Nat) (mm : Bool), k + gg = m36 ∧ s38 = .bool mm ∧ s39 = .int .i64 k ∧ Hid (mm = hasA (l36.take k) p3 p4) ∧ Hid (Below w.heap.size w wr) ∧ Hid (Box4 G18 r1 r2 r3 r4 wr) ∧ Hid (Box4 G32 p1 p2 p3 p4 wr) ∧ Hid (Box2 G34 p3 p4 wr) ∧ Hid (AngRow wr wr.heap.size A36 l36))
        case atStart => exact ⟨0, false, by omega, rfl, rfl, Lib.hid rfl, HB, HG18, HG32, HG34, HG36⟩
        case round =>
          clear HB HG18 HG32 HG34 HG36
          obtain ⟨k, mm, hkg, rfl, rfl, HMM, HB, HG18, HG32, HG34, HG36⟩ := hrel
          cases gk with
          | succ gg =>
            have hlt : k < m36 := by omega
            have hlt2 : (k : Int) < (m36 : Int) := by omega
            have hkl : k < l36.length := by have := HL36.out; omega
            obtain ⟨⟨u, v⟩, hq⟩ : ∃ q, l36[k]? = some q := ⟨_, List.getElem?_eq_getElem hkl⟩
            have hne : l36 ≠ [] := by intro h; rw [h] at hkl; simp at hkl
            obtain ⟨b0, off, rfl, hb0, hcells⟩ := HG36.out hne
            obtain ⟨y0, y1⟩ := hcells k u v hq
            obtain ⟨tt, htt⟩ : ∃ t, eqA u v p3 p4 = t := ⟨_, rfl⟩
            have Q1 := fun W => eqlAng u v p3 p4 W
            rw [htt] at Q1
            have HN : Hid (hasA (l36.take (k + 1)) p3 p4 = (mm || tt)) := Lib.hid (by rw [hasA_next hq, HMM.out, htt])
            obtain ⟨zf, f0, f1, f2, f3⟩ := id HG32.out
            have HB2 : Hid (∀ q, Below wr.heap.size wr (wr.drewN q)) := Lib.hid (fun q => below_drewN (Below.refl _ _) q)
            clear hq hne hcells hkl htt
            cases mm <;> cases tt
            all_goals
              go_wp2_with fail
              go_quiet (fail)
              go_wp2
              go_roundg gg
              case measure => omega
              case rel => exact ⟨k + 1, _, by omega, rfl, by go_num, Lib.hid HN.out.symm, Lib.hid (belowNext HB.out (HB2.out _)), Lib.hid (HG18.out.on (HB2.out _)), Lib.hid (HG32.out.on (HB2.out _)), Lib.hid (HG34.out.on (HB2.out _)), Lib.hid (HG36.out.next (HB2.out _))⟩
          | zero =>
            have hk4 : k = m36 := by omega
            have hmm : mm = SB := by rw [HMM.out, HSB.out, hk4, ← HL36.out, List.take_length]
            subst hmm
            subst hk4
            have hn4 : ¬ ((k : Int) < (k : Int)) := by omega
            clear HMM HSB HL36 hkg
            have N3 := fun W => neqAngSame p3 p4 W
            clear HG36
            by_cases hC19 : C19 = 0
            · subst hC19
              obtain ⟨H1, H2⟩ := HPr.out (by first | rfl | trivial)
              have H1 := Lib.hid H1
              have H2 := Lib.hid H2
              clear HPr HDp
              obtain ⟨fG320, fG321, fG322, fG323, fG324⟩ := id HG32.out
              obtain ⟨fG340, fG341, fG342⟩ := id HG34.out
              obtain ⟨fG180, fG181, fG182, fG183, fG184⟩ := id HG18.out
              go_wp2_with fail
              clear fG320 fG321 fG322 fG323 fG324 fG340 fG341 fG342 fG180 fG181 fG182 fG183 fG184
              refine (H1.out _).mono ?_
              rintro e v50 ⟨rfl, hb⟩
              replace HG18 := Lib.hid (HG18.out.on hb)
              replace HG32 := Lib.hid (HG32.out.on hb)
              replace HG34 := Lib.hid (HG34.out.on hb)
              replace HB := Lib.hid (belowNext HB.out hb)
              clear hb
              obtain ⟨fG320, fG321, fG322, fG323, fG324⟩ := id HG32.out
              obtain ⟨fG180, fG181, fG182, fG183, fG184⟩ := id HG18.out
              go_wp2_with fail
              clear fG320 fG321 fG322 fG323 fG324 fG180 fG181 fG182 fG183 fG184
              refine (H2.out _).mono ?_
              rintro e v51 ⟨rfl, hb⟩
              replace HG18 := Lib.hid (HG18.out.on hb)
              replace HG32 := Lib.hid (HG32.out.on hb)
              replace HG34 := Lib.hid (HG34.out.on hb)
              replace HB := Lib.hid (belowNext HB.out hb)
              clear hb
              have hB := HB.out
              go_wp2
              go_ret
              refine ⟨rfl, ?_⟩
              (repeat' (first | (with_reducible exact Below.refl _ _) | (with_reducible assumption) | (with_reducible refine belowNext ?_ (by with_reducible assumption)) | (with_reducible refine belowAlloc ?_ _) | (with_reducible refine Below.drew ?_) | (with_reducible refine below_drewN ?_ _) | (with_reducible refine Below.setCell ?_ ?_ _) | go_size | (with_reducible refine sizeOf' ?_) | (with_reducible refine sizeAdd ?_) | (dsimp only; first | (with_reducible refine sizeOf' ?_) | (with_reducible refine sizeAdd ?_))))
            · have hDP : DP = 0 := HDp.out hC19
              subst hDP
              have hCb : (C19 == 0) = false := beq_eq_false_iff_ne.2 hC19
              clear HPr HDp
              obtain ⟨fG320, fG321, fG322, fG323, fG324⟩ := id HG32.out
              obtain ⟨fG340, fG341, fG342⟩ := id HG34.out
              have hB := HB.out
              go_wp2
              go_ret
              refine ⟨rfl, ?_⟩
              (repeat' (first | (with_reducible exact Below.refl _ _) | (with_reducible assumption) | (with_reducible refine belowNext ?_ (by with_reducible assumption)) | (with_reducible refine belowAlloc ?_ _) | (with_reducible refine Below.drew ?_) | (with_reducible refine below_drewN ?_ _) | (with_reducible refine Below.setCell ?_ ?_ _) | go_size | (with_reducible refine sizeOf' ?_) | (with_reducible refine sizeAdd ?_) | (dsimp only; first | (with_reducible refine sizeOf' ?_) | (with_reducible refine sizeAdd ?_))))
      · obtain ⟨rfl, rfl⟩ : w1 = 0 ∧ w2 = 0 := by simpa using HWb.out hC1
        clear HGood HWb HQ HO
        have hCb : (C1 == 0) = false := beq_eq_false_iff_ne.2 hC1
        have E1 := fun W => eqlAngSame 0 0 W
        obtain ⟨fG40, fG41, fG42⟩ := id HG4.out
        have hB := HB.out
        go_wp2
        go_ret
        refine ⟨rfl, ?_⟩
        (repeat' (first | (with_reducible exact Below.refl _ _) | (with_reducible assumption) | (with_reducible refine belowNext ?_ (by with_reducible assumption)) | (with_reducible refine belowAlloc ?_ _) | (with_reducible refine Below.drew ?_) | (with_reducible refine below_drewN ?_ _) | (with_reducible refine Below.setCell ?_ ?_ _) | go_size | (with_reducible refine sizeOf' ?_) | (with_reducible refine sizeAdd ?_) | (dsimp only; first | (with_reducible refine sizeOf' ?_) | (with_reducible refine sizeAdd ?_))))
end Go.Proofs.Ytnciiodgkanpjaa

/-
  Contracts: whether a set is linked with another one (the model's); written by genK9.py.
  Contracts: the first condition that fails (the model's); written by genK10.py.
-/
import Derived.Test.YtfdjoolhmianjaaKC
namespace Go.Proofs.Ytfdjoolhmianjaa
open Go.RowKit

/-- Six cells, in every world of a region. -/
structure C6 (w : World) (p1 p2 p3 p4 p5 p6 : Addr) (v1 v2 v3 v4 v5 v6 : Value) (W : World) : Prop where
  B : Below w.heap.size w W
  z1 : p1.block < W.heap.size
  z2 : p2.block < W.heap.size
  z3 : p3.block < W.heap.size
  z4 : p4.block < W.heap.size
  z5 : p5.block < W.heap.size
  z6 : p6.block < W.heap.size
  x1 : W.cell? p1 = some v1
  x2 : W.cell? p2 = some v2
  x3 : W.cell? p3 = some v3
  x4 : W.cell? p4 = some v4
  x5 : W.cell? p5 = some v5
  x6 : W.cell? p6 = some v6
theorem C6.on {w W W1 : World} {p1 p2 p3 p4 p5 p6 : Addr} {v1 v2 v3 v4 v5 v6 : Value} (H : C6 w p1 p2 p3 p4 p5 p6 v1 v2 v3 v4 v5 v6 W) (hb : Below W.heap.size W W1) : C6 w p1 p2 p3 p4 p5 p6 v1 v2 v3 v4 v5 v6 W1 := by
  have hs := hb.size
  have := H.z1; have := H.z2; have := H.z3; have := H.z4; have := H.z5; have := H.z6
  exact ⟨belowNext H.B hb, by omega, by omega, by omega, by omega, by omega, by omega, (hb.cell H.z1).trans H.x1, (hb.cell H.z2).trans H.x2, (hb.cell H.z3).trans H.x3, (hb.cell H.z4).trans H.x4, (hb.cell H.z5).trans H.x5, (hb.cell H.z6).trans H.x6⟩
/-- How many of the first j angles of s are in the arc i of o. -/
def CntP (s o : List (Int × Int)) (i j c : Nat) : Prop := c ≤ j ∧ (0 < c ↔ ∃ j', j' < j ∧ arcQ o i (cA s j') = true) ∧ (c < j ↔ ∃ j', j' < j ∧ arcQ o i (cA s j') = false)
theorem cnt_zero (s o : List (Int × Int)) (i : Nat) : CntP s o i 0 0 := ⟨Nat.le_refl _, ⟨fun h => by omega, fun ⟨j', h, _⟩ => by omega⟩, ⟨fun h => by omega, fun ⟨j', h, _⟩ => by omega⟩⟩
theorem cnt_yes {s o : List (Int × Int)} {i j c : Nat} (h : CntP s o i j c) (ha : arcQ o i (cA s j) = true) : CntP s o i (j + 1) (c + 1) := by
  obtain ⟨h1, h2, h3⟩ := h
  refine ⟨by omega, ⟨fun _ => ⟨j, by omega, ha⟩, fun _ => by omega⟩, ⟨fun g => ?_, fun ⟨j', g, e⟩ => ?_⟩⟩
  · obtain ⟨j', a, b⟩ := h3.1 (by omega)
    exact ⟨j', by omega, b⟩
  · by_cases hj : j' = j
    · subst hj; rw [ha] at e; cases e
    · have := h3.2 ⟨j', by omega, e⟩; omega
theorem cnt_no {s o : List (Int × Int)} {i j c : Nat} (h : CntP s o i j c) (ha : arcQ o i (cA s j) = false) : CntP s o i (j + 1) c := by
  obtain ⟨h1, h2, h3⟩ := h
  refine ⟨by omega, ⟨fun g => ?_, fun ⟨j', g, e⟩ => ?_⟩, ⟨fun _ => ⟨j, by omega, ha⟩, fun _ => by omega⟩⟩
  · obtain ⟨j', a, b⟩ := h2.1 g
    exact ⟨j', by omega, b⟩
  · by_cases hj : j' = j
    · subst hj; rw [ha] at e; cases e
    · exact h2.2 ⟨j', by omega, e⟩

set_option maxRecDepth 8000 in
set_option maxHeartbeats 4000000 in
theorem specLinked (A : Option Addr) (len cap : Nat) (s : List (Int × Int)) (B : Option Addr) (len2 cap2 : Nat) (o : List (Int × Int)) (w : World) (hr : AngRow w w.heap.size A s) (hl : s.length = len) (hm : len ≤ 1000000) (ha : allAng s = true) (hr2 : AngRow w w.heap.size B o) (hl2 : o.length = len2) (hm2 : len2 ≤ 1000000) (ha2 : allAng o = true) :
    Calls Try.prog 67 #[.slice A len cap, .slice B len2 cap2] w (ResYesQ w (LinkA s o)) := by
  have HR := Lib.hid hr
  have HR2 := Lib.hid hr2
  have HL := Lib.hid hl
  have HL2 := Lib.hid hl2
  have HA := Lib.hid ha
  have HA2 := Lib.hid ha2
  clear hr hl hr2 hl2 ha ha2
  by_cases h1 : len2 = 1
  · have d1 : ((len2 : Int) == 1) = true := by simp; omega
    have HNo : Hid (¬ LinkA s o) := Lib.hid (fun h => h.1 (by rw [HL2.out, h1]))
    go_enter Try.func67, Try.ntmps67
    go_wp2
    go_ret
    exact ⟨⟨false, rfl, Lib.hid ⟨fun h => (by cases h), fun h => absurd h HNo.out⟩⟩, Below.refl _ _⟩
  · have d1 : ((len2 : Int) == 1) = false := by simp; omega
    have d1' : ¬ (len2 : Int) = 1 := by omega
    have H1 := Lib.hid h1
    clear h1
    go_enter Try.func67, Try.ntmps67
    go_wp2
    go_loopg [6, 7, 8] len2 (fun g ix _ _ wr => ∃ i : Nat, i + g = len2 ∧ ix = .int .i64 i ∧ Hid (∀ i', i' < i → ¬ ((∃ j, j < s.length ∧ arcQ o i' (cA s j) = true) ∧ ∃ j, j < s.length ∧ arcQ o i' (cA s j) = false)) ∧ Hid (Below w.heap.size w wr))
    case atStart => exact ⟨0, by omega, rfl, Lib.hid (fun i' h => absurd h (by omega)), Lib.hid (Below.refl _ _)⟩
    case round =>
      obtain ⟨i, hig, rfl, HY, HB⟩ := hrel
      cases gk with
      | zero =>
        obtain rfl : i = len2 := by omega
        have HNo : Hid (¬ LinkA s o) := Lib.hid (fun ⟨_, i', hi, h⟩ => HY.out i' (by have := HL2.out; omega) h)
        clear hig
        go_wp2
        go_ret
        exact ⟨⟨false, rfl, Lib.hid ⟨fun h => (by cases h), fun h => absurd h HNo.out⟩⟩, HB.out⟩
      | succ g =>
        have hil : i < o.length := by have := HL2.out; omega
        have hin : i < len2 := by omega
        obtain ⟨hm1, hm2', hjn⟩ := remQ (a := i + 1) (n := len2) (by omega)
        obtain ⟨v, hv⟩ : ∃ v, (i + 1) % len2 = v := ⟨_, rfl⟩
        have HV : Hid ((i + 1) % o.length = v) := Lib.hid (by rw [HL2.out]; exact hv)
        rw [hv] at hm1 hm2' hjn
        have hm1 : ((i : Int) + 1).tmod (len2 : Int) = (v : Int) := hm1
        have hm2' : ((i : Int) + 1) % (len2 : Int) = (v : Int) := hm2'
        have hjI : (v : Int) < (len2 : Int) := by omega
        have hwj : IntKind.i64.wrap (v : Int) = (v : Int) := IntWalk.i64_in _ (by omega)
        have hw1 : IntKind.i64.wrap ((i : Int) + 1) = (i : Int) + 1 := IntWalk.i64_in _ (by omega)
        have hln : ¬ (len2 : Int) = 0 := by omega
        have hln' : ¬ len2 = 0 := by omega
        have hvl : v < o.length := by have := HL2.out; omega
        obtain ⟨b2, o2, rfl, hb2, hc2⟩ := HR2.out (by rintro rfl; simp at hil)
        obtain ⟨y0, y1⟩ := hc2 i _ _ (cA_some hil)
        obtain ⟨z0, z1⟩ := hc2 v _ _ (cA_some hvl)
        have HYZ := Lib.hid (And.intro y0 (And.intro y1 (And.intro z0 z1)))
        have hap := isAng_ok (cA_ang HA2.out hil)
        have hbp := isAng_ok (cA_ang HA2.out hvl)
        have HArc : Hid (∀ x, arcQ o i x = arcB x.1 x.2 (cA o i).1 (cA o i).2 (cA o v).1 (cA o v).2) := Lib.hid (fun x => by unfold arcQ; rw [HV.out])
        have HYes : Hid (((∃ j, j < s.length ∧ arcQ o i (cA s j) = true) ∧ ∃ j, j < s.length ∧ arcQ o i (cA s j) = false) → LinkA s o) := Lib.hid (fun h => ⟨by rw [HL2.out]; exact H1.out, i, hil, h⟩)
        have HIG := Lib.hid hig
        clear hv hc2 y0 y1 z0 z1 hig hil hvl
        generalize (cA o i).1 = a at *
        generalize (cA o i).2 = a' at *
        generalize (cA o v).1 = c at *
        generalize (cA o v).2 = c' at *
        go_wp2
        go_loopg [7, 8] len (fun g s7 s8 wx => ∃ j cn : Nat, j + g = len ∧ s8 = .int .i64 j ∧ s7 = .int .i64 cn ∧ cn ≤ j ∧ Hid (CntP s o i j cn) ∧ Hid (Below w.heap.size w wx))
        case atStart => exact ⟨0, 0, by omega, rfl, rfl, Nat.le_refl _, Lib.hid (cnt_zero _ _ _), HB⟩
        case round =>
          clear HB
          obtain ⟨j, cn, hjg, rfl, rfl, hcn, HC, HB⟩ := hrel
          cases gk with
          | zero =>
            obtain rfl : j = len := by omega
            have HB2 := HB
            by_cases hcase : 0 < cn ∧ cn < j
            · have e1 : (0 : Int) < (cn : Int) := by omega
              have e2 : (cn : Int) < (j : Int) := by omega
              have HQ := Lib.hid (HYes.out ⟨by
                obtain ⟨j', h1, h2⟩ := HC.out.2.1.1 hcase.1
                exact ⟨j', by have := HL.out; omega, h2⟩, by
                obtain ⟨j', h1, h2⟩ := HC.out.2.2.1 hcase.2
                exact ⟨j', by have := HL.out; omega, h2⟩⟩)
              clear hjg
              go_wp2
              go_ret
              exact ⟨⟨true, rfl, Lib.hid ⟨fun _ => HQ.out, fun _ => rfl⟩⟩, HB.out⟩
            · have HY2 : Hid (∀ i', i' < i + 1 → ¬ ((∃ j, j < s.length ∧ arcQ o i' (cA s j) = true) ∧ ∃ j, j < s.length ∧ arcQ o i' (cA s j) = false)) := Lib.hid (fun i' h => by
                by_cases e : i' = i
                · subst e
                  rintro ⟨⟨u, hu, g1⟩, ⟨u', hu', g2⟩⟩
                  exact hcase ⟨HC.out.2.1.2 ⟨u, by have := HL.out; omega, g1⟩, HC.out.2.2.2 ⟨u', by have := HL.out; omega, g2⟩⟩
                · exact HY.out i' (by omega))
              clear hjg
              by_cases e0 : 0 < cn
              · have e1 : (0 : Int) < (cn : Int) := by omega
                have e2 : ¬ (cn : Int) < (j : Int) := by omega
                go_wp2
                go_roundg g
                case measure => omega
                case rel => exact ⟨i + 1, by have := HIG.out; omega, by go_num, HY2, HB⟩
              · have e1 : ¬ (0 : Int) < (cn : Int) := by omega
                go_wp2
                go_roundg g
                case measure => omega
                case rel => exact ⟨i + 1, by have := HIG.out; omega, by go_num, HY2, HB⟩
          | succ g2 =>
            have hjl : j < s.length := by have := HL.out; omega
            have hjn' : j < len := by omega
            obtain ⟨b1, o1, rfl, hb1, hc1⟩ := HR.out (by rintro rfl; simp at hjl)
            obtain ⟨x0, x1⟩ := hc1 j _ _ (cA_some hjl)
            have hb1w : b1 < wr.heap.size := Nat.lt_of_lt_of_le hb1 HB.out.size
            have hb2w : b2 < wr.heap.size := Nat.lt_of_lt_of_le hb2 HB.out.size
            have S0 : C6 w ⟨b1, o1 + j * 2, none⟩ ⟨b1, o1 + j * 2 + 1, none⟩ ⟨b2, o2 + i * 2, none⟩ ⟨b2, o2 + i * 2 + 1, none⟩ ⟨b2, o2 + v * 2, none⟩ ⟨b2, o2 + v * 2 + 1, none⟩ _ _ _ _ _ _ wr := ⟨HB.out, hb1w, hb1w, hb2w, hb2w, hb2w, hb2w, cellThru HB.out hb1 x0, cellThru HB.out hb1 x1, cellThru HB.out hb2 HYZ.out.1, cellThru HB.out hb2 HYZ.out.2.1, cellThru HB.out hb2 HYZ.out.2.2.1, cellThru HB.out hb2 HYZ.out.2.2.2⟩
            have hxp := isAng_ok (cA_ang HA.out hjl)
            have HIs := Lib.hid (fun w => specArc (cA s j).1 (cA s j).2 a a' c c' w hxp hap hbp)
            have HAj := Lib.hid (HArc.out (cA s j))
            have HJG := Lib.hid hjg
            clear hc1 x0 x1 hjg hjl hxp
            generalize (cA s j).1 = x at *
            generalize (cA s j).2 = x' at *
            obtain ⟨tt, htt⟩ : ∃ tt, arcB x x' a a' c c' = tt := ⟨_, rfl⟩
            rw [htt] at HIs HAj
            clear htt
            cases tt
            · have HC2 := Lib.hid (cnt_no HC.out HAj.out)
              go_wp2_with fail
              refine wp_region_held_drew (S := (C6 w ⟨b1, o1 + j * 2, none⟩ ⟨b1, o1 + j * 2 + 1, none⟩ ⟨b2, o2 + i * 2, none⟩ ⟨b2, o2 + i * 2 + 1, none⟩ ⟨b2, o2 + v * 2, none⟩ ⟨b2, o2 + v * 2 + 1, none⟩ (.int .i64 x) (.int .i64 x') (.int .i64 a) (.int .i64 a') (.int .i64 c) (.int .i64 c'))) (by kernel_rfl) ?_ (fun hHeld => ?_)
              · exact S0.on (Below.refl _ _).drew
              refine wpAnyH_take (i := 0) (v := ?_) rfl (by kernel_rfl) (by kernel_rfl) (by kernel_rfl) (fun _ _ _ h => h) (Or.inl ⟨by kernel_rfl, ?_⟩) hHeld ?_
              rotate_left
              · intro w hSw; obtain ⟨B, z1, z2, z3, z4, z5, z6, x1, x2, x3, x4, x5, x6⟩ := hSw; first | (go_simp; done) | (go_simp; with_reducible rfl)
              refine wpAnyH_take (i := 1) (v := ?_) rfl (by kernel_rfl) (by kernel_rfl) (by kernel_rfl) (fun _ _ _ h => h) (Or.inl ⟨by kernel_rfl, ?_⟩) hHeld ?_
              rotate_left
              · intro w hSw; obtain ⟨B, z1, z2, z3, z4, z5, z6, x1, x2, x3, x4, x5, x6⟩ := hSw; first | (go_simp; done) | (go_simp; with_reducible rfl)
              refine wpAnyH_take (i := 2) (v := ?_) rfl (by kernel_rfl) (by kernel_rfl) (by kernel_rfl) (fun _ _ _ h => h) (Or.inl ⟨by kernel_rfl, ?_⟩) hHeld ?_
              rotate_left
              · intro w hSw; obtain ⟨B, z1, z2, z3, z4, z5, z6, x1, x2, x3, x4, x5, x6⟩ := hSw; first | (go_simp; done) | (go_simp; with_reducible rfl)
              refine wpAnyH_take (i := 3) (v := ?_) rfl (by kernel_rfl) (by kernel_rfl) (by kernel_rfl) (fun _ _ _ h => h) (Or.inl ⟨by kernel_rfl, ?_⟩) hHeld ?_
              rotate_left
              · intro w hSw; obtain ⟨B, z1, z2, z3, z4, z5, z6, x1, x2, x3, x4, x5, x6⟩ := hSw; first | (go_simp; done) | (go_simp; with_reducible rfl)
              refine wpAnyH_take (i := 4) (v := ?_) rfl (by kernel_rfl) (by kernel_rfl) (by kernel_rfl) (fun _ _ _ h => h) (Or.inl ⟨by kernel_rfl, ?_⟩) hHeld ?_
              rotate_left
              · intro w hSw; obtain ⟨B, z1, z2, z3, z4, z5, z6, x1, x2, x3, x4, x5, x6⟩ := hSw; first | (go_simp; done) | (go_simp; with_reducible rfl)
              refine wpAnyH_take (i := 5) (v := ?_) rfl (by kernel_rfl) (by kernel_rfl) (by kernel_rfl) (fun _ _ _ h => h) (Or.inl ⟨by kernel_rfl, ?_⟩) hHeld ?_
              rotate_left
              · intro w hSw; obtain ⟨B, z1, z2, z3, z4, z5, z6, x1, x2, x3, x4, x5, x6⟩ := hSw; first | (go_simp; done) | (go_simp; with_reducible rfl)
              refine wpAnyH_take (i := 6) (v := ?_) rfl (by kernel_rfl) (by kernel_rfl) (by kernel_rfl) (fun _ _ _ h => h) (Or.inl ⟨by kernel_rfl, ?_⟩) hHeld ?_
              rotate_left
              · intro w hSw; obtain ⟨B, z1, z2, z3, z4, z5, z6, x1, x2, x3, x4, x5, x6⟩ := hSw; first | (go_simp; done) | (go_simp; with_reducible rfl)
              refine wpAnyH_take (i := 7) (v := ?_) rfl (by kernel_rfl) (by kernel_rfl) (by kernel_rfl) (fun _ _ _ h => h) (Or.inl ⟨by kernel_rfl, ?_⟩) hHeld ?_
              rotate_left
              · intro w hSw; obtain ⟨B, z1, z2, z3, z4, z5, z6, x1, x2, x3, x4, x5, x6⟩ := hSw; first | (go_simp; done) | (go_simp; with_reducible rfl)
              refine wpAnyH_take (i := 8) (v := ?_) rfl (by kernel_rfl) (by kernel_rfl) (by kernel_rfl) (fun _ _ _ h => h) (Or.inl ⟨by kernel_rfl, ?_⟩) hHeld ?_
              rotate_left
              · intro w hSw; obtain ⟨B, z1, z2, z3, z4, z5, z6, x1, x2, x3, x4, x5, x6⟩ := hSw; first | (go_simp; done) | (go_simp; with_reducible rfl)
              refine wpAnyH_take (i := 9) (v := ?_) rfl (by kernel_rfl) (by kernel_rfl) (by kernel_rfl) (fun _ _ _ h => h) (Or.inl ⟨by kernel_rfl, ?_⟩) hHeld ?_
              rotate_left
              · intro w hSw; obtain ⟨B, z1, z2, z3, z4, z5, z6, x1, x2, x3, x4, x5, x6⟩ := hSw; first | (go_simp; done) | (go_simp; with_reducible rfl)
              refine wpAnyH_take (i := 10) (v := ?_) rfl (by kernel_rfl) (by kernel_rfl) (by kernel_rfl) (fun _ _ _ h => h) (Or.inl ⟨by kernel_rfl, ?_⟩) hHeld ?_
              rotate_left
              · intro w hSw; obtain ⟨B, z1, z2, z3, z4, z5, z6, x1, x2, x3, x4, x5, x6⟩ := hSw; first | (go_simp; done) | (go_simp; with_reducible rfl)
              refine wpAnyH_take (i := 11) (v := ?_) rfl (by kernel_rfl) (by kernel_rfl) (by kernel_rfl) (fun _ _ _ h => h) (Or.inl ⟨by kernel_rfl, ?_⟩) hHeld ?_
              rotate_left
              · intro w hSw; obtain ⟨B, z1, z2, z3, z4, z5, z6, x1, x2, x3, x4, x5, x6⟩ := hSw; first | (go_simp; done) | (go_simp; with_reducible rfl)
              refine wpAnyH_take (i := 12) (v := ?_) rfl (by kernel_rfl) (by kernel_rfl) (by kernel_rfl) (fun _ _ _ h => h) (Or.inl ⟨by kernel_rfl, ?_⟩) hHeld ?_
              rotate_left
              · intro w hSw; obtain ⟨B, z1, z2, z3, z4, z5, z6, x1, x2, x3, x4, x5, x6⟩ := hSw; first | (go_simp; done) | (go_simp; with_reducible rfl)
              refine wpAnyH_take (i := 13) (v := ?_) rfl (by kernel_rfl) (by kernel_rfl) (by kernel_rfl) (fun _ _ _ h => h) (Or.inl ⟨by kernel_rfl, ?_⟩) hHeld ?_
              rotate_left
              · intro w hSw; obtain ⟨B, z1, z2, z3, z4, z5, z6, x1, x2, x3, x4, x5, x6⟩ := hSw; first | (go_simp; done) | (go_simp; with_reducible rfl)
              refine wpAnyH_take (i := 14) (v := ?_) rfl (by kernel_rfl) (by kernel_rfl) (by kernel_rfl) (fun _ _ _ h => h) (Or.inl ⟨by kernel_rfl, ?_⟩) hHeld ?_
              rotate_left
              · intro w hSw; obtain ⟨B, z1, z2, z3, z4, z5, z6, x1, x2, x3, x4, x5, x6⟩ := hSw; first | (go_simp; done) | (go_simp; with_reducible rfl)
              refine wpAnyH_ready (rs := [15]) (by kernel_rfl) (by simp) ?_
              refine AllReadyH.cons rfl (fun K hK => ?_) AllReadyH.nil
              go_simp
              go_wp2_with (go_at_call 86; (with_reducible refine (HIs.out _).mono ?_); rintro e w12 ⟨rfl, hb12⟩)
              have S2 := hHeld.on hb12
              refine hK.out _ _ ?_ (fun hHeld => ?_)
              · exact S2
              clear hK K
              refine wpAnyH_done (by kernel_rfl) ?_ _
              have HB5 := Lib.hid S2.B
              clear S0 S2 HB
              go_wp2
              go_roundg g2
              case measure => omega
              case rel => exact ⟨j + 1, cn, by have := HJG.out; omega, by go_num, rfl, by omega, HC2, HB5⟩
            · have HC2 := Lib.hid (cnt_yes HC.out HAj.out)
              go_wp2_with fail
              refine wp_region_held_drew (S := (C6 w ⟨b1, o1 + j * 2, none⟩ ⟨b1, o1 + j * 2 + 1, none⟩ ⟨b2, o2 + i * 2, none⟩ ⟨b2, o2 + i * 2 + 1, none⟩ ⟨b2, o2 + v * 2, none⟩ ⟨b2, o2 + v * 2 + 1, none⟩ (.int .i64 x) (.int .i64 x') (.int .i64 a) (.int .i64 a') (.int .i64 c) (.int .i64 c'))) (by kernel_rfl) ?_ (fun hHeld => ?_)
              · exact S0.on (Below.refl _ _).drew
              refine wpAnyH_take (i := 0) (v := ?_) rfl (by kernel_rfl) (by kernel_rfl) (by kernel_rfl) (fun _ _ _ h => h) (Or.inl ⟨by kernel_rfl, ?_⟩) hHeld ?_
              rotate_left
              · intro w hSw; obtain ⟨B, z1, z2, z3, z4, z5, z6, x1, x2, x3, x4, x5, x6⟩ := hSw; first | (go_simp; done) | (go_simp; with_reducible rfl)
              refine wpAnyH_take (i := 1) (v := ?_) rfl (by kernel_rfl) (by kernel_rfl) (by kernel_rfl) (fun _ _ _ h => h) (Or.inl ⟨by kernel_rfl, ?_⟩) hHeld ?_
              rotate_left
              · intro w hSw; obtain ⟨B, z1, z2, z3, z4, z5, z6, x1, x2, x3, x4, x5, x6⟩ := hSw; first | (go_simp; done) | (go_simp; with_reducible rfl)
              refine wpAnyH_take (i := 2) (v := ?_) rfl (by kernel_rfl) (by kernel_rfl) (by kernel_rfl) (fun _ _ _ h => h) (Or.inl ⟨by kernel_rfl, ?_⟩) hHeld ?_
              rotate_left
              · intro w hSw; obtain ⟨B, z1, z2, z3, z4, z5, z6, x1, x2, x3, x4, x5, x6⟩ := hSw; first | (go_simp; done) | (go_simp; with_reducible rfl)
              refine wpAnyH_take (i := 3) (v := ?_) rfl (by kernel_rfl) (by kernel_rfl) (by kernel_rfl) (fun _ _ _ h => h) (Or.inl ⟨by kernel_rfl, ?_⟩) hHeld ?_
              rotate_left
              · intro w hSw; obtain ⟨B, z1, z2, z3, z4, z5, z6, x1, x2, x3, x4, x5, x6⟩ := hSw; first | (go_simp; done) | (go_simp; with_reducible rfl)
              refine wpAnyH_take (i := 4) (v := ?_) rfl (by kernel_rfl) (by kernel_rfl) (by kernel_rfl) (fun _ _ _ h => h) (Or.inl ⟨by kernel_rfl, ?_⟩) hHeld ?_
              rotate_left
              · intro w hSw; obtain ⟨B, z1, z2, z3, z4, z5, z6, x1, x2, x3, x4, x5, x6⟩ := hSw; first | (go_simp; done) | (go_simp; with_reducible rfl)
              refine wpAnyH_take (i := 5) (v := ?_) rfl (by kernel_rfl) (by kernel_rfl) (by kernel_rfl) (fun _ _ _ h => h) (Or.inl ⟨by kernel_rfl, ?_⟩) hHeld ?_
              rotate_left
              · intro w hSw; obtain ⟨B, z1, z2, z3, z4, z5, z6, x1, x2, x3, x4, x5, x6⟩ := hSw; first | (go_simp; done) | (go_simp; with_reducible rfl)
              refine wpAnyH_take (i := 6) (v := ?_) rfl (by kernel_rfl) (by kernel_rfl) (by kernel_rfl) (fun _ _ _ h => h) (Or.inl ⟨by kernel_rfl, ?_⟩) hHeld ?_
              rotate_left
              · intro w hSw; obtain ⟨B, z1, z2, z3, z4, z5, z6, x1, x2, x3, x4, x5, x6⟩ := hSw; first | (go_simp; done) | (go_simp; with_reducible rfl)
              refine wpAnyH_take (i := 7) (v := ?_) rfl (by kernel_rfl) (by kernel_rfl) (by kernel_rfl) (fun _ _ _ h => h) (Or.inl ⟨by kernel_rfl, ?_⟩) hHeld ?_
              rotate_left
              · intro w hSw; obtain ⟨B, z1, z2, z3, z4, z5, z6, x1, x2, x3, x4, x5, x6⟩ := hSw; first | (go_simp; done) | (go_simp; with_reducible rfl)
              refine wpAnyH_take (i := 8) (v := ?_) rfl (by kernel_rfl) (by kernel_rfl) (by kernel_rfl) (fun _ _ _ h => h) (Or.inl ⟨by kernel_rfl, ?_⟩) hHeld ?_
              rotate_left
              · intro w hSw; obtain ⟨B, z1, z2, z3, z4, z5, z6, x1, x2, x3, x4, x5, x6⟩ := hSw; first | (go_simp; done) | (go_simp; with_reducible rfl)
              refine wpAnyH_take (i := 9) (v := ?_) rfl (by kernel_rfl) (by kernel_rfl) (by kernel_rfl) (fun _ _ _ h => h) (Or.inl ⟨by kernel_rfl, ?_⟩) hHeld ?_
              rotate_left
              · intro w hSw; obtain ⟨B, z1, z2, z3, z4, z5, z6, x1, x2, x3, x4, x5, x6⟩ := hSw; first | (go_simp; done) | (go_simp; with_reducible rfl)
              refine wpAnyH_take (i := 10) (v := ?_) rfl (by kernel_rfl) (by kernel_rfl) (by kernel_rfl) (fun _ _ _ h => h) (Or.inl ⟨by kernel_rfl, ?_⟩) hHeld ?_
              rotate_left
              · intro w hSw; obtain ⟨B, z1, z2, z3, z4, z5, z6, x1, x2, x3, x4, x5, x6⟩ := hSw; first | (go_simp; done) | (go_simp; with_reducible rfl)
              refine wpAnyH_take (i := 11) (v := ?_) rfl (by kernel_rfl) (by kernel_rfl) (by kernel_rfl) (fun _ _ _ h => h) (Or.inl ⟨by kernel_rfl, ?_⟩) hHeld ?_
              rotate_left
              · intro w hSw; obtain ⟨B, z1, z2, z3, z4, z5, z6, x1, x2, x3, x4, x5, x6⟩ := hSw; first | (go_simp; done) | (go_simp; with_reducible rfl)
              refine wpAnyH_take (i := 12) (v := ?_) rfl (by kernel_rfl) (by kernel_rfl) (by kernel_rfl) (fun _ _ _ h => h) (Or.inl ⟨by kernel_rfl, ?_⟩) hHeld ?_
              rotate_left
              · intro w hSw; obtain ⟨B, z1, z2, z3, z4, z5, z6, x1, x2, x3, x4, x5, x6⟩ := hSw; first | (go_simp; done) | (go_simp; with_reducible rfl)
              refine wpAnyH_take (i := 13) (v := ?_) rfl (by kernel_rfl) (by kernel_rfl) (by kernel_rfl) (fun _ _ _ h => h) (Or.inl ⟨by kernel_rfl, ?_⟩) hHeld ?_
              rotate_left
              · intro w hSw; obtain ⟨B, z1, z2, z3, z4, z5, z6, x1, x2, x3, x4, x5, x6⟩ := hSw; first | (go_simp; done) | (go_simp; with_reducible rfl)
              refine wpAnyH_take (i := 14) (v := ?_) rfl (by kernel_rfl) (by kernel_rfl) (by kernel_rfl) (fun _ _ _ h => h) (Or.inl ⟨by kernel_rfl, ?_⟩) hHeld ?_
              rotate_left
              · intro w hSw; obtain ⟨B, z1, z2, z3, z4, z5, z6, x1, x2, x3, x4, x5, x6⟩ := hSw; first | (go_simp; done) | (go_simp; with_reducible rfl)
              refine wpAnyH_ready (rs := [15]) (by kernel_rfl) (by simp) ?_
              refine AllReadyH.cons rfl (fun K hK => ?_) AllReadyH.nil
              go_simp
              go_wp2_with (go_at_call 86; (with_reducible refine (HIs.out _).mono ?_); rintro e w12 ⟨rfl, hb12⟩)
              have S2 := hHeld.on hb12
              refine hK.out _ _ ?_ (fun hHeld => ?_)
              · exact S2
              clear hK K
              refine wpAnyH_done (by kernel_rfl) ?_ _
              have HB5 := Lib.hid S2.B
              clear S0 S2 HB
              go_wp2
              go_roundg g2
              case measure => omega
              case rel => exact ⟨j + 1, cn + 1, by have := HJG.out; omega, by go_num, by go_num, by omega, HC2, HB5⟩

theorem find_pos {x : Int × Int} {k : Nat} (h : findOrb x 65 0 = some k) : 0 < k := by
  have h1 := (find_le x 65 0 h).2.2.1
  unfold hit at h1
  rw [Bool.and_eq_true] at h1
  have := of_decide_eq_true h1.1
  omega
/-- What is known of the angles ahead of the one with the number j in the set i. -/
def PerP (ls : List (List (Int × Int))) (i j P : Nat) : Prop :=
  (P = 0 → ∀ i' j', (i' < i ∨ (i' = i ∧ j' < j)) → i' < ls.length → ¬ j' < (gA ls i').length) ∧
    (P ≠ 0 → (∀ i' j', (i' < i ∨ (i' = i ∧ j' < j)) → i' < ls.length → j' < (gA ls i').length → perQ (cA (gA ls i') j') = some P) ∧ ∃ i' j', i' < ls.length ∧ j' < (gA ls i').length ∧ perQ (cA (gA ls i') j') = some P)
theorem per_start (ls : List (List (Int × Int))) : PerP ls 0 0 0 := ⟨fun _ i' j' h => by omega, fun h => absurd rfl h⟩
theorem per_next {ls : List (List (Int × Int))} {i j P : Nat} (hj : (gA ls i).length ≤ j) (h : PerP ls i j P) : PerP ls (i + 1) 0 P := by
  refine ⟨fun hP i' j' hb hi => ?_, fun hP => ⟨fun i' j' hb hi hj' => ?_, (h.2 hP).2⟩⟩
  · by_cases e : i' = i
    · subst e
      intro hh
      exact h.1 hP i' j' (by omega) hi hh
    · exact h.1 hP i' j' (by omega) hi
  · by_cases e : i' = i
    · subst e
      exact (h.2 hP).1 i' j' (by omega) hi hj'
    · exact (h.2 hP).1 i' j' (by omega) hi hj'
theorem per_step {ls : List (List (Int × Int))} {i j P m : Nat} (hi : i < ls.length) (hj : j < (gA ls i).length) (hm : 0 < m) (hq : perQ (cA (gA ls i) j) = some m) (hc : P = 0 ∨ P = m) (h : PerP ls i j P) : PerP ls i (j + 1) m := by
  refine ⟨fun e => by omega, fun _ => ⟨fun i' j' hb hi' hj' => ?_, i, j, hi, hj, hq⟩⟩
  by_cases e : i' = i ∧ j' = j
  · obtain ⟨rfl, rfl⟩ := e; exact hq
  · have hb' : i' < i ∨ (i' = i ∧ j' < j) := by omega
    rcases hc with hc | hc
    · exact absurd hj' (h.1 hc i' j' hb' hi')
    · subst hc
      exact (h.2 (by omega)).1 i' j' hb' hi' hj'
theorem per_bad {ls : List (List (Int × Int))} {i j P m : Nat} (hi : i < ls.length) (hj : j < (gA ls i).length) (hq : perQ (cA (gA ls i) j) = some m) (hP : P ≠ 0) (hne : m ≠ P) (h : PerP ls i j P) : ¬ SamP ls := by
  rintro ⟨k, hk⟩
  obtain ⟨i', j', h1, h2, h3⟩ := (h.2 hP).2
  have a := hk i j hi hj
  have b := hk i' j' h1 h2
  rw [hq] at a
  rw [h3] at b
  rw [← b] at a
  injection a with a
  exact hne a
theorem per_none {ls : List (List (Int × Int))} {i j : Nat} (hi : i < ls.length) (hj : j < (gA ls i).length) (hq : perQ (cA (gA ls i) j) = none) : ¬ SamP ls := by
  rintro ⟨k, hk⟩
  have a := hk i j hi hj
  rw [hq] at a; cases a
theorem per_end {ls : List (List (Int × Int))} {P : Nat} (h0 : 0 < ls.length) (h1 : 0 < (gA ls 0).length) (h : PerP ls ls.length 0 P) : SamP ls := by
  by_cases hP : P = 0
  · exact absurd h1 (h.1 hP 0 0 (by omega) h0)
  · exact ⟨P, fun i j hi hj => (h.2 hP).1 i j (by omega) hi hj⟩

/-- What tells the first condition that fails. -/
def ResFail (w : World) (ls : List (List (Int × Int))) (e : Ending) (w' : World) : Prop := (∃ C : Int, e = .returned (.int .i64 C) ∧ Hid (FailP ls C)) ∧ Below w.heap.size w w'

set_option maxRecDepth 8000 in
set_option maxHeartbeats 8000000 in
theorem specFails (A : Option Addr) (n cap : Nat) (ls : List (List (Int × Int))) (w : World) (hr : SetsRow w w.heap.size A ls) (hn : ls.length = n) (hm : n ≤ 1100000) (ht : totL ls ≤ 900000) (ha : ∀ l ∈ ls, allAng l = true) (h0 : ∀ l ∈ ls, 0 < l.length) (hn0 : 0 < n) :
    Calls Try.prog 33 #[.slice A n cap] w (ResFail w ls) := by
  have HAp := Lib.hid (specApart A n cap ls w hr hn hm (by omega))
  have HR := Lib.hid hr
  have HN := Lib.hid hn
  have HTt := Lib.hid ht
  have HAll := Lib.hid ha
  have H0 := Lib.hid h0
  have hl0 : 0 < ls.length := by omega
  obtain ⟨b, off, rfl, hbb, hc⟩ := hr.form hl0
  have HCs := Lib.hid hc
  have hnn : ¬ (n : Int) = 0 := by omega
  have hnn' : ¬ n = 0 := by omega
  clear hr hn ht ha h0 hc hl0
  go_enter Try.func33, Try.ntmps33
  go_wp2_with fail
  refine HAp.out.mono ?_
  rintro e w1 ⟨⟨r, rfl, HE1⟩, hb1⟩
  have HB1 := Lib.hid hb1
  clear hb1
  cases r
  · have HNo : Hid (¬ ApP ls) := Lib.hid (fun h => by have := HE1.out.2 h; cases this)
    go_wp2
    go_ret
    exact ⟨⟨1, rfl, Lib.hid (.inl ⟨rfl, HNo.out⟩)⟩, HB1.out⟩
  · have HAP := Lib.hid (HE1.out.1 rfl)
    clear HE1
    go_wp2
    go_loopg [4] n (fun g ix wr => ∃ i : Nat, i + g = n ∧ ix = .int .i64 i ∧ Hid (∀ i', i' < i → LedP (gA ls i') (nxA ls i')) ∧ Hid (Below w.heap.size w wr))
    case atStart => exact ⟨0, by omega, rfl, Lib.hid (fun i' h => absurd h (by omega)), HB1⟩
    case round =>
      clear HB1
      obtain ⟨i, hig, rfl, HY, HB⟩ := hrel
      cases gk with
      | succ g =>
        have hil : i < ls.length := by have := HN.out; omega
        have hin : i < n := by omega
        have hjl : (i + 1) % ls.length < ls.length := Nat.mod_lt _ (by omega)
        have hjn : (i + 1) % n = (i + 1) % ls.length := by rw [HN.out]
        obtain ⟨hm1, hm2, hjn2⟩ := remQ (a := i + 1) (n := n) (by omega)
        obtain ⟨j, hj⟩ : ∃ j, (i + 1) % ls.length = j := ⟨_, rfl⟩
        have HNx : Hid (nxA ls i = gA ls j) := Lib.hid (by unfold nxA; rw [hj])
        rw [hj] at hjl hjn
        rw [hjn] at hm1 hm2 hjn2
        clear hjn
        have hm1 : ((i : Int) + 1).tmod (n : Int) = (j : Int) := hm1
        have hm2 : ((i : Int) + 1) % (n : Int) = (j : Int) := hm2
        have hjI : (j : Int) < (n : Int) := by omega
        have hwj : IntKind.i64.wrap (j : Int) = (j : Int) := IntWalk.i64_in _ (by omega)
        have hw1 : IntKind.i64.wrap ((i : Int) + 1) = (i : Int) + 1 := IntWalk.i64_in _ (by omega)
        obtain ⟨Ai, ci, x0, hrow⟩ := HCs.out i hil
        obtain ⟨Aj, cj, x1, hrow2⟩ := HCs.out j hjl
        have hle := len_tot hil
        have hle2 := len_tot hjl
        have hTt := HTt.out
        have hbw : b < wr.heap.size := Nat.lt_of_lt_of_le hbb HB.out.size
        obtain ⟨len, hlen⟩ : ∃ len, (gA ls i).length = len := ⟨_, rfl⟩
        obtain ⟨len2, hlen2⟩ : ∃ len, (gA ls j).length = len := ⟨_, rfl⟩
        rw [hlen] at x0
        rw [hlen2] at x1
        have S0 : C4 w ⟨b, off + i, none⟩ ⟨b, off + j, none⟩ ⟨b, off + j, none⟩ ⟨b, off + j, none⟩ _ _ _ _ wr := ⟨HB.out, hbw, hbw, hbw, hbw, cellThru HB.out hbb x0, cellThru HB.out hbb x1, cellThru HB.out hbb x1, cellThru HB.out hbb x1⟩
        clear x0 x1
        have HIG := Lib.hid hig
        have HLe := Lib.hid (fun W (hB : Below w.heap.size w W) => specLed Ai (gA ls i).length ci (gA ls i) Aj (gA ls j).length cj (gA ls j) W ((hrow.below hB).more hB.size) rfl (by omega) (HAll.out _ (gA_mem hil)) ((hrow2.below hB).more hB.size) rfl (by omega))
        have HNoL : Hid (¬ LedP (gA ls i) (gA ls j) → ¬ LdP ls) := Lib.hid (fun h g => h (by rw [← HNx.out]; exact g i hil))
        have HYes : Hid (LedP (gA ls i) (gA ls j) → LedP (gA ls i) (nxA ls i)) := Lib.hid (fun h => by rw [HNx.out]; exact h)
        rw [hlen, hlen2] at HLe
        clear hrow hrow2 hlen hlen2 hle hle2 hTt hig hj hil hjl
        go_wp2_with fail
        refine wp_region_held_drew (S := (C4 w ⟨b, off + i, none⟩ ⟨b, off + j, none⟩ ⟨b, off + j, none⟩ ⟨b, off + j, none⟩ (.slice Ai len ci) (.slice Aj len2 cj) (.slice Aj len2 cj) (.slice Aj len2 cj))) (by kernel_rfl) ?_ (fun hHeld => ?_)
        · exact S0.on (Below.refl _ _).drew
        refine wpAnyH_take (i := 0) (v := ?_) rfl (by kernel_rfl) (by kernel_rfl) (by kernel_rfl) (fun _ _ _ h => h) (Or.inl ⟨by kernel_rfl, ?_⟩) hHeld ?_
        rotate_left
        · intro w hSw; obtain ⟨B, z1, z2, z3, z4, x1, x2, x3, x4⟩ := hSw; first | (go_simp; done) | (go_simp; with_reducible rfl)
        refine wpAnyH_take (i := 1) (v := ?_) rfl (by kernel_rfl) (by kernel_rfl) (by kernel_rfl) (fun _ _ _ h => h) (Or.inl ⟨by kernel_rfl, ?_⟩) hHeld ?_
        rotate_left
        · intro w hSw; obtain ⟨B, z1, z2, z3, z4, x1, x2, x3, x4⟩ := hSw; first | (go_simp; done) | (go_simp; with_reducible rfl)
        refine wpAnyH_take (i := 2) (v := ?_) rfl (by kernel_rfl) (by kernel_rfl) (by kernel_rfl) (fun _ _ _ h => h) (Or.inl ⟨by kernel_rfl, ?_⟩) hHeld ?_
        rotate_left
        · intro w hSw; obtain ⟨B, z1, z2, z3, z4, x1, x2, x3, x4⟩ := hSw; first | (go_simp; done) | (go_simp; with_reducible rfl)
        refine wpAnyH_take (i := 3) (v := ?_) rfl (by kernel_rfl) (by kernel_rfl) (by kernel_rfl) (fun _ _ _ h => h) (Or.inl ⟨by kernel_rfl, ?_⟩) hHeld ?_
        rotate_left
        · intro w hSw; obtain ⟨B, z1, z2, z3, z4, x1, x2, x3, x4⟩ := hSw; first | (go_simp; done) | (go_simp; with_reducible rfl)
        refine wpAnyH_take (i := 4) (v := ?_) rfl (by kernel_rfl) (by kernel_rfl) (by kernel_rfl) (fun _ _ _ h => h) (Or.inl ⟨by kernel_rfl, ?_⟩) hHeld ?_
        rotate_left
        · intro w hSw; obtain ⟨B, z1, z2, z3, z4, x1, x2, x3, x4⟩ := hSw; first | (go_simp; done) | (go_simp; with_reducible rfl)
        refine wpAnyH_take (i := 5) (v := ?_) rfl (by kernel_rfl) (by kernel_rfl) (by kernel_rfl) (fun _ _ _ h => h) (Or.inl ⟨by kernel_rfl, ?_⟩) hHeld ?_
        rotate_left
        · intro w hSw; obtain ⟨B, z1, z2, z3, z4, x1, x2, x3, x4⟩ := hSw; first | (go_simp; done) | (go_simp; with_reducible rfl)
        refine wpAnyH_take (i := 6) (v := ?_) rfl (by kernel_rfl) (by kernel_rfl) (by kernel_rfl) (fun _ _ _ h => h) (Or.inl ⟨by kernel_rfl, ?_⟩) hHeld ?_
        rotate_left
        · intro w hSw; obtain ⟨B, z1, z2, z3, z4, x1, x2, x3, x4⟩ := hSw; first | (go_simp; done) | (go_simp; with_reducible rfl)
        refine wpAnyH_take (i := 7) (v := ?_) rfl (by kernel_rfl) (by kernel_rfl) (by kernel_rfl) (fun _ _ _ h => h) (Or.inl ⟨by kernel_rfl, ?_⟩) hHeld ?_
        rotate_left
        · intro w hSw; obtain ⟨B, z1, z2, z3, z4, x1, x2, x3, x4⟩ := hSw; first | (go_simp; done) | (go_simp; with_reducible rfl)
        refine wpAnyH_take (i := 8) (v := ?_) rfl (by kernel_rfl) (by kernel_rfl) (by kernel_rfl) (fun _ _ _ h => h) (Or.inl ⟨by kernel_rfl, ?_⟩) hHeld ?_
        rotate_left
        · intro w hSw; obtain ⟨B, z1, z2, z3, z4, x1, x2, x3, x4⟩ := hSw; first | (go_simp; done) | (go_simp; with_reducible rfl)
        refine wpAnyH_take (i := 9) (v := ?_) rfl (by kernel_rfl) (by kernel_rfl) (by kernel_rfl) (fun _ _ _ h => h) (Or.inl ⟨by kernel_rfl, ?_⟩) hHeld ?_
        rotate_left
        · intro w hSw; obtain ⟨B, z1, z2, z3, z4, x1, x2, x3, x4⟩ := hSw; first | (go_simp; done) | (go_simp; with_reducible rfl)
        refine wpAnyH_take (i := 10) (v := ?_) rfl (by kernel_rfl) (by kernel_rfl) (by kernel_rfl) (fun _ _ _ h => h) (Or.inl ⟨by kernel_rfl, ?_⟩) hHeld ?_
        rotate_left
        · intro w hSw; obtain ⟨B, z1, z2, z3, z4, x1, x2, x3, x4⟩ := hSw; first | (go_simp; done) | (go_simp; with_reducible rfl)
        refine wpAnyH_ready (rs := [11]) (by kernel_rfl) (by simp) ?_
        refine AllReadyH.cons rfl (fun K hK => ?_) AllReadyH.nil
        go_simp
        go_wp2_with (go_at_call 65; (with_reducible refine (HLe.out _ hHeld.B).mono ?_); rintro e w12 ⟨⟨r, rfl, HE⟩, hb12⟩)
        have S2 := hHeld.on hb12
        refine hK.out _ _ ?_ (fun hHeld => ?_)
        · exact S2
        clear hK K
        refine wpAnyH_take (i := 12) (v := ?_) rfl (by kernel_rfl) (by kernel_rfl) (by kernel_rfl) (fun _ _ _ h => h) (Or.inl ⟨by kernel_rfl, ?_⟩) hHeld ?_
        rotate_left
        · intro w hSw; obtain ⟨B, z1, z2, z3, z4, x1, x2, x3, x4⟩ := hSw; first | (go_simp; done) | (go_simp; with_reducible rfl)
        refine wpAnyH_done (by kernel_rfl) ?_ _
        have HB5 := Lib.hid S2.B
        clear S0 S2 HB
        cases r
        · have HN2 := Lib.hid (HNoL.out (fun h => by have := HE.out.2 h; cases this))
          go_wp2
          go_ret
          exact ⟨⟨2, rfl, Lib.hid (.inr (.inl ⟨rfl, HAP.out, HN2.out⟩))⟩, HB5.out⟩
        · have HY2 := Lib.hid (HYes.out (HE.out.1 rfl))
          go_wp2
          go_roundg g
          case measure => omega
          case rel =>
            refine ⟨i + 1, by have := HIG.out; omega, by go_num, Lib.hid (fun i' h => ?_), HB5⟩
            by_cases e : i' = i
            · subst e; exact HY2.out
            · exact HY.out i' (by omega)
      | zero =>
        obtain rfl : i = n := by omega
        have HLD : Hid (LdP ls) := Lib.hid (fun i' h => HY.out i' (by have := HN.out; omega))
        clear hig HY
        go_wp2
        go_loopg [5] i (fun g ix wr => ∃ k : Nat, k + g = i ∧ ix = .int .i64 k ∧ Hid (∀ i', i' < k → OrdP (gA ls i') (nxA ls i')) ∧ Hid (Below w.heap.size w wr))
        case atStart => exact ⟨0, by omega, rfl, Lib.hid (fun i' h => absurd h (by omega)), HB⟩
        case round =>
          clear HB
          obtain ⟨n, rfl⟩ : ∃ x, x = i := ⟨_, rfl⟩
          obtain ⟨i, hig, rfl, HY, HB⟩ := hrel
          cases gk with
          | succ g =>
            have hil : i < ls.length := by have := HN.out; omega
            have hin : i < n := by omega
            have hjl : (i + 1) % ls.length < ls.length := Nat.mod_lt _ (by omega)
            have hjn : (i + 1) % n = (i + 1) % ls.length := by rw [HN.out]
            obtain ⟨hm1, hm2, hjn2⟩ := remQ (a := i + 1) (n := n) (by omega)
            obtain ⟨j, hj⟩ : ∃ j, (i + 1) % ls.length = j := ⟨_, rfl⟩
            have HNx : Hid (nxA ls i = gA ls j) := Lib.hid (by unfold nxA; rw [hj])
            rw [hj] at hjl hjn
            rw [hjn] at hm1 hm2 hjn2
            clear hjn
            have hm1 : ((i : Int) + 1).tmod (n : Int) = (j : Int) := hm1
            have hm2 : ((i : Int) + 1) % (n : Int) = (j : Int) := hm2
            have hjI : (j : Int) < (n : Int) := by omega
            have hwj : IntKind.i64.wrap (j : Int) = (j : Int) := IntWalk.i64_in _ (by omega)
            have hw1 : IntKind.i64.wrap ((i : Int) + 1) = (i : Int) + 1 := IntWalk.i64_in _ (by omega)
            obtain ⟨Ai, ci, x0, hrow⟩ := HCs.out i hil
            obtain ⟨Aj, cj, x1, hrow2⟩ := HCs.out j hjl
            have hle := len_tot hil
            have hle2 := len_tot hjl
            have hTt := HTt.out
            have hbw : b < wr.heap.size := Nat.lt_of_lt_of_le hbb HB.out.size
            obtain ⟨len, hlen⟩ : ∃ len, (gA ls i).length = len := ⟨_, rfl⟩
            obtain ⟨len2, hlen2⟩ : ∃ len, (gA ls j).length = len := ⟨_, rfl⟩
            rw [hlen] at x0
            rw [hlen2] at x1
            have S0 : C4 w ⟨b, off + i, none⟩ ⟨b, off + j, none⟩ ⟨b, off + j, none⟩ ⟨b, off + j, none⟩ _ _ _ _ wr := ⟨HB.out, hbw, hbw, hbw, hbw, cellThru HB.out hbb x0, cellThru HB.out hbb x1, cellThru HB.out hbb x1, cellThru HB.out hbb x1⟩
            clear x0 x1
            have HIG := Lib.hid hig
            have HLe := Lib.hid (fun W (hB : Below w.heap.size w W) => specOrd Ai (gA ls i).length ci (gA ls i) Aj (gA ls j).length cj (gA ls j) W ((hrow.below hB).more hB.size) rfl (by omega) (HAll.out _ (gA_mem hil)) ((hrow2.below hB).more hB.size) rfl (by rw [← HNx.out]; exact HLD.out i hil))
            have HNoL : Hid (¬ OrdP (gA ls i) (gA ls j) → ¬ OdP ls) := Lib.hid (fun h g => h (by rw [← HNx.out]; exact g i hil))
            have HYes : Hid (OrdP (gA ls i) (gA ls j) → OrdP (gA ls i) (nxA ls i)) := Lib.hid (fun h => by rw [HNx.out]; exact h)
            rw [hlen, hlen2] at HLe
            clear hrow hrow2 hlen hlen2 hle hle2 hTt hig hj hil hjl
            go_wp2_with fail
            refine wp_region_held_drew (S := (C4 w ⟨b, off + i, none⟩ ⟨b, off + j, none⟩ ⟨b, off + j, none⟩ ⟨b, off + j, none⟩ (.slice Ai len ci) (.slice Aj len2 cj) (.slice Aj len2 cj) (.slice Aj len2 cj))) (by kernel_rfl) ?_ (fun hHeld => ?_)
            · exact S0.on (Below.refl _ _).drew
            refine wpAnyH_take (i := 0) (v := ?_) rfl (by kernel_rfl) (by kernel_rfl) (by kernel_rfl) (fun _ _ _ h => h) (Or.inl ⟨by kernel_rfl, ?_⟩) hHeld ?_
            rotate_left
            · intro w hSw; obtain ⟨B, z1, z2, z3, z4, x1, x2, x3, x4⟩ := hSw; first | (go_simp; done) | (go_simp; with_reducible rfl)
            refine wpAnyH_take (i := 1) (v := ?_) rfl (by kernel_rfl) (by kernel_rfl) (by kernel_rfl) (fun _ _ _ h => h) (Or.inl ⟨by kernel_rfl, ?_⟩) hHeld ?_
            rotate_left
            · intro w hSw; obtain ⟨B, z1, z2, z3, z4, x1, x2, x3, x4⟩ := hSw; first | (go_simp; done) | (go_simp; with_reducible rfl)
            refine wpAnyH_take (i := 2) (v := ?_) rfl (by kernel_rfl) (by kernel_rfl) (by kernel_rfl) (fun _ _ _ h => h) (Or.inl ⟨by kernel_rfl, ?_⟩) hHeld ?_
            rotate_left
            · intro w hSw; obtain ⟨B, z1, z2, z3, z4, x1, x2, x3, x4⟩ := hSw; first | (go_simp; done) | (go_simp; with_reducible rfl)
            refine wpAnyH_take (i := 3) (v := ?_) rfl (by kernel_rfl) (by kernel_rfl) (by kernel_rfl) (fun _ _ _ h => h) (Or.inl ⟨by kernel_rfl, ?_⟩) hHeld ?_
            rotate_left
            · intro w hSw; obtain ⟨B, z1, z2, z3, z4, x1, x2, x3, x4⟩ := hSw; first | (go_simp; done) | (go_simp; with_reducible rfl)
            refine wpAnyH_take (i := 4) (v := ?_) rfl (by kernel_rfl) (by kernel_rfl) (by kernel_rfl) (fun _ _ _ h => h) (Or.inl ⟨by kernel_rfl, ?_⟩) hHeld ?_
            rotate_left
            · intro w hSw; obtain ⟨B, z1, z2, z3, z4, x1, x2, x3, x4⟩ := hSw; first | (go_simp; done) | (go_simp; with_reducible rfl)
            refine wpAnyH_take (i := 5) (v := ?_) rfl (by kernel_rfl) (by kernel_rfl) (by kernel_rfl) (fun _ _ _ h => h) (Or.inl ⟨by kernel_rfl, ?_⟩) hHeld ?_
            rotate_left
            · intro w hSw; obtain ⟨B, z1, z2, z3, z4, x1, x2, x3, x4⟩ := hSw; first | (go_simp; done) | (go_simp; with_reducible rfl)
            refine wpAnyH_take (i := 6) (v := ?_) rfl (by kernel_rfl) (by kernel_rfl) (by kernel_rfl) (fun _ _ _ h => h) (Or.inl ⟨by kernel_rfl, ?_⟩) hHeld ?_
            rotate_left
            · intro w hSw; obtain ⟨B, z1, z2, z3, z4, x1, x2, x3, x4⟩ := hSw; first | (go_simp; done) | (go_simp; with_reducible rfl)
            refine wpAnyH_take (i := 7) (v := ?_) rfl (by kernel_rfl) (by kernel_rfl) (by kernel_rfl) (fun _ _ _ h => h) (Or.inl ⟨by kernel_rfl, ?_⟩) hHeld ?_
            rotate_left
            · intro w hSw; obtain ⟨B, z1, z2, z3, z4, x1, x2, x3, x4⟩ := hSw; first | (go_simp; done) | (go_simp; with_reducible rfl)
            refine wpAnyH_take (i := 8) (v := ?_) rfl (by kernel_rfl) (by kernel_rfl) (by kernel_rfl) (fun _ _ _ h => h) (Or.inl ⟨by kernel_rfl, ?_⟩) hHeld ?_
            rotate_left
            · intro w hSw; obtain ⟨B, z1, z2, z3, z4, x1, x2, x3, x4⟩ := hSw; first | (go_simp; done) | (go_simp; with_reducible rfl)
            refine wpAnyH_take (i := 9) (v := ?_) rfl (by kernel_rfl) (by kernel_rfl) (by kernel_rfl) (fun _ _ _ h => h) (Or.inl ⟨by kernel_rfl, ?_⟩) hHeld ?_
            rotate_left
            · intro w hSw; obtain ⟨B, z1, z2, z3, z4, x1, x2, x3, x4⟩ := hSw; first | (go_simp; done) | (go_simp; with_reducible rfl)
            refine wpAnyH_take (i := 10) (v := ?_) rfl (by kernel_rfl) (by kernel_rfl) (by kernel_rfl) (fun _ _ _ h => h) (Or.inl ⟨by kernel_rfl, ?_⟩) hHeld ?_
            rotate_left
            · intro w hSw; obtain ⟨B, z1, z2, z3, z4, x1, x2, x3, x4⟩ := hSw; first | (go_simp; done) | (go_simp; with_reducible rfl)
            refine wpAnyH_ready (rs := [11]) (by kernel_rfl) (by simp) ?_
            refine AllReadyH.cons rfl (fun K hK => ?_) AllReadyH.nil
            go_simp
            go_wp2_with (go_at_call 66; (with_reducible refine (HLe.out _ hHeld.B).mono ?_); rintro e w12 ⟨⟨r, rfl, HE⟩, hb12⟩)
            have S2 := hHeld.on hb12
            refine hK.out _ _ ?_ (fun hHeld => ?_)
            · exact S2
            clear hK K
            refine wpAnyH_take (i := 12) (v := ?_) rfl (by kernel_rfl) (by kernel_rfl) (by kernel_rfl) (fun _ _ _ h => h) (Or.inl ⟨by kernel_rfl, ?_⟩) hHeld ?_
            rotate_left
            · intro w hSw; obtain ⟨B, z1, z2, z3, z4, x1, x2, x3, x4⟩ := hSw; first | (go_simp; done) | (go_simp; with_reducible rfl)
            refine wpAnyH_done (by kernel_rfl) ?_ _
            have HB5 := Lib.hid S2.B
            clear S0 S2 HB
            cases r
            · have HN2 := Lib.hid (HNoL.out (fun h => by have := HE.out.2 h; cases this))
              go_wp2
              go_ret
              exact ⟨⟨3, rfl, Lib.hid (.inr (.inr (.inl ⟨rfl, HAP.out, HLD.out, HN2.out⟩)))⟩, HB5.out⟩
            · have HY2 := Lib.hid (HYes.out (HE.out.1 rfl))
              go_wp2
              go_roundg g
              case measure => omega
              case rel =>
                refine ⟨i + 1, by have := HIG.out; omega, by go_num, Lib.hid (fun i' h => ?_), HB5⟩
                by_cases e : i' = i
                · subst e; exact HY2.out
                · exact HY.out i' (by omega)
          | zero =>
            obtain rfl : i = n := by omega
            have HOD : Hid (OdP ls) := Lib.hid (fun i' h => HY.out i' (by have := HN.out; omega))
            clear hig HY
            go_wp2
            go_loopg [6, 7, 8, 9, 10, 11] i (fun g s6 ix _ _ _ _ wr => ∃ k P : Nat, k + g = i ∧ ix = .int .i64 k ∧ s6 = .int .i64 P ∧ P ≤ 65 ∧ Hid (PerP ls k 0 P) ∧ Hid (Below w.heap.size w wr))
            case atStart => exact ⟨0, 0, by omega, rfl, rfl, by omega, Lib.hid (per_start ls), HB⟩
            case round =>
              clear HB
              obtain ⟨n, rfl⟩ : ∃ x, x = i := ⟨_, rfl⟩
              obtain ⟨i, P, hig, rfl, rfl, hP65, HPer, HB⟩ := hrel
              cases gk with
              | succ g =>
                have hil : i < ls.length := by have := HN.out; omega
                have hin : i < n := by omega
                obtain ⟨Ai, ci, x0, hrow⟩ := HCs.out i hil
                have HX0 := Lib.hid x0
                have y0 := cellThru HB.out hbb x0
                have hle := len_tot hil
                have hTt := HTt.out
                have HRow := Lib.hid hrow
                have HAi := Lib.hid (HAll.out _ (gA_mem hil))
                obtain ⟨len, hlen⟩ : ∃ len, (gA ls i).length = len := ⟨_, rfl⟩
                rw [hlen] at HX0 y0 hle
                have HLn := Lib.hid hlen
                have hlm : len ≤ 1100000 := by omega
                have HIG := Lib.hid hig
                have HIL := Lib.hid hil
                have hbw : b < wr.heap.size := Nat.lt_of_lt_of_le hbb HB.out.size
                clear hrow hlen hle hTt hig x0 hil
                go_wp2
                go_loopg [6, 8, 9, 10, 11] len (fun g s6 jx _ _ _ wx => ∃ j P : Nat, j + g = len ∧ jx = .int .i64 j ∧ s6 = .int .i64 P ∧ P ≤ 65 ∧ Hid (PerP ls i j P) ∧ Hid (Below w.heap.size w wx))
                case atStart => exact ⟨0, P, by omega, rfl, rfl, hP65, HPer, HB⟩
                case round =>
                  clear HB y0 HPer hbw hP65
                  obtain ⟨j, P, hjg, rfl, rfl, hP65, HPer, HB⟩ := hrel
                  have y0 := cellThru HB.out hbb HX0.out
                  have hbw : b < wr.heap.size := Nat.lt_of_lt_of_le hbb HB.out.size
                  cases gk with
                  | zero =>
                    obtain rfl : j = len := by omega
                    have HP2 := Lib.hid (per_next (by have := HLn.out; omega) HPer.out)
                    clear hjg
                    go_wp2
                    go_roundg g
                    case measure => omega
                    case rel => exact ⟨i + 1, P, by have := HIG.out; omega, by go_num, rfl, hP65, HP2, HB⟩
                  | succ g5 =>
                    have hjl : j < (gA ls i).length := by have := HLn.out; omega
                    have hjn : j < len := by omega
                    obtain ⟨b1, o1, rfl, hb1, hc1⟩ := HRow.out (by intro h; rw [h] at hjl; simp at hjl)
                    obtain ⟨u0, u1⟩ := hc1 j _ _ (cA_some hjl)
                    have u0 := cellThru HB.out hb1 u0
                    have u1 := cellThru HB.out hb1 u1
                    have hb1w : b1 < wr.heap.size := Nat.lt_of_lt_of_le hb1 HB.out.size
                    have hp : Red (cA (gA ls i) j) := isAng_yes (cA_ang HAi.out hjl)
                    have HS : Hid (∀ w, Calls Try.prog 57 #[ang (cA (gA ls i) j).1 (cA (gA ls i) j).2] w (ResOrb w (cA (gA ls i) j))) := Lib.hid (fun w => specOrbit (cA (gA ls i) j).1 (cA (gA ls i) j).2 w hp)
                    unfold ResOrb at HS
                    have HNone : Hid (perQ (cA (gA ls i) j) = none → ¬ SamP ls) := Lib.hid (per_none HIL.out hjl)
                    have HBad : Hid (∀ m, perQ (cA (gA ls i) j) = some m → P ≠ 0 → m ≠ P → ¬ SamP ls) := Lib.hid (fun m h1 h2 h3 => per_bad HIL.out hjl h1 h2 h3 HPer.out)
                    have HStep : Hid (∀ m, 0 < m → perQ (cA (gA ls i) j) = some m → (P = 0 ∨ P = m) → PerP ls i (j + 1) m) := Lib.hid (fun m h0 h1 h2 => per_step HIL.out hjl h0 h1 h2 HPer.out)
                    have HJG := Lib.hid hjg
                    clear hc1 hjg hjl hp
                    have HPQ : Hid (perQ (cA (gA ls i) j) = match findOrb (cA (gA ls i) j) 65 0 with | some k => if pre (cA (gA ls i) j) = 0 then some k else none | none => none) := Lib.hid rfl
                    cases hf : findOrb (cA (gA ls i) j) 65 0 with
                    | none =>
                      rw [hf] at HS HPQ
                      dsimp only at HS HPQ
                      have HNo := Lib.hid (HNone.out HPQ.out)
                      clear hf HNone HBad HStep HPQ
                      generalize (cA (gA ls i) j).1 = x at *
                      generalize (cA (gA ls i) j).2 = x' at *
                      go_wp2_with fail
                      refine (HS.out _).mono ?_
                      rintro e w2 ⟨rfl, hb2⟩
                      go_wp2
                      go_ret
                      exact ⟨⟨4, rfl, Lib.hid (.inr (.inr (.inr (.inl ⟨rfl, HAP.out, HLD.out, HOD.out, HNo.out⟩))))⟩, belowNext HB.out hb2⟩
                    | some m =>
                      have hm0 := find_pos hf
                      have hm65 : m ≤ 65 := by have := (find_le _ _ _ hf).1; omega
                      rw [hf] at HS HPQ
                      dsimp only at HS HPQ
                      obtain ⟨Q, hQ⟩ : ∃ Q, pre (cA (gA ls i) j) = Q := ⟨_, rfl⟩
                      have hQ14 : Q ≤ 14 := by rw [← hQ]; exact twos_le 14 _
                      rw [hQ] at HS HPQ
                      have hmI : (0 : Int) < (m : Int) := by omega
                      clear hf hQ
                      by_cases hq0 : Q = 0
                      · subst hq0
                        have hpq : perQ (cA (gA ls i) j) = some m := by rw [HPQ.out]; rfl
                        by_cases hP0 : P = 0
                        · have HS2 := Lib.hid (HStep.out m hm0 hpq (.inl hP0))
                          have dP : ¬ (0 : Int) < (P : Int) := by omega
                          clear HNone HBad HStep HPQ hpq
                          generalize (cA (gA ls i) j).1 = x at *
                          generalize (cA (gA ls i) j).2 = x' at *
                          go_wp2_with fail
                          refine (HS.out _).mono ?_
                          rintro e w2 ⟨A2, c2, rfl, ho2, hb2⟩
                          have HB2 : Hid (Below w.heap.size w w2) := Lib.hid (belowNext HB.out hb2)
                          clear ho2 hb2 HB u0 u1
                          go_wp2
                          go_roundg g5
                          case measure => omega
                          case rel => exact ⟨j + 1, m, by have := HJG.out; omega, by go_num, rfl, hm65, HS2, HB2⟩
                        · have dP : (0 : Int) < (P : Int) := by omega
                          by_cases hmP : m = P
                          · have HS2 := Lib.hid (HStep.out m hm0 hpq (.inr hmP.symm))
                            have d2 : ((m : Int) == (P : Int)) = true := by rw [hmP]; simp
                            have d3 : (m : Int) = (P : Int) := by rw [hmP]
                            clear HNone HBad HStep HPQ hpq
                            generalize (cA (gA ls i) j).1 = x at *
                            generalize (cA (gA ls i) j).2 = x' at *
                            go_wp2_with fail
                            refine (HS.out _).mono ?_
                            rintro e w2 ⟨A2, c2, rfl, ho2, hb2⟩
                            have HB2 : Hid (Below w.heap.size w w2) := Lib.hid (belowNext HB.out hb2)
                            clear ho2 hb2 HB u0 u1
                            go_wp2
                            go_roundg g5
                            case measure => omega
                            case rel => exact ⟨j + 1, m, by have := HJG.out; omega, by go_num, by first | rfl | rw [hmP], hm65, HS2, HB2⟩
                          · have HNo := Lib.hid (HBad.out m hpq hP0 hmP)
                            have d2 : ((m : Int) == (P : Int)) = false := by simp; omega
                            have d3 : ¬ (m : Int) = (P : Int) := by omega
                            clear HNone HBad HStep HPQ hpq
                            generalize (cA (gA ls i) j).1 = x at *
                            generalize (cA (gA ls i) j).2 = x' at *
                            go_wp2_with fail
                            refine (HS.out _).mono ?_
                            rintro e w2 ⟨A2, c2, rfl, ho2, hb2⟩
                            go_wp2
                            go_ret
                            exact ⟨⟨4, rfl, Lib.hid (.inr (.inr (.inr (.inl ⟨rfl, HAP.out, HLD.out, HOD.out, HNo.out⟩))))⟩, belowNext HB.out hb2⟩
                      · have hpq : perQ (cA (gA ls i) j) = none := by rw [HPQ.out, if_neg hq0]
                        have HNo := Lib.hid (HNone.out hpq)
                        have d2 : ((Q : Int) == 0) = false := by simp; omega
                        have d3 : ¬ (Q : Int) = 0 := by omega
                        clear HNone HBad HStep HPQ hpq
                        generalize (cA (gA ls i) j).1 = x at *
                        generalize (cA (gA ls i) j).2 = x' at *
                        go_wp2_with fail
                        refine (HS.out _).mono ?_
                        rintro e w2 ⟨A2, c2, rfl, ho2, hb2⟩
                        go_wp2
                        go_ret
                        exact ⟨⟨4, rfl, Lib.hid (.inr (.inr (.inr (.inl ⟨rfl, HAP.out, HLD.out, HOD.out, HNo.out⟩))))⟩, belowNext HB.out hb2⟩
              | zero =>
                obtain rfl : i = n := by omega
                have HSa : Hid (SamP ls) := Lib.hid (by
                  have h := HPer.out
                  rw [← HN.out] at h
                  exact per_end (by have := HN.out; omega) (H0.out _ (gA_mem (by have := HN.out; omega))) h)
                clear hig HPer
                go_wp2
                go_loopg [12, 13] i (fun g ix _ wr => ∃ k : Nat, k + g = i ∧ ix = .int .i64 k ∧ Hid (∀ i' k', i' < k → k' < ls.length → i' ≠ k' → ¬ LinkA (gA ls i') (gA ls k')) ∧ Hid (Below w.heap.size w wr))
                case atStart => exact ⟨0, by omega, rfl, Lib.hid (fun i' k' h => absurd h (by omega)), HB⟩
                case round =>
                  clear HB
                  obtain ⟨n, rfl⟩ : ∃ x, x = i := ⟨_, rfl⟩
                  obtain ⟨i, hig, rfl, HY, HB⟩ := hrel
                  cases gk with
                  | zero =>
                    obtain rfl : i = n := by omega
                    have HQ : Hid (UnL ls) := Lib.hid (fun i' k' h1 h2 h3 => HY.out i' k' (by have := HN.out; omega) h2 h3)
                    clear hig
                    go_wp2
                    go_ret
                    exact ⟨⟨0, rfl, Lib.hid (.inr (.inr (.inr (.inr (.inr ⟨rfl, HAP.out, HLD.out, HOD.out, HSa.out, HQ.out⟩)))))⟩, HB.out⟩
                  | succ g =>
                    have hil : i < ls.length := by have := HN.out; omega
                    have hin : i < n := by omega
                    obtain ⟨Ai, ci, x0, hrow⟩ := HCs.out i hil
                    have HX0 := Lib.hid x0
                    have HRow := Lib.hid hrow
                    have hle := len_tot hil
                    have hTt := HTt.out
                    obtain ⟨len, hlen⟩ : ∃ len, (gA ls i).length = len := ⟨_, rfl⟩
                    rw [hlen] at HX0 hle
                    have HLn := Lib.hid hlen
                    have hlm : len ≤ 900000 := by omega
                    have HIG := Lib.hid hig
                    have HIL := Lib.hid hil
                    clear hrow hlen hle hTt hig x0 hil
                    go_wp2
                    go_loopg [13] n (fun g kx wx => ∃ k : Nat, k + g = n ∧ kx = .int .i64 k ∧ Hid (∀ k', k' < k → i ≠ k' → ¬ LinkA (gA ls i) (gA ls k')) ∧ Hid (Below w.heap.size w wx))
                    case atStart => exact ⟨0, by omega, rfl, Lib.hid (fun k' h => absurd h (by omega)), HB⟩
                    case round =>
                      clear HB
                      obtain ⟨k, hkg, rfl, HZ, HB⟩ := hrel
                      cases gk with
                      | zero =>
                        obtain rfl : k = n := by omega
                        have HY2 : Hid (∀ i' k', i' < i + 1 → k' < ls.length → i' ≠ k' → ¬ LinkA (gA ls i') (gA ls k')) := Lib.hid (fun i' k' h1 h2 h3 => by
                          by_cases e : i' = i
                          · subst e; exact HZ.out k' (by have := HN.out; omega) h3
                          · exact HY.out i' k' (by omega) h2 h3)
                        clear hkg
                        go_wp2
                        go_roundg g
                        case measure => omega
                        case rel => exact ⟨i + 1, by have := HIG.out; omega, by go_num, HY2, HB⟩
                      | succ g2 =>
                        have hkl : k < ls.length := by have := HN.out; omega
                        have hkn : k < n := by omega
                        obtain ⟨Ak, ck, x1, hrow2⟩ := HCs.out k hkl
                        have hle2 := len_tot hkl
                        have hTt := HTt.out
                        have HLk := Lib.hid (fun W (hB : Below w.heap.size w W) => specLinked Ai len ci (gA ls i) Ak (gA ls k).length ck (gA ls k) W ((HRow.out.below hB).more hB.size) HLn.out (by omega) (HAll.out _ (gA_mem HIL.out)) ((hrow2.below hB).more hB.size) rfl (by omega) (HAll.out _ (gA_mem hkl)))
                        have HNoU : Hid (i ≠ k → LinkA (gA ls i) (gA ls k) → ¬ UnL ls) := Lib.hid (fun h1 h2 g => g i k HIL.out hkl h1 h2)
                        obtain ⟨len2, hlen2⟩ : ∃ len, (gA ls k).length = len := ⟨_, rfl⟩
                        rw [hlen2] at x1 HLk
                        have hbw : b < wr.heap.size := Nat.lt_of_lt_of_le hbb HB.out.size
                        have S0 : C4 w ⟨b, off + i, none⟩ ⟨b, off + k, none⟩ ⟨b, off + k, none⟩ ⟨b, off + k, none⟩ _ _ _ _ wr := ⟨HB.out, hbw, hbw, hbw, hbw, cellThru HB.out hbb HX0.out, cellThru HB.out hbb x1, cellThru HB.out hbb x1, cellThru HB.out hbb x1⟩
                        have HKG := Lib.hid hkg
                        clear hrow2 hlen2 hle2 hTt hkg x1 hkl
                        by_cases hik : i = k
                        · subst hik
                          have d1 : ((i : Int) == (i : Int)) = true := by simp
                          have d3 : ((i : Int) != (i : Int)) = false := by simp
                          have HZ2 : Hid (∀ k', k' < i + 1 → i ≠ k' → ¬ LinkA (gA ls i) (gA ls k')) := Lib.hid (fun k' h1 h2 => HZ.out k' (by omega) h2)
                          go_wp2_with fail
                          refine wp_region_held_drew (S := (C4 w ⟨b, off + i, none⟩ ⟨b, off + i, none⟩ ⟨b, off + i, none⟩ ⟨b, off + i, none⟩ (.slice Ai len ci) (.slice Ak len2 ck) (.slice Ak len2 ck) (.slice Ak len2 ck))) (by kernel_rfl) ?_ (fun hHeld => ?_)
                          · exact S0.on (Below.refl _ _).drew
                          refine wpAnyH_take (i := 0) (v := ?_) rfl (by kernel_rfl) (by kernel_rfl) (by kernel_rfl) (fun _ _ _ h => h) (Or.inl ⟨by kernel_rfl, ?_⟩) hHeld ?_
                          rotate_left
                          · intro w hSw; obtain ⟨B, z1, z2, z3, z4, x1, x2, x3, x4⟩ := hSw; first | (go_simp; done) | (go_simp; with_reducible rfl)
                          refine wpAnyH_take (i := 1) (v := ?_) rfl (by kernel_rfl) (by kernel_rfl) (by kernel_rfl) (fun _ _ _ h => h) (Or.inl ⟨by kernel_rfl, ?_⟩) hHeld ?_
                          rotate_left
                          · intro w hSw; obtain ⟨B, z1, z2, z3, z4, x1, x2, x3, x4⟩ := hSw; first | (go_simp; done) | (go_simp; with_reducible rfl)
                          refine wpAnyH_take (i := 2) (v := ?_) rfl (by kernel_rfl) (by kernel_rfl) (by kernel_rfl) (fun _ _ _ h => h) (Or.inl ⟨by kernel_rfl, ?_⟩) hHeld ?_
                          rotate_left
                          · intro w hSw; obtain ⟨B, z1, z2, z3, z4, x1, x2, x3, x4⟩ := hSw; first | (go_simp; done) | (go_simp; with_reducible rfl)
                          refine wpAnyH_take (i := 3) (v := ?_) rfl (by kernel_rfl) (by kernel_rfl) (by kernel_rfl) (fun _ _ _ h => h) (Or.inl ⟨by kernel_rfl, ?_⟩) hHeld ?_
                          rotate_left
                          · intro w hSw; obtain ⟨B, z1, z2, z3, z4, x1, x2, x3, x4⟩ := hSw; first | (go_simp; done) | (go_simp; with_reducible rfl)
                          refine wpAnyH_take (i := 4) (v := undef) rfl (by kernel_rfl) (by kernel_rfl) (by kernel_rfl) (fun _ _ _ h => h) (Or.inr ⟨by kernel_rfl, rfl⟩) hHeld ?_
                          go_simp
                          refine wpAnyH_take (i := 5) (v := undef) rfl (by kernel_rfl) (by kernel_rfl) (by kernel_rfl) (fun _ _ _ h => h) (Or.inr ⟨by kernel_rfl, rfl⟩) hHeld ?_
                          go_simp
                          refine wpAnyH_take (i := 6) (v := undef) rfl (by kernel_rfl) (by kernel_rfl) (by kernel_rfl) (fun _ _ _ h => h) (Or.inr ⟨by kernel_rfl, rfl⟩) hHeld ?_
                          go_simp
                          refine wpAnyH_take (i := 7) (v := undef) rfl (by kernel_rfl) (by kernel_rfl) (by kernel_rfl) (fun _ _ _ h => h) (Or.inr ⟨by kernel_rfl, rfl⟩) hHeld ?_
                          go_simp
                          refine wpAnyH_take (i := 8) (v := undef) rfl (by kernel_rfl) (by kernel_rfl) (by kernel_rfl) (fun _ _ _ h => h) (Or.inr ⟨by kernel_rfl, rfl⟩) hHeld ?_
                          go_simp
                          refine wpAnyH_take (i := 9) (v := undef) rfl (by kernel_rfl) (by kernel_rfl) (by kernel_rfl) (fun _ _ _ h => h) (Or.inr ⟨by kernel_rfl, rfl⟩) hHeld ?_
                          go_simp
                          refine wpAnyH_take (i := 10) (v := undef) rfl (by kernel_rfl) (by kernel_rfl) (by kernel_rfl) (fun _ _ _ h => h) (Or.inr ⟨by kernel_rfl, rfl⟩) hHeld ?_
                          go_simp
                          refine wpAnyH_take (i := 11) (v := undef) rfl (by kernel_rfl) (by kernel_rfl) (by kernel_rfl) (fun _ _ _ h => h) (Or.inr ⟨by kernel_rfl, rfl⟩) hHeld ?_
                          go_simp
                          refine wpAnyH_take (i := 12) (v := undef) rfl (by kernel_rfl) (by kernel_rfl) (by kernel_rfl) (fun _ _ _ h => h) (Or.inr ⟨by kernel_rfl, rfl⟩) hHeld ?_
                          go_simp
                          refine wpAnyH_take (i := 13) (v := ?_) rfl (by kernel_rfl) (by kernel_rfl) (by kernel_rfl) (fun _ _ _ h => h) (Or.inl ⟨by kernel_rfl, ?_⟩) hHeld ?_
                          rotate_left
                          · intro w hSw; obtain ⟨B, z1, z2, z3, z4, x1, x2, x3, x4⟩ := hSw; first | (go_simp; done) | (go_simp; with_reducible rfl)
                          refine wpAnyH_done (by kernel_rfl) ?_ _
                          have HB5 := Lib.hid (hHeld.B)
                          clear S0 hHeld HB
                          go_wp2
                          go_roundg g2
                          case measure => omega
                          case rel => exact ⟨i + 1, by have := HKG.out; omega, by go_num, HZ2, HB5⟩
                        · have d1 : ((i : Int) == (k : Int)) = false := by simp; omega
                          have d2 : ¬ (i : Int) = (k : Int) := by omega
                          have d3 : ((i : Int) != (k : Int)) = true := by rw [bne_iff_ne]; exact d2
                          have HIK := Lib.hid hik
                          clear hik
                          go_wp2_with fail
                          refine wp_region_held_drew (S := (C4 w ⟨b, off + i, none⟩ ⟨b, off + k, none⟩ ⟨b, off + k, none⟩ ⟨b, off + k, none⟩ (.slice Ai len ci) (.slice Ak len2 ck) (.slice Ak len2 ck) (.slice Ak len2 ck))) (by kernel_rfl) ?_ (fun hHeld => ?_)
                          · exact S0.on (Below.refl _ _).drew
                          refine wpAnyH_take (i := 0) (v := ?_) rfl (by kernel_rfl) (by kernel_rfl) (by kernel_rfl) (fun _ _ _ h => h) (Or.inl ⟨by kernel_rfl, ?_⟩) hHeld ?_
                          rotate_left
                          · intro w hSw; obtain ⟨B, z1, z2, z3, z4, x1, x2, x3, x4⟩ := hSw; first | (go_simp; done) | (go_simp; with_reducible rfl)
                          refine wpAnyH_take (i := 1) (v := ?_) rfl (by kernel_rfl) (by kernel_rfl) (by kernel_rfl) (fun _ _ _ h => h) (Or.inl ⟨by kernel_rfl, ?_⟩) hHeld ?_
                          rotate_left
                          · intro w hSw; obtain ⟨B, z1, z2, z3, z4, x1, x2, x3, x4⟩ := hSw; first | (go_simp; done) | (go_simp; with_reducible rfl)
                          refine wpAnyH_take (i := 2) (v := ?_) rfl (by kernel_rfl) (by kernel_rfl) (by kernel_rfl) (fun _ _ _ h => h) (Or.inl ⟨by kernel_rfl, ?_⟩) hHeld ?_
                          rotate_left
                          · intro w hSw; obtain ⟨B, z1, z2, z3, z4, x1, x2, x3, x4⟩ := hSw; first | (go_simp; done) | (go_simp; with_reducible rfl)
                          refine wpAnyH_take (i := 3) (v := ?_) rfl (by kernel_rfl) (by kernel_rfl) (by kernel_rfl) (fun _ _ _ h => h) (Or.inl ⟨by kernel_rfl, ?_⟩) hHeld ?_
                          rotate_left
                          · intro w hSw; obtain ⟨B, z1, z2, z3, z4, x1, x2, x3, x4⟩ := hSw; first | (go_simp; done) | (go_simp; with_reducible rfl)
                          refine wpAnyH_take (i := 4) (v := ?_) rfl (by kernel_rfl) (by kernel_rfl) (by kernel_rfl) (fun _ _ _ h => h) (Or.inl ⟨by kernel_rfl, ?_⟩) hHeld ?_
                          rotate_left
                          · intro w hSw; obtain ⟨B, z1, z2, z3, z4, x1, x2, x3, x4⟩ := hSw; first | (go_simp; done) | (go_simp; with_reducible rfl)
                          refine wpAnyH_take (i := 5) (v := ?_) rfl (by kernel_rfl) (by kernel_rfl) (by kernel_rfl) (fun _ _ _ h => h) (Or.inl ⟨by kernel_rfl, ?_⟩) hHeld ?_
                          rotate_left
                          · intro w hSw; obtain ⟨B, z1, z2, z3, z4, x1, x2, x3, x4⟩ := hSw; first | (go_simp; done) | (go_simp; with_reducible rfl)
                          refine wpAnyH_take (i := 6) (v := ?_) rfl (by kernel_rfl) (by kernel_rfl) (by kernel_rfl) (fun _ _ _ h => h) (Or.inl ⟨by kernel_rfl, ?_⟩) hHeld ?_
                          rotate_left
                          · intro w hSw; obtain ⟨B, z1, z2, z3, z4, x1, x2, x3, x4⟩ := hSw; first | (go_simp; done) | (go_simp; with_reducible rfl)
                          refine wpAnyH_take (i := 7) (v := ?_) rfl (by kernel_rfl) (by kernel_rfl) (by kernel_rfl) (fun _ _ _ h => h) (Or.inl ⟨by kernel_rfl, ?_⟩) hHeld ?_
                          rotate_left
                          · intro w hSw; obtain ⟨B, z1, z2, z3, z4, x1, x2, x3, x4⟩ := hSw; first | (go_simp; done) | (go_simp; with_reducible rfl)
                          refine wpAnyH_take (i := 8) (v := ?_) rfl (by kernel_rfl) (by kernel_rfl) (by kernel_rfl) (fun _ _ _ h => h) (Or.inl ⟨by kernel_rfl, ?_⟩) hHeld ?_
                          rotate_left
                          · intro w hSw; obtain ⟨B, z1, z2, z3, z4, x1, x2, x3, x4⟩ := hSw; first | (go_simp; done) | (go_simp; with_reducible rfl)
                          refine wpAnyH_take (i := 9) (v := ?_) rfl (by kernel_rfl) (by kernel_rfl) (by kernel_rfl) (fun _ _ _ h => h) (Or.inl ⟨by kernel_rfl, ?_⟩) hHeld ?_
                          rotate_left
                          · intro w hSw; obtain ⟨B, z1, z2, z3, z4, x1, x2, x3, x4⟩ := hSw; first | (go_simp; done) | (go_simp; with_reducible rfl)
                          refine wpAnyH_take (i := 10) (v := ?_) rfl (by kernel_rfl) (by kernel_rfl) (by kernel_rfl) (fun _ _ _ h => h) (Or.inl ⟨by kernel_rfl, ?_⟩) hHeld ?_
                          rotate_left
                          · intro w hSw; obtain ⟨B, z1, z2, z3, z4, x1, x2, x3, x4⟩ := hSw; first | (go_simp; done) | (go_simp; with_reducible rfl)
                          refine wpAnyH_take (i := 11) (v := ?_) rfl (by kernel_rfl) (by kernel_rfl) (by kernel_rfl) (fun _ _ _ h => h) (Or.inl ⟨by kernel_rfl, ?_⟩) hHeld ?_
                          rotate_left
                          · intro w hSw; obtain ⟨B, z1, z2, z3, z4, x1, x2, x3, x4⟩ := hSw; first | (go_simp; done) | (go_simp; with_reducible rfl)
                          refine wpAnyH_ready (rs := [12]) (by kernel_rfl) (by simp) ?_
                          refine AllReadyH.cons rfl (fun K hK => ?_) AllReadyH.nil
                          go_simp
                          go_wp2_with (go_at_call 67; (with_reducible refine (HLk.out _ hHeld.B).mono ?_); rintro e w12 ⟨⟨r, rfl, HE⟩, hb12⟩)
                          have S2 := hHeld.on hb12
                          refine hK.out _ _ ?_ (fun hHeld => ?_)
                          · exact S2
                          clear hK K
                          refine wpAnyH_take (i := 13) (v := ?_) rfl (by kernel_rfl) (by kernel_rfl) (by kernel_rfl) (fun _ _ _ h => h) (Or.inl ⟨by kernel_rfl, ?_⟩) hHeld ?_
                          rotate_left
                          · intro w hSw; obtain ⟨B, z1, z2, z3, z4, x1, x2, x3, x4⟩ := hSw; first | (go_simp; done) | (go_simp; with_reducible rfl)
                          refine wpAnyH_done (by kernel_rfl) ?_ _
                          have HB5 := Lib.hid S2.B
                          clear S0 S2 HB
                          cases r
                          · have HN2 : Hid (¬ LinkA (gA ls i) (gA ls k)) := Lib.hid (fun h => by have := HE.out.2 h; cases this)
                            go_wp2
                            go_roundg g2
                            case measure => omega
                            case rel =>
                              refine ⟨k + 1, by have := HKG.out; omega, by go_num, Lib.hid (fun k' h1 h2 => ?_), HB5⟩
                              by_cases e : k' = k
                              · subst e; exact HN2.out
                              · exact HZ.out k' (by omega) h2
                          · have HN2 := Lib.hid (HNoU.out HIK.out (HE.out.1 rfl))
                            go_wp2
                            go_ret
                            exact ⟨⟨5, rfl, Lib.hid (.inr (.inr (.inr (.inr (.inl ⟨rfl, HAP.out, HLD.out, HOD.out, HSa.out, HN2.out⟩)))))⟩, HB5.out⟩
end Go.Proofs.Ytfdjoolhmianjaa

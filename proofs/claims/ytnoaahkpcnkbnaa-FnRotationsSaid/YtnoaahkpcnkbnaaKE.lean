/-
  Contracts: PortraitThatFails, on both sides; written by genK11.py.
  A list of lists of angles as an argument of a law: opened, counted, copied, compared; written by genK12.py.
  Contracts: codes of portraits, IsPortrait, ValenceOf, on both sides; the walks of the laws of PortraitThatFails, IsPortrait and ValenceOf; written by genK13.py.
-/
import Derived.Test.YtnoaahkpcnkbnaaKD
namespace Go.Proofs.Ytnoaahkpcnkbnaa
open Go.RowKit

/-- What PortraitThatFails answers. -/
def PtIs (ls : List (List (Int × Int))) (F C : Int) : Prop := (C ≠ 0 ∧ CodeP ls C ∧ F = 0) ∨ (C = 0 ∧ CodeP ls 0 ∧ FailP ls F)
theorem pt_ex (ls : List (List (Int × Int))) : ∃ F C, PtIs ls F C := by
  obtain ⟨C, hC⟩ := code_ex ls
  by_cases h : C = 0
  · subst h
    obtain ⟨F, hF⟩ := fail_ex ls
    exact ⟨F, 0, .inr ⟨rfl, hC, hF⟩⟩
  · exact ⟨0, C, .inl ⟨h, hC, rfl⟩⟩
theorem code_zero {ls : List (List (Int × Int))} (h : CodeP ls 0) : (∀ l ∈ ls, allAng l = true) ∧ ShapeS ls := by
  rcases h with ⟨h, _⟩ | ⟨h, _⟩ | ⟨_, h1, h2⟩
  · omega
  · omega
  · exact ⟨h1, h2⟩

set_option maxRecDepth 8000 in
set_option maxHeartbeats 4000000 in
theorem implPt (A : Option Addr) (n cap : Nat) (ls : List (List (Int × Int))) (w : World) (hr : SetsRow w w.heap.size A ls) (hn : ls.length = n) (hm : n ≤ 1100000) (hcap : n ≤ cap) (ht : totL ls ≤ 1100000) (F C : Int) (h : PtIs ls F C) :
    Calls Try.prog 43 #[.slice A n cap] w fun e w' => e = .returned (.tuple #[.int .i64 F, .int .i64 C]) ∧ Below w.heap.size w w' := by
  have HL := Lib.hid (implCode A n cap ls w hr hn hm ht)
  rcases h with ⟨hC, hcode, rfl⟩ | ⟨rfl, hcode, hF⟩
  · have HC := Lib.hid (fun D (g : CodeP ls D) => code_one hcode g)
    have hC' : (C == 0) = false := beq_eq_false_iff_ne.2 hC
    clear hcode hr hn ht
    go_enter Try.func43, Try.ntmps43
    go_wp2_with fail
    refine HL.out.mono ?_
    rintro e w1 ⟨⟨D, rfl, HD⟩, hb1⟩
    obtain rfl := HC.out D HD.out
    go_wp2
    go_ret2
    exact ⟨rfl, hb1⟩
  · have HC := Lib.hid (fun D (g : CodeP ls D) => code_one hcode g)
    obtain ⟨ha, h1, h12, h64, hs⟩ := code_zero hcode
    have hnd : ∀ l ∈ ls, l.Nodup := fun l hl => asc_nodup (asc_A (ha l hl) (hs l hl).2)
    have HR := Lib.hid hr
    have H1 := Lib.hid (fun W (hB : Below w.heap.size w W) => implApart A n cap ls W (HR.out.next hB) hn hm ht ha)
    have H2 := Lib.hid (fun W (hB : Below w.heap.size w W) => implLedOn A n cap ls W (HR.out.next hB) hn hm (by omega) ha (fun l hl => (hs l hl).1))
    have H3 := Lib.hid (fun W (hB : Below w.heap.size w W) => implKeep A n cap ls W (HR.out.next hB) hn hm (by omega) ha (fun l hl => (hs l hl).1))
    have H4 := Lib.hid (fun W (hB : Below w.heap.size w W) => implOnePer A n cap ls W (HR.out.next hB) hn hm (by omega) ha (fun l hl => (hs l hl).1) (by omega))
    have H5 := Lib.hid (fun W (hB : Below w.heap.size w W) => implUnlinked A n cap ls W (HR.out.next hB) hn hm hcap (by omega) ha)
    have E1 := Lib.hid (ap_iff hnd)
    have E2 := Lib.hid (db_iff ha (fun l hl => (hs l hl).2))
    have E3 := Lib.hid (fun (h : LdP ls) => tn_iff ha (fun l hl => (hs l hl).2) (fun l hl => (hs l hl).1) h)
    have E5 := Lib.hid (fun (h : ApP ls) => un_iff ha (fun l hl => (hs l hl).2) (fun l hl => (hs l hl).1) h)
    have HF := Lib.hid (fun D (g : FailP ls D) => fail_one hF g)
    clear hcode hr hn ht ha hs hF hnd HR h1 h12 h64
    have ix0 : ∀ W, (Instr.index 71 (.agg #[.func (.func 48) #[] #[], .func (.func 49) #[] #[], .func (.func 50) #[] #[], .func (.func 51) #[] #[], .func (.func 52) #[] #[]]) (.int .i64 0)).run Try.prog W = .ok (.func (.func 48) #[] #[]) W := by intro W; kernel_rfl
    have ix1 : ∀ W, (Instr.index 71 (.agg #[.func (.func 48) #[] #[], .func (.func 49) #[] #[], .func (.func 50) #[] #[], .func (.func 51) #[] #[], .func (.func 52) #[] #[]]) (.int .i64 1)).run Try.prog W = .ok (.func (.func 49) #[] #[]) W := by intro W; kernel_rfl
    have ix2 : ∀ W, (Instr.index 71 (.agg #[.func (.func 48) #[] #[], .func (.func 49) #[] #[], .func (.func 50) #[] #[], .func (.func 51) #[] #[], .func (.func 52) #[] #[]]) (.int .i64 2)).run Try.prog W = .ok (.func (.func 50) #[] #[]) W := by intro W; kernel_rfl
    have ix3 : ∀ W, (Instr.index 71 (.agg #[.func (.func 48) #[] #[], .func (.func 49) #[] #[], .func (.func 50) #[] #[], .func (.func 51) #[] #[], .func (.func 52) #[] #[]]) (.int .i64 3)).run Try.prog W = .ok (.func (.func 51) #[] #[]) W := by intro W; kernel_rfl
    have ix4 : ∀ W, (Instr.index 71 (.agg #[.func (.func 48) #[] #[], .func (.func 49) #[] #[], .func (.func 50) #[] #[], .func (.func 51) #[] #[], .func (.func 52) #[] #[]]) (.int .i64 4)).run Try.prog W = .ok (.func (.func 52) #[] #[]) W := by intro W; kernel_rfl
    have cf0 : ∀ args W, (callFunc 48 args).run Try.prog W = .ok (.enter 48 args) W := by intro args W; kernel_rfl
    have cf1 : ∀ args W, (callFunc 49 args).run Try.prog W = .ok (.enter 49 args) W := by intro args W; kernel_rfl
    have cf2 : ∀ args W, (callFunc 50 args).run Try.prog W = .ok (.enter 50 args) W := by intro args W; kernel_rfl
    have cf3 : ∀ args W, (callFunc 51 args).run Try.prog W = .ok (.enter 51 args) W := by intro args W; kernel_rfl
    have cf4 : ∀ args W, (callFunc 52 args).run Try.prog W = .ok (.enter 52 args) W := by intro args W; kernel_rfl
    have hfs : ∀ (p : Addr) (f : Nat) (m : Mode) (W : World), (store p (.func (.func f) #[] #[]) m).run Try.prog W = stored Try.prog W p (.func (.func f) #[] #[]) m := fun p f m W => run_store Try.prog W p _ m rfl
    go_enter Try.func43, Try.ntmps43
    go_wp2_with fail
    refine HL.out.mono ?_
    rintro e w1 ⟨⟨D, rfl, HD⟩, hb1⟩
    obtain rfl := HC.out D HD.out
    have HB1 := Lib.hid (belowAlloc hb1 (.cells #[.func (.func 48) #[] #[], .func (.func 49) #[] #[], .func (.func 50) #[] #[], .func (.func 51) #[] #[], .func (.func 52) #[] #[]] 71))
    go_wp2_with fail
    refine wp_loop_rounds 6 ?_
    rw [rounds_succ]
    go_wp2_with fail
    refine (H1.out _ HB1.out).mono ?_
    rintro e w2 ⟨⟨r, rfl, HE1⟩, hb2⟩
    have HB2 := Lib.hid (belowNext HB1.out hb2)
    clear hb2
    cases r
    · have HFe := Lib.hid (HF.out 1 (.inl ⟨rfl, fun h => by have := HE1.out.2 (E1.out.2 h); cases this⟩))
      go_wp2
      go_ret2
      exact ⟨by rw [HFe.out]; rfl, HB2.out⟩
    · have HP1 := Lib.hid (E1.out.1 (HE1.out.1 rfl))
      clear HB1 HE1
      go_wp2_with fail
      rw [rounds_succ]
      go_wp2_with fail
      refine (H2.out _ HB2.out).mono ?_
      rintro e w3 ⟨⟨r, rfl, HE2⟩, hb3⟩
      have HB3 := Lib.hid (belowNext HB2.out hb3)
      clear hb3
      cases r
      · have HFe := Lib.hid (HF.out 2 (.inr (.inl ⟨rfl, HP1.out, fun h => by have := HE2.out.2 (E2.out.2 h); cases this⟩)))
        go_wp2
        go_ret2
        exact ⟨by rw [HFe.out]; rfl, HB3.out⟩
      · have HP2 := Lib.hid (E2.out.1 (HE2.out.1 rfl))
        clear HB2 HE2
        go_wp2_with fail
        rw [rounds_succ]
        go_wp2_with fail
        refine (H3.out _ HB3.out).mono ?_
        rintro e w4 ⟨⟨r, rfl, HE3⟩, hb4⟩
        have HB4 := Lib.hid (belowNext HB3.out hb4)
        clear hb4
        cases r
        · have HFe := Lib.hid (HF.out 3 (.inr (.inr (.inl ⟨rfl, HP1.out, HP2.out, fun h => by have := HE3.out.2 ((E3.out HP2.out).2 h); cases this⟩))))
          go_wp2
          go_ret2
          exact ⟨by rw [HFe.out]; rfl, HB4.out⟩
        · have HP3 := Lib.hid ((E3.out HP2.out).1 (HE3.out.1 rfl))
          clear HB3 HE3
          go_wp2_with fail
          rw [rounds_succ]
          go_wp2_with fail
          refine (H4.out _ HB4.out).mono ?_
          rintro e w5 ⟨⟨r, rfl, HE4⟩, hb5⟩
          have HB5 := Lib.hid (belowNext HB4.out hb5)
          clear hb5
          cases r
          · have HFe := Lib.hid (HF.out 4 (.inr (.inr (.inr (.inl ⟨rfl, HP1.out, HP2.out, HP3.out, fun h => by have := HE4.out.2 h; cases this⟩)))))
            go_wp2
            go_ret2
            exact ⟨by rw [HFe.out]; rfl, HB5.out⟩
          · have HP4 := Lib.hid (HE4.out.1 rfl)
            clear HB4 HE4
            go_wp2_with fail
            rw [rounds_succ]
            go_wp2_with fail
            refine (H5.out _ HB5.out).mono ?_
            rintro e w6 ⟨⟨r, rfl, HE5⟩, hb6⟩
            have HB6 := Lib.hid (belowNext HB5.out hb6)
            clear hb6
            cases r
            · have HFe := Lib.hid (HF.out 5 (.inr (.inr (.inr (.inr (.inl ⟨rfl, HP1.out, HP2.out, HP3.out, HP4.out, fun h => by have := HE5.out.2 ((E5.out HP1.out).2 h); cases this⟩))))))
              go_wp2
              go_ret2
              exact ⟨by rw [HFe.out]; rfl, HB6.out⟩
            · have HP5 := Lib.hid ((E5.out HP1.out).1 (HE5.out.1 rfl))
              have HFe := Lib.hid (HF.out 0 (.inr (.inr (.inr (.inr (.inr ⟨rfl, HP1.out, HP2.out, HP3.out, HP4.out, HP5.out⟩))))))
              clear HB5 HE5
              go_wp2_with fail
              rw [rounds_succ]
              go_wp2
              go_ret2
              exact ⟨by rw [HFe.out]; rfl, HB6.out⟩

open Go.ChangeShapes Go.WideShapes Go.ChangeAt Go.Joins Go.Deep
section
variable {H : Type} {enc : TypeId × Value → H} {w : World} {base : Nat} {spare : Nat → Bool} {held : Bool}
end

theorem infoSA : (Try.prog.info? 26).map (fun i => (i.zero, i.size, i.bytes)) = some (some (.slice none 0 0), 1, 24) := by kernel_rfl
/-- The first k sets have been copied; the outer block is G. -/
structure FillS (w : World) (G n : Nat) (ls : List (List (Int × Int))) (k : Nat) (W : World) : Prop where
  B : Below w.heap.size w W
  lo : w.heap.size ≤ G
  z : G < W.heap.size
  got : ∀ i, i < k → ∃ Ai ci, W.cell? ⟨G, i, none⟩ = some (.slice Ai (gA ls i).length ci) ∧ AngOwn W (G + 1) Ai (gA ls i)
  there : ∀ o, o < n → ∃ v, W.cell? ⟨G, o, none⟩ = some v
  free : ∀ o, W.frozen? ⟨G, o, none⟩ = false
theorem FillS.on {w W W1 : World} {G n k : Nat} {ls : List (List (Int × Int))} (H : FillS w G n ls k W) (hb : Below W.heap.size W W1) : FillS w G n ls k W1 :=
  ⟨belowNext H.B hb, H.lo, Nat.lt_of_lt_of_le H.z hb.size, fun i hi => by
    obtain ⟨Ai, ci, h1, h2⟩ := H.got i hi
    exact ⟨Ai, ci, cellThru hb H.z h1, h2.next hb⟩, fun o ho => (H.there o ho).imp fun _ hv => cellThru hb H.z hv, fun o => frozThru hb H.z (H.free o)⟩
theorem FillS.put {w W : World} {G n k : Nat} {ls : List (List (Int × Int))} {A : Option Addr} {c : Nat} (H : FillS w G n ls k W) (hk : k < n) (ho : AngOwn W (G + 1) A (gA ls k)) : FillS w G n ls (k + 1) (W.setCell ⟨G, k, none⟩ (.slice A (gA ls k).length c)) := by
  obtain ⟨u, hu⟩ := H.there k hk
  have honly : OnlyB G W (W.setCell ⟨G, k, none⟩ (.slice A (gA ls k).length c)) := (OnlyB.refl _ _).set _ _
  refine ⟨H.B.setCell H.lo _, H.lo, by simpa using H.z, fun i hi => ?_, fun o ho => ?_, fun o => by simpa using H.free o⟩
  · by_cases e : i = k
    · subst e
      exact ⟨A, c, World.cell?_setCell_same _ _ _ hu, AngOwn.only honly ho (by omega)⟩
    · obtain ⟨Ai, ci, h1, h2⟩ := H.got i (by omega)
      refine ⟨Ai, ci, ?_, AngOwn.only honly h2 (by omega)⟩
      rw [World.cell?_setCell_other _ _ _ _ (by first | (simp; done) | simpa using e)]
      exact h1
  · by_cases e : o = k
    · subst e; exact ⟨_, World.cell?_setCell_same _ _ _ hu⟩
    · obtain ⟨v, hv⟩ := H.there o ho
      exact ⟨v, by rw [World.cell?_setCell_other _ _ _ _ (by first | (simp; done) | simpa using e)]; exact hv⟩

/-- The code of a portrait. -/
def CoIs (ls : List (List (Int × Int))) (C : Int) : Prop :=
  (C ≠ 0 ∧ CodeP ls C) ∨ (C = 2 ∧ CodeP ls 0 ∧ ∃ F, F ≠ 0 ∧ FailP ls F) ∨ (C = 0 ∧ CodeP ls 0 ∧ FailP ls 0)
theorem co_ex (ls : List (List (Int × Int))) : ∃ C, CoIs ls C := by
  obtain ⟨C, hC⟩ := code_ex ls
  by_cases h : C = 0
  · subst h
    obtain ⟨F, hF⟩ := fail_ex ls
    by_cases g : F = 0
    · subst g; exact ⟨0, .inr (.inr ⟨rfl, hC, hF⟩)⟩
    · exact ⟨2, .inr (.inl ⟨rfl, hC, F, g, hF⟩)⟩
  · exact ⟨C, .inl ⟨h, hC⟩⟩
/-- Everything that a call is told of the sets. -/
structure ArgS (w : World) (A : Option Addr) (n cap : Nat) (ls : List (List (Int × Int))) : Prop where
  row : SetsRow w w.heap.size A ls
  len : ls.length = n
  hm : n ≤ 1100000
  hcap : n ≤ cap
  ht : totL ls ≤ 1100000
theorem ArgS.next {w w' : World} {A : Option Addr} {n cap : Nat} {ls : List (List (Int × Int))} (h : ArgS w A n cap ls) (hb : Below w.heap.size w w') : ArgS w' A n cap ls := ⟨h.row.next hb, h.len, h.hm, h.hcap, h.ht⟩

set_option maxHeartbeats 1000000 in
theorem implCop (A : Option Addr) (n cap : Nat) (ls : List (List (Int × Int))) (w : World) (hr : ArgS w A n cap ls) (C : Int) (h : CoIs ls C) :
    Calls Try.prog 27 #[.slice A n cap] w fun e w' => e = .returned (.int .i64 C) ∧ Below w.heap.size w w' := by
  have HP := Lib.hid (fun F D (g : PtIs ls F D) => implPt A n cap ls w hr.row hr.len hr.hm hr.hcap hr.ht F D g)
  clear hr
  rcases h with ⟨h1, h2⟩ | ⟨rfl, h2, F, h3, h4⟩ | ⟨rfl, h2, h3⟩
  · have HP := Lib.hid (HP.out 0 C (.inl ⟨h1, h2, rfl⟩))
    clear h1 h2
    go_enter Try.func27, Try.ntmps27
    go_wp2_with fail
    refine HP.out.mono ?_
    rintro e w1 ⟨rfl, hb1⟩
    go_wp2
    go_ret
    exact ⟨rfl, hb1⟩
  · have HP := Lib.hid (HP.out F 0 (.inr ⟨rfl, h2, h4⟩))
    have hF : (F == 0) = false := beq_eq_false_iff_ne.2 h3
    clear h2 h4
    go_enter Try.func27, Try.ntmps27
    go_wp2_with fail
    refine HP.out.mono ?_
    rintro e w1 ⟨rfl, hb1⟩
    go_wp2
    go_ret
    exact ⟨rfl, hb1⟩
  · have HP := Lib.hid (HP.out 0 0 (.inr ⟨rfl, h2, h3⟩))
    clear h2 h3
    go_enter Try.func27, Try.ntmps27
    go_wp2_with fail
    refine HP.out.mono ?_
    rintro e w1 ⟨rfl, hb1⟩
    go_wp2
    go_ret
    exact ⟨rfl, hb1⟩
set_option maxHeartbeats 1000000 in
theorem implIsP (A : Option Addr) (n cap : Nat) (ls : List (List (Int × Int))) (w : World) (hr : ArgS w A n cap ls) (C : Int) (h : CoIs ls C) (R : Bool) (hR : R = decide (C = 0)) :
    Calls Try.prog 11 #[.slice A n cap] w fun e w' => e = .returned (.bool R) ∧ Below w.heap.size w w' := by
  have HH := Lib.hid (implCop A n cap ls w hr C h)
  have hR2 : (C == 0) = R := by subst hR; cases e : (C == 0) <;> simp_all
  clear hr h hR
  go_enter Try.func11, Try.ntmps11
  go_wp2_with fail
  refine HH.out.mono ?_
  rintro e w1 ⟨rfl, hb1⟩
  go_wp2
  go_ret
  exact ⟨by first | rfl | (rw [← hR2]; done) | (rw [← hR2]; rfl) | simp [hR2], hb1⟩

/-- What ValenceOf answers. -/
def VaIs (ls : List (List (Int × Int))) (V C : Int) : Prop := CoIs ls C ∧ ((C ≠ 0 ∧ V = 0) ∨ (C = 0 ∧ V = ((gA ls 0).length : Int)))
theorem va_ex (ls : List (List (Int × Int))) : ∃ V C, VaIs ls V C := by
  obtain ⟨C, hC⟩ := co_ex ls
  by_cases h : C = 0
  · exact ⟨_, C, hC, .inr ⟨h, rfl⟩⟩
  · exact ⟨0, C, hC, .inl ⟨h, rfl⟩⟩
theorem co_zero {ls : List (List (Int × Int))} (h : CoIs ls 0) : CodeP ls 0 ∧ FailP ls 0 := by
  rcases h with ⟨h, _⟩ | ⟨h, _⟩ | ⟨_, h⟩
  · exact absurd rfl h
  · omega
  · exact h
set_option maxHeartbeats 1000000 in
theorem implVal (A : Option Addr) (n cap : Nat) (ls : List (List (Int × Int))) (w : World) (hr : ArgS w A n cap ls) (V C : Int) (h : VaIs ls V C) :
    Calls Try.prog 24 #[.slice A n cap] w fun e w' => e = .returned (.tuple #[.int .i64 V, .int .i64 C]) ∧ Below w.heap.size w w' := by
  obtain ⟨hC, h⟩ := h
  have HH := Lib.hid (implCop A n cap ls w hr C hC)
  rcases h with ⟨h1, rfl⟩ | ⟨rfl, rfl⟩
  · have hC' : (C == 0) = false := beq_eq_false_iff_ne.2 h1
    clear hr hC
    go_enter Try.func24, Try.ntmps24
    go_wp2_with fail
    refine HH.out.mono ?_
    rintro e w1 ⟨rfl, hb1⟩
    go_wp2
    go_ret2
    exact ⟨rfl, hb1⟩
  · obtain ⟨-, h1, -⟩ := code_zero (co_zero hC).1
    obtain ⟨b, off, rfl, hbb, hc⟩ := hr.row.form h1
    obtain ⟨A0, c0, x0, -⟩ := hc 0 h1
    rw [Nat.add_zero] at x0
    have hn0 : (0 : Int) < (n : Int) := by have := hr.len; omega
    clear hr hC hc h1
    obtain ⟨len, hlen⟩ : ∃ len, (gA ls 0).length = len := ⟨_, rfl⟩
    rw [hlen] at x0 ⊢
    clear hlen
    go_enter Try.func24, Try.ntmps24
    go_wp2_with fail
    refine HH.out.mono ?_
    rintro e w1 ⟨rfl, hb1⟩
    have y0 := cellThru hb1 hbb x0
    have hbw : b < w1.heap.size := Nat.lt_of_lt_of_le hbb hb1.size
    clear x0
    go_wp2
    go_ret2
    exact ⟨rfl, hb1⟩
end Go.Proofs.Ytnoaahkpcnkbnaa

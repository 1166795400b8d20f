/-
  Contracts: PortraitThatFails, on both sides; written by genK11.py.
  A list of lists of angles as an argument of a law: opened, counted, copied, compared; written by genK12.py.
  Contracts: codes of portraits, IsPortrait, ValenceOf, on both sides; the walks of the laws of PortraitThatFails, IsPortrait and ValenceOf; written by genK13.py.
-/
import Derived.Test.YtdmppdfncbljoaaKD
namespace Go.Proofs.Ytdmppdfncbljoaa
open Go.RowKit

/-- What PortraitThatFails answers. -/
def PtIs (ls : List (List (Int × Int))) (F C : Int) : Prop := (C ≠ 0 ∧ CodeP ls C ∧ F = 0) ∨ (C = 0 ∧ CodeP ls 0 ∧ FailP ls F)
theorem pt_ex (ls : List (List (Int × Int))) : ∃ F C, PtIs ls F C := by
  obtain ⟨C, hC⟩ := code_ex ls
  by_cases h : C = 0
  · subst h
    obtain ⟨F, hF⟩ := fail_ex ls
    exact ⟨F, 0, .inr ⟨rfl, hC, hF⟩⟩
  · exact ⟨0, C, .inl ⟨h, hC, rfl⟩⟩
theorem code_zero {ls : List (List (Int × Int))} (h : CodeP ls 0) : (∀ l ∈ ls, allAng l = true) ∧ ShapeS ls := by
  rcases h with ⟨h, _⟩ | ⟨h, _⟩ | ⟨_, h1, h2⟩
  · omega
  · omega
  · exact ⟨h1, h2⟩

set_option maxRecDepth 8000 in
set_option maxHeartbeats 4000000 in
theorem implPt (A : Option Addr) (n cap : Nat) (ls : List (List (Int × Int))) (w : World) (hr : SetsRow w w.heap.size A ls) (hn : ls.length = n) (hm : n ≤ 1100000) (hcap : n ≤ cap) (ht : totL ls ≤ 1100000) (F C : Int) (h : PtIs ls F C) :
    Calls Try.prog 137 #[.slice A n cap] w fun e w' => e = .returned (.tuple #[.int .i64 F, .int .i64 C]) ∧ Below w.heap.size w w' := by
  have HL := Lib.hid (implCode A n cap ls w hr hn hm ht)
  rcases h with ⟨hC, hcode, rfl⟩ | ⟨rfl, hcode, hF⟩
  · have HC := Lib.hid (fun D (g : CodeP ls D) => code_one hcode g)
    have hC' : (C == 0) = false := beq_eq_false_iff_ne.2 hC
    clear hcode hr hn ht
    go_enter Try.func137, Try.ntmps137
    go_wp2_with fail
    refine HL.out.mono ?_
    rintro e w1 ⟨⟨D, rfl, HD⟩, hb1⟩
    obtain rfl := HC.out D HD.out
    go_wp2
    go_ret2
    exact ⟨rfl, hb1⟩
  · have HC := Lib.hid (fun D (g : CodeP ls D) => code_one hcode g)
    obtain ⟨ha, h1, h12, h64, hs⟩ := code_zero hcode
    have hnd : ∀ l ∈ ls, l.Nodup := fun l hl => asc_nodup (asc_A (ha l hl) (hs l hl).2)
    have HR := Lib.hid hr
    have H1 := Lib.hid (fun W (hB : Below w.heap.size w W) => implApart A n cap ls W (HR.out.next hB) hn hm ht ha)
    have H2 := Lib.hid (fun W (hB : Below w.heap.size w W) => implLedOn A n cap ls W (HR.out.next hB) hn hm (by omega) ha (fun l hl => (hs l hl).1))
    have H3 := Lib.hid (fun W (hB : Below w.heap.size w W) => implKeep A n cap ls W (HR.out.next hB) hn hm (by omega) ha (fun l hl => (hs l hl).1))
    have H4 := Lib.hid (fun W (hB : Below w.heap.size w W) => implOnePer A n cap ls W (HR.out.next hB) hn hm (by omega) ha (fun l hl => (hs l hl).1) (by omega))
    have H5 := Lib.hid (fun W (hB : Below w.heap.size w W) => implUnlinked A n cap ls W (HR.out.next hB) hn hm hcap (by omega) ha)
    have E1 := Lib.hid (ap_iff hnd)
    have E2 := Lib.hid (db_iff ha (fun l hl => (hs l hl).2))
    have E3 := Lib.hid (fun (h : LdP ls) => tn_iff ha (fun l hl => (hs l hl).2) (fun l hl => (hs l hl).1) h)
    have E5 := Lib.hid (fun (h : ApP ls) => un_iff ha (fun l hl => (hs l hl).2) (fun l hl => (hs l hl).1) h)
    have HF := Lib.hid (fun D (g : FailP ls D) => fail_one hF g)
    clear hcode hr hn ht ha hs hF hnd HR h1 h12 h64
    have ix0 : ∀ W, (Instr.index 204 (.agg #[.func (.func 176) #[] #[], .func (.func 177) #[] #[], .func (.func 178) #[] #[], .func (.func 179) #[] #[], .func (.func 180) #[] #[]]) (.int .i64 0)).run Try.prog W = .ok (.func (.func 176) #[] #[]) W := by intro W; kernel_rfl
    have ix1 : ∀ W, (Instr.index 204 (.agg #[.func (.func 176) #[] #[], .func (.func 177) #[] #[], .func (.func 178) #[] #[], .func (.func 179) #[] #[], .func (.func 180) #[] #[]]) (.int .i64 1)).run Try.prog W = .ok (.func (.func 177) #[] #[]) W := by intro W; kernel_rfl
    have ix2 : ∀ W, (Instr.index 204 (.agg #[.func (.func 176) #[] #[], .func (.func 177) #[] #[], .func (.func 178) #[] #[], .func (.func 179) #[] #[], .func (.func 180) #[] #[]]) (.int .i64 2)).run Try.prog W = .ok (.func (.func 178) #[] #[]) W := by intro W; kernel_rfl
    have ix3 : ∀ W, (Instr.index 204 (.agg #[.func (.func 176) #[] #[], .func (.func 177) #[] #[], .func (.func 178) #[] #[], .func (.func 179) #[] #[], .func (.func 180) #[] #[]]) (.int .i64 3)).run Try.prog W = .ok (.func (.func 179) #[] #[]) W := by intro W; kernel_rfl
    have ix4 : ∀ W, (Instr.index 204 (.agg #[.func (.func 176) #[] #[], .func (.func 177) #[] #[], .func (.func 178) #[] #[], .func (.func 179) #[] #[], .func (.func 180) #[] #[]]) (.int .i64 4)).run Try.prog W = .ok (.func (.func 180) #[] #[]) W := by intro W; kernel_rfl
    have cf0 : ∀ args W, (callFunc 176 args).run Try.prog W = .ok (.enter 176 args) W := by intro args W; kernel_rfl
    have cf1 : ∀ args W, (callFunc 177 args).run Try.prog W = .ok (.enter 177 args) W := by intro args W; kernel_rfl
    have cf2 : ∀ args W, (callFunc 178 args).run Try.prog W = .ok (.enter 178 args) W := by intro args W; kernel_rfl
    have cf3 : ∀ args W, (callFunc 179 args).run Try.prog W = .ok (.enter 179 args) W := by intro args W; kernel_rfl
    have cf4 : ∀ args W, (callFunc 180 args).run Try.prog W = .ok (.enter 180 args) W := by intro args W; kernel_rfl
    have hfs : ∀ (p : Addr) (f : Nat) (m : Mode) (W : World), (store p (.func (.func f) #[] #[]) m).run Try.prog W = stored Try.prog W p (.func (.func f) #[] #[]) m := fun p f m W => run_store Try.prog W p _ m rfl
    go_enter Try.func137, Try.ntmps137
    go_wp2_with fail
    refine HL.out.mono ?_
    rintro e w1 ⟨⟨D, rfl, HD⟩, hb1⟩
    obtain rfl := HC.out D HD.out
    have HB1 := Lib.hid (belowAlloc hb1 (.cells #[.func (.func 176) #[] #[], .func (.func 177) #[] #[], .func (.func 178) #[] #[], .func (.func 179) #[] #[], .func (.func 180) #[] #[]] 204))
    go_wp2_with fail
    refine wp_loop_rounds 6 ?_
    rw [rounds_succ]
    go_wp2_with fail
    refine (H1.out _ HB1.out).mono ?_
    rintro e w2 ⟨⟨r, rfl, HE1⟩, hb2⟩
    have HB2 := Lib.hid (belowNext HB1.out hb2)
    clear hb2
    cases r
    · have HFe := Lib.hid (HF.out 1 (.inl ⟨rfl, fun h => by have := HE1.out.2 (E1.out.2 h); cases this⟩))
      go_wp2
      go_ret2
      exact ⟨by rw [HFe.out]; rfl, HB2.out⟩
    · have HP1 := Lib.hid (E1.out.1 (HE1.out.1 rfl))
      clear HB1 HE1
      go_wp2_with fail
      rw [rounds_succ]
      go_wp2_with fail
      refine (H2.out _ HB2.out).mono ?_
      rintro e w3 ⟨⟨r, rfl, HE2⟩, hb3⟩
      have HB3 := Lib.hid (belowNext HB2.out hb3)
      clear hb3
      cases r
      · have HFe := Lib.hid (HF.out 2 (.inr (.inl ⟨rfl, HP1.out, fun h => by have := HE2.out.2 (E2.out.2 h); cases this⟩)))
        go_wp2
        go_ret2
        exact ⟨by rw [HFe.out]; rfl, HB3.out⟩
      · have HP2 := Lib.hid (E2.out.1 (HE2.out.1 rfl))
        clear HB2 HE2
        go_wp2_with fail
        rw [rounds_succ]
        go_wp2_with fail
        refine (H3.out _ HB3.out).mono ?_
        rintro e w4 ⟨⟨r, rfl, HE3⟩, hb4⟩
        have HB4 := Lib.hid (belowNext HB3.out hb4)
        clear hb4
        cases r
        · have HFe := Lib.hid (HF.out 3 (.inr (.inr (.inl ⟨rfl, HP1.out, HP2.out, fun h => by have := HE3.out.2 ((E3.out HP2.out).2 h); cases this⟩))))
          go_wp2
          go_ret2
          exact ⟨by rw [HFe.out]; rfl, HB4.out⟩
        · have HP3 := Lib.hid ((E3.out HP2.out).1 (HE3.out.1 rfl))
          clear HB3 HE3
          go_wp2_with fail
          rw [rounds_succ]
          go_wp2_with fail
          refine (H4.out _ HB4.out).mono ?_
          rintro e w5 ⟨⟨r, rfl, HE4⟩, hb5⟩
          have HB5 := Lib.hid (belowNext HB4.out hb5)
          clear hb5
          cases r
          · have HFe := Lib.hid (HF.out 4 (.inr (.inr (.inr (.inl ⟨rfl, HP1.out, HP2.out, HP3.out, fun h => by have := HE4.out.2 h; cases this⟩)))))
            go_wp2
            go_ret2
            exact ⟨by rw [HFe.out]; rfl, HB5.out⟩
          · have HP4 := Lib.hid (HE4.out.1 rfl)
            clear HB4 HE4
            go_wp2_with fail
            rw [rounds_succ]
            go_wp2_with fail
            refine (H5.out _ HB5.out).mono ?_
            rintro e w6 ⟨⟨r, rfl, HE5⟩, hb6⟩
            have HB6 := Lib.hid (belowNext HB5.out hb6)
            clear hb6
            cases r
            · have HFe := Lib.hid (HF.out 5 (.inr (.inr (.inr (.inr (.inl ⟨rfl, HP1.out, HP2.out, HP3.out, HP4.out, fun h => by have := HE5.out.2 ((E5.out HP1.out).2 h); cases this⟩))))))
              go_wp2
              go_ret2
              exact ⟨by rw [HFe.out]; rfl, HB6.out⟩
            · have HP5 := Lib.hid ((E5.out HP1.out).1 (HE5.out.1 rfl))
              have HFe := Lib.hid (HF.out 0 (.inr (.inr (.inr (.inr (.inr ⟨rfl, HP1.out, HP2.out, HP3.out, HP4.out, HP5.out⟩))))))
              clear HB5 HE5
              go_wp2_with fail
              rw [rounds_succ]
              go_wp2
              go_ret2
              exact ⟨by rw [HFe.out]; rfl, HB6.out⟩

open Go.ChangeShapes Go.WideShapes Go.ChangeAt Go.Joins Go.Deep
section
variable {H : Type} {enc : TypeId × Value → H} {w : World} {base : Nat} {spare : Nat → Bool} {held : Bool}
end

theorem infoSA : (Try.prog.info? 73).map (fun i => (i.zero, i.size, i.bytes)) = some (some (.slice none 0 0), 1, 24) := by kernel_rfl
/-- The first k sets have been copied; the outer block is G. -/
structure FillS (w : World) (G n : Nat) (ls : List (List (Int × Int))) (k : Nat) (W : World) : Prop where
  B : Below w.heap.size w W
  lo : w.heap.size ≤ G
  z : G < W.heap.size
  got : ∀ i, i < k → ∃ Ai ci, W.cell? ⟨G, i, none⟩ = some (.slice Ai (gA ls i).length ci) ∧ AngOwn W (G + 1) Ai (gA ls i)
  there : ∀ o, o < n → ∃ v, W.cell? ⟨G, o, none⟩ = some v
  free : ∀ o, W.frozen? ⟨G, o, none⟩ = false
theorem FillS.on {w W W1 : World} {G n k : Nat} {ls : List (List (Int × Int))} (H : FillS w G n ls k W) (hb : Below W.heap.size W W1) : FillS w G n ls k W1 :=
  ⟨belowNext H.B hb, H.lo, Nat.lt_of_lt_of_le H.z hb.size, fun i hi => by
    obtain ⟨Ai, ci, h1, h2⟩ := H.got i hi
    exact ⟨Ai, ci, cellThru hb H.z h1, h2.next hb⟩, fun o ho => (H.there o ho).imp fun _ hv => cellThru hb H.z hv, fun o => frozThru hb H.z (H.free o)⟩
theorem FillS.put {w W : World} {G n k : Nat} {ls : List (List (Int × Int))} {A : Option Addr} {c : Nat} (H : FillS w G n ls k W) (hk : k < n) (ho : AngOwn W (G + 1) A (gA ls k)) : FillS w G n ls (k + 1) (W.setCell ⟨G, k, none⟩ (.slice A (gA ls k).length c)) := by
  obtain ⟨u, hu⟩ := H.there k hk
  have honly : OnlyB G W (W.setCell ⟨G, k, none⟩ (.slice A (gA ls k).length c)) := (OnlyB.refl _ _).set _ _
  refine ⟨H.B.setCell H.lo _, H.lo, by simpa using H.z, fun i hi => ?_, fun o ho => ?_, fun o => by simpa using H.free o⟩
  · by_cases e : i = k
    · subst e
      exact ⟨A, c, World.cell?_setCell_same _ _ _ hu, AngOwn.only honly ho (by omega)⟩
    · obtain ⟨Ai, ci, h1, h2⟩ := H.got i (by omega)
      refine ⟨Ai, ci, ?_, AngOwn.only honly h2 (by omega)⟩
      rw [World.cell?_setCell_other _ _ _ _ (by first | (simp; done) | simpa using e)]
      exact h1
  · by_cases e : o = k
    · subst e; exact ⟨_, World.cell?_setCell_same _ _ _ hu⟩
    · obtain ⟨v, hv⟩ := H.there o ho
      exact ⟨v, by rw [World.cell?_setCell_other _ _ _ _ (by first | (simp; done) | simpa using e)]; exact hv⟩

set_option maxRecDepth 8000 in
set_option maxHeartbeats 2000000 in
theorem eqSets (A : Option Addr) (n cap : Nat) (A' : Option Addr) (cap' : Nat) (ls : List (List (Int × Int))) (w : World) (hr : SetsRow w w.heap.size A ls) (hr' : SetsRow w w.heap.size A' ls) (hn : ls.length = n) (hm : n + totL ls ≤ 1048576) :
    Calls Try.prog 23 #[.slice A n cap, .slice A' n cap'] w fun e w' => e = .returned (.bool true) ∧ Below w.heap.size w w' := by
  have HR := Lib.hid hr
  have HR' := Lib.hid hr'
  have HN := Lib.hid hn
  have HTm := Lib.hid hm
  have hm' : n ≤ 1048576 := by omega
  clear hr hr' hn hm
  go_enter Try.func23, Try.ntmps23
  go_wp2
  go_loopg [5] n (fun g ix wr => ∃ k : Nat, k + g = n ∧ ix = .int .i64 k ∧ Hid (Below w.heap.size w wr))
  case atStart => exact ⟨0, by omega, rfl, Lib.hid (Below.refl _ _)⟩
  case round =>
    obtain ⟨k, hkg, rfl, HB⟩ := hrel
    cases gk with
    | zero =>
      obtain rfl : k = n := by omega
      clear hkg
      go_wp2
      go_ret
      exact ⟨rfl, HB.out⟩
    | succ g =>
      have hkl : k < ls.length := by have := HN.out; omega
      have hkn : k < n := by omega
      obtain ⟨b, off, rfl, hbb, hc⟩ := HR.out.form hkl
      obtain ⟨b', off', rfl, hbb', hc'⟩ := HR'.out.form hkl
      obtain ⟨Ai, ci, x0, hrow⟩ := hc k hkl
      obtain ⟨Aj, cj, y0, hrow'⟩ := hc' k hkl
      have hle := len_tot hkl
      have hTm := HTm.out
      have HE := Lib.hid (fun W (hB : Below w.heap.size w W) => eqAngS Ai Aj (gA ls k).length ci cj (gA ls k) W ((hrow.below hB).more hB.size) ((hrow'.below hB).more hB.size) rfl (by omega))
      obtain ⟨len, hlen⟩ : ∃ len, (gA ls k).length = len := ⟨_, rfl⟩
      rw [hlen] at x0 y0 HE
      have hbw : b < wr.heap.size := Nat.lt_of_lt_of_le hbb HB.out.size
      have hbw' : b' < wr.heap.size := Nat.lt_of_lt_of_le hbb' HB.out.size
      have S0 : C4 w ⟨b, off + k, none⟩ ⟨b', off' + k, none⟩ ⟨b', off' + k, none⟩ ⟨b', off' + k, none⟩ _ _ _ _ wr := ⟨HB.out, hbw, hbw', hbw', hbw', cellThru HB.out hbb x0, cellThru HB.out hbb' y0, cellThru HB.out hbb' y0, cellThru HB.out hbb' y0⟩
      have HKG := Lib.hid hkg
      clear hc hc' hrow hrow' hlen hle hTm hkg x0 y0 hkl
      go_wp2_with fail
      refine wp_region_held_drew (S := (C4 w ⟨b, off + k, none⟩ ⟨b', off' + k, none⟩ ⟨b', off' + k, none⟩ ⟨b', off' + k, none⟩ (.slice Ai len ci) (.slice Aj len cj) (.slice Aj len cj) (.slice Aj len cj))) (by kernel_rfl) ?_ (fun hHeld => ?_)
      · exact S0.on (Below.refl _ _).drew
      refine wpAnyH_take (i := 0) (v := ?_) rfl (by kernel_rfl) (by kernel_rfl) (by kernel_rfl) (fun _ _ _ h => h) (Or.inl ⟨by kernel_rfl, ?_⟩) hHeld ?_
      rotate_left
      · intro w hSw; obtain ⟨B, z1, z2, z3, z4, x1, x2, x3, x4⟩ := hSw; first | (go_simp; done) | (go_simp; with_reducible rfl)
      refine wpAnyH_take (i := 1) (v := ?_) rfl (by kernel_rfl) (by kernel_rfl) (by kernel_rfl) (fun _ _ _ h => h) (Or.inl ⟨by kernel_rfl, ?_⟩) hHeld ?_
      rotate_left
      · intro w hSw; obtain ⟨B, z1, z2, z3, z4, x1, x2, x3, x4⟩ := hSw; first | (go_simp; done) | (go_simp; with_reducible rfl)
      refine wpAnyH_take (i := 2) (v := ?_) rfl (by kernel_rfl) (by kernel_rfl) (by kernel_rfl) (fun _ _ _ h => h) (Or.inl ⟨by kernel_rfl, ?_⟩) hHeld ?_
      rotate_left
      · intro w hSw; obtain ⟨B, z1, z2, z3, z4, x1, x2, x3, x4⟩ := hSw; first | (go_simp; done) | (go_simp; with_reducible rfl)
      refine wpAnyH_take (i := 3) (v := ?_) rfl (by kernel_rfl) (by kernel_rfl) (by kernel_rfl) (fun _ _ _ h => h) (Or.inl ⟨by kernel_rfl, ?_⟩) hHeld ?_
      rotate_left
      · intro w hSw; obtain ⟨B, z1, z2, z3, z4, x1, x2, x3, x4⟩ := hSw; first | (go_simp; done) | (go_simp; with_reducible rfl)
      refine wpAnyH_take (i := 4) (v := ?_) rfl (by kernel_rfl) (by kernel_rfl) (by kernel_rfl) (fun _ _ _ h => h) (Or.inl ⟨by kernel_rfl, ?_⟩) hHeld ?_
      rotate_left
      · intro w hSw; obtain ⟨B, z1, z2, z3, z4, x1, x2, x3, x4⟩ := hSw; first | (go_simp; done) | (go_simp; with_reducible rfl)
      refine wpAnyH_take (i := 5) (v := ?_) rfl (by kernel_rfl) (by kernel_rfl) (by kernel_rfl) (fun _ _ _ h => h) (Or.inl ⟨by kernel_rfl, ?_⟩) hHeld ?_
      rotate_left
      · intro w hSw; obtain ⟨B, z1, z2, z3, z4, x1, x2, x3, x4⟩ := hSw; first | (go_simp; done) | (go_simp; with_reducible rfl)
      refine wpAnyH_take (i := 6) (v := ?_) rfl (by kernel_rfl) (by kernel_rfl) (by kernel_rfl) (fun _ _ _ h => h) (Or.inl ⟨by kernel_rfl, ?_⟩) hHeld ?_
      rotate_left
      · intro w hSw; obtain ⟨B, z1, z2, z3, z4, x1, x2, x3, x4⟩ := hSw; first | (go_simp; done) | (go_simp; with_reducible rfl)
      refine wpAnyH_take (i := 7) (v := ?_) rfl (by kernel_rfl) (by kernel_rfl) (by kernel_rfl) (fun _ _ _ h => h) (Or.inl ⟨by kernel_rfl, ?_⟩) hHeld ?_
      rotate_left
      · intro w hSw; obtain ⟨B, z1, z2, z3, z4, x1, x2, x3, x4⟩ := hSw; first | (go_simp; done) | (go_simp; with_reducible rfl)
      refine wpAnyH_ready (rs := [8]) (by kernel_rfl) (by simp) ?_
      refine AllReadyH.cons rfl (fun K hK => ?_) AllReadyH.nil
      go_simp
      go_wp2_with (go_at_call 48; (with_reducible refine (HE.out _ hHeld.B).mono ?_); rintro e w1 ⟨rfl, hb1⟩)
      have S2 := hHeld.on hb1
      refine hK.out _ _ ?_ (fun hHeld => ?_)
      · exact S2
      clear hK K
      refine wpAnyH_take (i := 9) (v := ?_) rfl (by kernel_rfl) (by kernel_rfl) (by kernel_rfl) (fun _ _ _ h => h) (Or.inl ⟨by kernel_rfl, ?_⟩) hHeld ?_
      rotate_left
      · intro w hSw; obtain ⟨B, z1, z2, z3, z4, x1, x2, x3, x4⟩ := hSw; first | (go_simp; done) | (go_simp; with_reducible rfl)
      refine wpAnyH_done (by kernel_rfl) ?_ _
      have HB5 := Lib.hid S2.B
      clear S0 S2 HB
      go_wp2
      go_roundg g
      case measure => omega
      case rel => exact ⟨k + 1, by have := HKG.out; omega, by go_num, HB5⟩

/-- The code of a portrait. -/
def CoIs (ls : List (List (Int × Int))) (C : Int) : Prop :=
  (C ≠ 0 ∧ CodeP ls C) ∨ (C = 2 ∧ CodeP ls 0 ∧ ∃ F, F ≠ 0 ∧ FailP ls F) ∨ (C = 0 ∧ CodeP ls 0 ∧ FailP ls 0)
theorem co_ex (ls : List (List (Int × Int))) : ∃ C, CoIs ls C := by
  obtain ⟨C, hC⟩ := code_ex ls
  by_cases h : C = 0
  · subst h
    obtain ⟨F, hF⟩ := fail_ex ls
    by_cases g : F = 0
    · subst g; exact ⟨0, .inr (.inr ⟨rfl, hC, hF⟩)⟩
    · exact ⟨2, .inr (.inl ⟨rfl, hC, F, g, hF⟩)⟩
  · exact ⟨C, .inl ⟨h, hC⟩⟩
/-- Everything that a call is told of the sets. -/
structure ArgS (w : World) (A : Option Addr) (n cap : Nat) (ls : List (List (Int × Int))) : Prop where
  row : SetsRow w w.heap.size A ls
  len : ls.length = n
  hm : n ≤ 1100000
  hcap : n ≤ cap
  ht : totL ls ≤ 1100000
theorem ArgS.next {w w' : World} {A : Option Addr} {n cap : Nat} {ls : List (List (Int × Int))} (h : ArgS w A n cap ls) (hb : Below w.heap.size w w') : ArgS w' A n cap ls := ⟨h.row.next hb, h.len, h.hm, h.hcap, h.ht⟩

set_option maxHeartbeats 1000000 in
theorem implCop (A : Option Addr) (n cap : Nat) (ls : List (List (Int × Int))) (w : World) (hr : ArgS w A n cap ls) (C : Int) (h : CoIs ls C) :
    Calls Try.prog 100 #[.slice A n cap] w fun e w' => e = .returned (.int .i64 C) ∧ Below w.heap.size w w' := by
  have HP := Lib.hid (fun F D (g : PtIs ls F D) => implPt A n cap ls w hr.row hr.len hr.hm hr.hcap hr.ht F D g)
  clear hr
  rcases h with ⟨h1, h2⟩ | ⟨rfl, h2, F, h3, h4⟩ | ⟨rfl, h2, h3⟩
  · have HP := Lib.hid (HP.out 0 C (.inl ⟨h1, h2, rfl⟩))
    clear h1 h2
    go_enter Try.func100, Try.ntmps100
    go_wp2_with fail
    refine HP.out.mono ?_
    rintro e w1 ⟨rfl, hb1⟩
    go_wp2
    go_ret
    exact ⟨rfl, hb1⟩
  · have HP := Lib.hid (HP.out F 0 (.inr ⟨rfl, h2, h4⟩))
    have hF : (F == 0) = false := beq_eq_false_iff_ne.2 h3
    clear h2 h4
    go_enter Try.func100, Try.ntmps100
    go_wp2_with fail
    refine HP.out.mono ?_
    rintro e w1 ⟨rfl, hb1⟩
    go_wp2
    go_ret
    exact ⟨rfl, hb1⟩
  · have HP := Lib.hid (HP.out 0 0 (.inr ⟨rfl, h2, h3⟩))
    clear h2 h3
    go_enter Try.func100, Try.ntmps100
    go_wp2_with fail
    refine HP.out.mono ?_
    rintro e w1 ⟨rfl, hb1⟩
    go_wp2
    go_ret
    exact ⟨rfl, hb1⟩
/-- What the two callees of the model tell. -/
theorem spec_two {w : World} {A : Option Addr} {n cap : Nat} {ls : List (List (Int × Int))} (hr : ArgS w A n cap ls) {D : Int} (hD : CodeP ls D) :
    (Calls Try.prog 92 #[.slice A n cap] w fun e w' => e = .returned (.int .i64 D) ∧ Below w.heap.size w w') ∧
      (D = 0 → ∀ F, FailP ls F → ∀ W, Below w.heap.size w W → Calls Try.prog 93 #[.slice A n cap] W fun e w' => e = .returned (.int .i64 F) ∧ Below W.heap.size W w') := by
  refine ⟨(specLists A n cap ls w hr.row hr.len hr.hm hr.ht).mono ?_, fun h0 F hF W hB => ?_⟩
  · rintro e w1 ⟨⟨E, rfl, HE⟩, hb1⟩
    obtain rfl := code_one hD HE.out
    exact ⟨rfl, hb1⟩
  · subst h0
    obtain ⟨ha, h1, h12, h64, hs⟩ := code_zero hD
    refine (specFails A n cap ls W (hr.row.next hB) hr.len hr.hm (by omega) ha (fun l hl => (hs l hl).1) (by have := hr.len; omega)).mono ?_
    rintro e w1 ⟨⟨E, rfl, HE⟩, hb1⟩
    obtain rfl := fail_one hF HE.out
    exact ⟨rfl, hb1⟩
set_option maxHeartbeats 1000000 in
theorem implIsP (A : Option Addr) (n cap : Nat) (ls : List (List (Int × Int))) (w : World) (hr : ArgS w A n cap ls) (C : Int) (h : CoIs ls C) (R : Bool) (hR : R = decide (C = 0)) :
    Calls Try.prog 59 #[.slice A n cap] w fun e w' => e = .returned (.bool R) ∧ Below w.heap.size w w' := by
  have HH := Lib.hid (implCop A n cap ls w hr C h)
  have hR2 : (C == 0) = R := by subst hR; cases e : (C == 0) <;> simp_all
  clear hr h hR
  go_enter Try.func59, Try.ntmps59
  go_wp2_with fail
  refine HH.out.mono ?_
  rintro e w1 ⟨rfl, hb1⟩
  go_wp2
  go_ret
  exact ⟨by first | rfl | (rw [← hR2]; done) | (rw [← hR2]; rfl) | simp [hR2], hb1⟩

/-- What ValenceOf answers. -/
def VaIs (ls : List (List (Int × Int))) (V C : Int) : Prop := CoIs ls C ∧ ((C ≠ 0 ∧ V = 0) ∨ (C = 0 ∧ V = ((gA ls 0).length : Int)))
theorem va_ex (ls : List (List (Int × Int))) : ∃ V C, VaIs ls V C := by
  obtain ⟨C, hC⟩ := co_ex ls
  by_cases h : C = 0
  · exact ⟨_, C, hC, .inr ⟨h, rfl⟩⟩
  · exact ⟨0, C, hC, .inl ⟨h, rfl⟩⟩
theorem co_zero {ls : List (List (Int × Int))} (h : CoIs ls 0) : CodeP ls 0 ∧ FailP ls 0 := by
  rcases h with ⟨h, _⟩ | ⟨h, _⟩ | ⟨_, h⟩
  · exact absurd rfl h
  · omega
  · exact h
end Go.Proofs.Ytdmppdfncbljoaa

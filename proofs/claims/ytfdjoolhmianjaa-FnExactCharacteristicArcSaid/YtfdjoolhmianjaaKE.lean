/-
  Contracts: PortraitThatFails, on both sides; written by genK11.py.
  A list of lists of angles as an argument of a law: opened, counted, copied, compared; written by genK12.py.
  Contracts: codes of portraits, IsPortrait, ValenceOf, on both sides; the walks of the laws of PortraitThatFails, IsPortrait and ValenceOf; written by genK13.py.
-/
import Derived.Test.YtfdjoolhmianjaaKD
namespace Go.Proofs.Ytfdjoolhmianjaa
open Go.RowKit

/-- What PortraitThatFails answers. -/
def PtIs (ls : List (List (Int × Int))) (F C : Int) : Prop := (C ≠ 0 ∧ CodeP ls C ∧ F = 0) ∨ (C = 0 ∧ CodeP ls 0 ∧ FailP ls F)
theorem pt_ex (ls : List (List (Int × Int))) : ∃ F C, PtIs ls F C := by
  obtain ⟨C, hC⟩ := code_ex ls
  by_cases h : C = 0
  · subst h
    obtain ⟨F, hF⟩ := fail_ex ls
    exact ⟨F, 0, .inr ⟨rfl, hC, hF⟩⟩
  · exact ⟨0, C, .inl ⟨h, hC, rfl⟩⟩
theorem code_zero {ls : List (List (Int × Int))} (h : CodeP ls 0) : (∀ l ∈ ls, allAng l = true) ∧ ShapeS ls := by
  rcases h with ⟨h, _⟩ | ⟨h, _⟩ | ⟨_, h1, h2⟩
  · omega
  · omega
  · exact ⟨h1, h2⟩

set_option maxRecDepth 8000 in
set_option maxHeartbeats 2000000 in
theorem specPt (A : Option Addr) (n cap : Nat) (ls : List (List (Int × Int))) (w : World) (hr : SetsRow w w.heap.size A ls) (hn : ls.length = n) (hm : n ≤ 1100000) (ht : totL ls ≤ 1100000) (F C : Int) (h : PtIs ls F C) :
    Calls Try.prog 10 #[.slice A n cap] w fun e w' => e = .returned (.tuple #[.int .i64 F, .int .i64 C]) ∧ Below w.heap.size w w' := by
  have HL := Lib.hid (specLists A n cap ls w hr hn hm ht)
  rcases h with ⟨hC, hcode, rfl⟩ | ⟨rfl, hcode, hF⟩
  · have HC := Lib.hid (fun D (g : CodeP ls D) => code_one hcode g)
    have hC' : (C == 0) = false := beq_eq_false_iff_ne.2 hC
    clear hcode hr hn ht
    go_enter Try.func10, Try.ntmps10
    go_wp2_with fail
    refine HL.out.mono ?_
    rintro e w1 ⟨⟨D, rfl, HD⟩, hb1⟩
    obtain rfl := HC.out D HD.out
    go_wp2
    go_ret2
    exact ⟨rfl, hb1⟩
  · have HC := Lib.hid (fun D (g : CodeP ls D) => code_one hcode g)
    obtain ⟨ha, h1, h12, h64, hs⟩ := code_zero hcode
    have HFl := Lib.hid (fun W (hB : Below w.heap.size w W) => specFails A n cap ls W (hr.next hB) hn hm (by omega) ha (fun l hl => (hs l hl).1) (by omega))
    have HF := Lib.hid (fun D (g : FailP ls D) => fail_one hF g)
    clear hcode hr hn ht ha hs hF
    go_enter Try.func10, Try.ntmps10
    go_wp2_with fail
    refine HL.out.mono ?_
    rintro e w1 ⟨⟨D, rfl, HD⟩, hb1⟩
    obtain rfl := HC.out D HD.out
    go_wp2_with fail
    refine (HFl.out _ hb1).mono ?_
    rintro e w2 ⟨⟨E, rfl, HE⟩, hb2⟩
    obtain rfl := HF.out E HE.out
    go_wp2
    go_ret2
    exact ⟨rfl, belowNext hb1 hb2⟩

set_option maxRecDepth 8000 in
set_option maxHeartbeats 4000000 in
theorem implPt (A : Option Addr) (n cap : Nat) (ls : List (List (Int × Int))) (w : World) (hr : SetsRow w w.heap.size A ls) (hn : ls.length = n) (hm : n ≤ 1100000) (hcap : n ≤ cap) (ht : totL ls ≤ 1100000) (F C : Int) (h : PtIs ls F C) :
    Calls Try.prog 12 #[.slice A n cap] w fun e w' => e = .returned (.tuple #[.int .i64 F, .int .i64 C]) ∧ Below w.heap.size w w' := by
  have HL := Lib.hid (implCode A n cap ls w hr hn hm ht)
  rcases h with ⟨hC, hcode, rfl⟩ | ⟨rfl, hcode, hF⟩
  · have HC := Lib.hid (fun D (g : CodeP ls D) => code_one hcode g)
    have hC' : (C == 0) = false := beq_eq_false_iff_ne.2 hC
    clear hcode hr hn ht
    go_enter Try.func12, Try.ntmps12
    go_wp2_with fail
    refine HL.out.mono ?_
    rintro e w1 ⟨⟨D, rfl, HD⟩, hb1⟩
    obtain rfl := HC.out D HD.out
    go_wp2
    go_ret2
    exact ⟨rfl, hb1⟩
  · have HC := Lib.hid (fun D (g : CodeP ls D) => code_one hcode g)
    obtain ⟨ha, h1, h12, h64, hs⟩ := code_zero hcode
    have hnd : ∀ l ∈ ls, l.Nodup := fun l hl => asc_nodup (asc_A (ha l hl) (hs l hl).2)
    have HR := Lib.hid hr
    have H1 := Lib.hid (fun W (hB : Below w.heap.size w W) => implApart A n cap ls W (HR.out.next hB) hn hm ht ha)
    have H2 := Lib.hid (fun W (hB : Below w.heap.size w W) => implLedOn A n cap ls W (HR.out.next hB) hn hm (by omega) ha (fun l hl => (hs l hl).1))
    have H3 := Lib.hid (fun W (hB : Below w.heap.size w W) => implKeep A n cap ls W (HR.out.next hB) hn hm (by omega) ha (fun l hl => (hs l hl).1))
    have H4 := Lib.hid (fun W (hB : Below w.heap.size w W) => implOnePer A n cap ls W (HR.out.next hB) hn hm (by omega) ha (fun l hl => (hs l hl).1) (by omega))
    have H5 := Lib.hid (fun W (hB : Below w.heap.size w W) => implUnlinked A n cap ls W (HR.out.next hB) hn hm hcap (by omega) ha)
    have E1 := Lib.hid (ap_iff hnd)
    have E2 := Lib.hid (db_iff ha (fun l hl => (hs l hl).2))
    have E3 := Lib.hid (fun (h : LdP ls) => tn_iff ha (fun l hl => (hs l hl).2) (fun l hl => (hs l hl).1) h)
    have E5 := Lib.hid (fun (h : ApP ls) => un_iff ha (fun l hl => (hs l hl).2) (fun l hl => (hs l hl).1) h)
    have HF := Lib.hid (fun D (g : FailP ls D) => fail_one hF g)
    clear hcode hr hn ht ha hs hF hnd HR h1 h12 h64
    have ix0 : ∀ W, (Instr.index 54 (.agg #[.func (.func 36) #[] #[], .func (.func 37) #[] #[], .func (.func 38) #[] #[], .func (.func 39) #[] #[], .func (.func 40) #[] #[]]) (.int .i64 0)).run Try.prog W = .ok (.func (.func 36) #[] #[]) W := by intro W; kernel_rfl
    have ix1 : ∀ W, (Instr.index 54 (.agg #[.func (.func 36) #[] #[], .func (.func 37) #[] #[], .func (.func 38) #[] #[], .func (.func 39) #[] #[], .func (.func 40) #[] #[]]) (.int .i64 1)).run Try.prog W = .ok (.func (.func 37) #[] #[]) W := by intro W; kernel_rfl
    have ix2 : ∀ W, (Instr.index 54 (.agg #[.func (.func 36) #[] #[], .func (.func 37) #[] #[], .func (.func 38) #[] #[], .func (.func 39) #[] #[], .func (.func 40) #[] #[]]) (.int .i64 2)).run Try.prog W = .ok (.func (.func 38) #[] #[]) W := by intro W; kernel_rfl
    have ix3 : ∀ W, (Instr.index 54 (.agg #[.func (.func 36) #[] #[], .func (.func 37) #[] #[], .func (.func 38) #[] #[], .func (.func 39) #[] #[], .func (.func 40) #[] #[]]) (.int .i64 3)).run Try.prog W = .ok (.func (.func 39) #[] #[]) W := by intro W; kernel_rfl
    have ix4 : ∀ W, (Instr.index 54 (.agg #[.func (.func 36) #[] #[], .func (.func 37) #[] #[], .func (.func 38) #[] #[], .func (.func 39) #[] #[], .func (.func 40) #[] #[]]) (.int .i64 4)).run Try.prog W = .ok (.func (.func 40) #[] #[]) W := by intro W; kernel_rfl
    have cf0 : ∀ args W, (callFunc 36 args).run Try.prog W = .ok (.enter 36 args) W := by intro args W; kernel_rfl
    have cf1 : ∀ args W, (callFunc 37 args).run Try.prog W = .ok (.enter 37 args) W := by intro args W; kernel_rfl
    have cf2 : ∀ args W, (callFunc 38 args).run Try.prog W = .ok (.enter 38 args) W := by intro args W; kernel_rfl
    have cf3 : ∀ args W, (callFunc 39 args).run Try.prog W = .ok (.enter 39 args) W := by intro args W; kernel_rfl
    have cf4 : ∀ args W, (callFunc 40 args).run Try.prog W = .ok (.enter 40 args) W := by intro args W; kernel_rfl
    have hfs : ∀ (p : Addr) (f : Nat) (m : Mode) (W : World), (store p (.func (.func f) #[] #[]) m).run Try.prog W = stored Try.prog W p (.func (.func f) #[] #[]) m := fun p f m W => run_store Try.prog W p _ m rfl
    go_enter Try.func12, Try.ntmps12
    go_wp2_with fail
    refine HL.out.mono ?_
    rintro e w1 ⟨⟨D, rfl, HD⟩, hb1⟩
    obtain rfl := HC.out D HD.out
    have HB1 := Lib.hid (belowAlloc hb1 (.cells #[.func (.func 36) #[] #[], .func (.func 37) #[] #[], .func (.func 38) #[] #[], .func (.func 39) #[] #[], .func (.func 40) #[] #[]] 54))
    go_wp2_with fail
    refine wp_loop_rounds 6 ?_
    rw [rounds_succ]
    go_wp2_with fail
    refine (H1.out _ HB1.out).mono ?_
    rintro e w2 ⟨⟨r, rfl, HE1⟩, hb2⟩
    have HB2 := Lib.hid (belowNext HB1.out hb2)
    clear hb2
    cases r
    · have HFe := Lib.hid (HF.out 1 (.inl ⟨rfl, fun h => by have := HE1.out.2 (E1.out.2 h); cases this⟩))
      go_wp2
      go_ret2
      exact ⟨by rw [HFe.out]; rfl, HB2.out⟩
    · have HP1 := Lib.hid (E1.out.1 (HE1.out.1 rfl))
      clear HB1 HE1
      go_wp2_with fail
      rw [rounds_succ]
      go_wp2_with fail
      refine (H2.out _ HB2.out).mono ?_
      rintro e w3 ⟨⟨r, rfl, HE2⟩, hb3⟩
      have HB3 := Lib.hid (belowNext HB2.out hb3)
      clear hb3
      cases r
      · have HFe := Lib.hid (HF.out 2 (.inr (.inl ⟨rfl, HP1.out, fun h => by have := HE2.out.2 (E2.out.2 h); cases this⟩)))
        go_wp2
        go_ret2
        exact ⟨by rw [HFe.out]; rfl, HB3.out⟩
      · have HP2 := Lib.hid (E2.out.1 (HE2.out.1 rfl))
        clear HB2 HE2
        go_wp2_with fail
        rw [rounds_succ]
        go_wp2_with fail
        refine (H3.out _ HB3.out).mono ?_
        rintro e w4 ⟨⟨r, rfl, HE3⟩, hb4⟩
        have HB4 := Lib.hid (belowNext HB3.out hb4)
        clear hb4
        cases r
        · have HFe := Lib.hid (HF.out 3 (.inr (.inr (.inl ⟨rfl, HP1.out, HP2.out, fun h => by have := HE3.out.2 ((E3.out HP2.out).2 h); cases this⟩))))
          go_wp2
          go_ret2
          exact ⟨by rw [HFe.out]; rfl, HB4.out⟩
        · have HP3 := Lib.hid ((E3.out HP2.out).1 (HE3.out.1 rfl))
          clear HB3 HE3
          go_wp2_with fail
          rw [rounds_succ]
          go_wp2_with fail
          refine (H4.out _ HB4.out).mono ?_
          rintro e w5 ⟨⟨r, rfl, HE4⟩, hb5⟩
          have HB5 := Lib.hid (belowNext HB4.out hb5)
          clear hb5
          cases r
          · have HFe := Lib.hid (HF.out 4 (.inr (.inr (.inr (.inl ⟨rfl, HP1.out, HP2.out, HP3.out, fun h => by have := HE4.out.2 h; cases this⟩)))))
            go_wp2
            go_ret2
            exact ⟨by rw [HFe.out]; rfl, HB5.out⟩
          · have HP4 := Lib.hid (HE4.out.1 rfl)
            clear HB4 HE4
            go_wp2_with fail
            rw [rounds_succ]
            go_wp2_with fail
            refine (H5.out _ HB5.out).mono ?_
            rintro e w6 ⟨⟨r, rfl, HE5⟩, hb6⟩
            have HB6 := Lib.hid (belowNext HB5.out hb6)
            clear hb6
            cases r
            · have HFe := Lib.hid (HF.out 5 (.inr (.inr (.inr (.inr (.inl ⟨rfl, HP1.out, HP2.out, HP3.out, HP4.out, fun h => by have := HE5.out.2 ((E5.out HP1.out).2 h); cases this⟩))))))
              go_wp2
              go_ret2
              exact ⟨by rw [HFe.out]; rfl, HB6.out⟩
            · have HP5 := Lib.hid ((E5.out HP1.out).1 (HE5.out.1 rfl))
              have HFe := Lib.hid (HF.out 0 (.inr (.inr (.inr (.inr (.inr ⟨rfl, HP1.out, HP2.out, HP3.out, HP4.out, HP5.out⟩))))))
              clear HB5 HE5
              go_wp2_with fail
              rw [rounds_succ]
              go_wp2
              go_ret2
              exact ⟨by rw [HFe.out]; rfl, HB6.out⟩

theorem cellsSA : Try.prog.cellsOf 48 = 1 := by kernel_rfl
open Go.ChangeShapes Go.WideShapes Go.ChangeAt Go.Joins Go.Deep
section
variable {H : Type} {enc : TypeId × Value → H} {w : World} {base : Nat} {spare : Nat → Bool} {held : Bool}
set_option maxRecDepth 100000 in
theorem openAngT {fuel : Nat} {c0 : Value} {x : DataW H × List MemPlace} (hf : DataW.trod enc Try.prog w base spare held fuel 48 [c0] = some x) :
    ∃ (A : Option Addr) (cap : Nat) (l : List (Int × Int)), c0 = .slice A l.length cap ∧ AngRow w w.heap.size A l ∧ l.length ≤ 9223372036854775807 := by
  rcases open_slice Try.underlying48 hf with ⟨hcs, hx⟩ | ⟨a, len', cap', m, n, D, Pl, hcs, _, hl, hm, hmm, hx, hel⟩
  · injection hcs with hcs _
    subst hcs
    exact ⟨none, 0, [], rfl, fun h => absurd rfl h, by simp⟩
  · injection hcs with hcs _
    subst hcs
    have hlm : len' ≤ m := by rw [hmm]; split <;> omega
    obtain ⟨b, off, spot⟩ := a
    have key : ∀ i, i < len' → ∃ x : Int × Int, spot = none ∧ w.cell? ⟨b, off + i * 2, none⟩ = some (.int .i64 x.1) ∧ w.cell? ⟨b, off + i * 2 + 1, none⟩ = some (.int .i64 x.2) := by
      intro i hi
      obtain ⟨cs', hc, ht⟩ := hel i (by omega)
      rw [cellsLfA] at hc
      obtain ⟨_, hl2, hcell⟩ := World.cells?_some hc
      obtain ⟨c0, c1, rfl⟩ : ∃ c0 c1, cs' = [c0, c1] := by
        match cs', hl2 with
        | [c0, c1], _ => exact ⟨c0, c1, rfl⟩
      obtain ⟨x, y, rfl, rfl, _⟩ := openAngC (c0 := c0) (c1 := c1) ht
      have r0 := hcell 0 (by omega)
      have r1 := hcell 1 (by omega)
      have hspot : spot = none := by
        obtain ⟨cs0, hc0, _⟩ := hel 0 (by omega)
        rw [cellsLfA] at hc0
        obtain ⟨_, l0, hcell0⟩ := World.cells?_some hc0
        obtain ⟨u0, u1, rfl⟩ : ∃ c0 c1, cs0 = [c0, c1] := by
          match cs0, l0 with
          | [c0, c1], _ => exact ⟨c0, c1, rfl⟩
        have r00 := hcell0 0 (by omega)
        have s0 := World.cell?_spot r00
        simpa [Addr.add] using s0
      subst hspot
      refine ⟨(x, y), rfl, ?_, ?_⟩
      · simpa [add_plain] using r0
      · simpa [add_plain] using r1
    obtain ⟨L, hL⟩ := choose_lt key
    refine ⟨some ⟨b, off, spot⟩, cap', (List.range len').map L, by simp, ?_, by simp; unfold maxLen at hm; omega⟩
    intro hne
    have h0 : 0 < len' := by
      rcases Nat.eq_zero_or_pos len' with rfl | h
      · exact absurd rfl hne
      · exact h
    obtain ⟨rfl, c0, _⟩ := hL 0 h0
    refine ⟨b, off, rfl, cell_inA c0, fun i x y hi => ?_⟩
    have hlt : i < len' := by
      rcases Nat.lt_or_ge i len' with h1 | h1
      · exact h1
      · rw [List.getElem?_eq_none (by simpa using h1)] at hi; cases hi
    rw [List.getElem?_map, List.getElem?_range hlt] at hi
    simp only [Option.map_some, Option.some.injEq] at hi
    have := (hL i hlt).2
    rw [hi] at this
    exact this

set_option maxRecDepth 100000 in
theorem openSets {r : Reach} {b0 : Nat} {v : Value} {d : DataW H} {p : List MemPlace} (hv : Value.okWide Try.prog w r b0 22 v) (h : DataW.Trod enc Try.prog w base spare held 22 v d p) :
    ∃ (A : Option Addr) (len cap : Nat) (ls : List (List (Int × Int))), v = .slice A len cap ∧ (SetsRow w w.heap.size A ls ∧ ∀ l ∈ ls, l.length ≤ 9223372036854775807) ∧ ls.length = len ∧ len ≤ 9223372036854775807 := by
  obtain ⟨A, len, cap, rfl⟩ := okWide_slice Try.underlying22 hv
  obtain ⟨fuel, hf⟩ := h
  rcases open_slice Try.underlying22 hf with ⟨hcs, hx⟩ | ⟨a, len', cap', m, n, D, Pl, hcs, _, hl, hm, hmm, hx, hel⟩
  · simp [Value.cells] at hcs
    obtain ⟨rfl, rfl, rfl⟩ := hcs
    exact ⟨none, 0, 0, [], rfl, ⟨fun h => absurd rfl h, by simp⟩, rfl, by omega⟩
  · simp [Value.cells] at hcs
    obtain ⟨rfl, rfl, rfl⟩ := hcs
    have hlm : len ≤ m := by rw [hmm]; split <;> omega
    obtain ⟨b, off, spot⟩ := a
    have key : ∀ i, i < len → ∃ x : List (Int × Int), spot = none ∧ (∃ Ai ci, w.cell? ⟨b, off + i, none⟩ = some (.slice Ai x.length ci) ∧ AngRow w w.heap.size Ai x) ∧ x.length ≤ 9223372036854775807 := by
      intro i hi
      obtain ⟨cs', hc, ht⟩ := hel i (by omega)
      rw [cellsSA] at hc
      obtain ⟨_, hl2, hcell⟩ := World.cells?_some hc
      obtain ⟨c0, rfl⟩ : ∃ c0, cs' = [c0] := by
        match cs', hl2 with
        | [c0], _ => exact ⟨c0, rfl⟩
      obtain ⟨Ai, ci, l, rfl, hr, hb⟩ := openAngT ht
      have r0 := hcell 0 (by omega)
      have hspot : spot = none := by
        obtain ⟨cs0, hc0, _⟩ := hel 0 (by omega)
        rw [cellsSA] at hc0
        obtain ⟨_, l0, hcell0⟩ := World.cells?_some hc0
        obtain ⟨u0, rfl⟩ : ∃ c0, cs0 = [c0] := by
          match cs0, l0 with
          | [c0], _ => exact ⟨c0, rfl⟩
        have r00 := hcell0 0 (by omega)
        have s0 := World.cell?_spot r00
        simpa [Addr.add] using s0
      subst hspot
      refine ⟨l, rfl, ⟨Ai, ci, ?_, hr⟩, hb⟩
      simpa [add_plain] using r0
    obtain ⟨L, hL⟩ := choose_lt key
    have hg : ∀ i, i < len → gA ((List.range len).map L) i = L i := fun i hi => by
      have h := gA_some (ls := (List.range len).map L) (i := i) (by simpa using hi)
      rw [List.getElem?_map, List.getElem?_range hi] at h
      simpa using h.symm
    refine ⟨_, len, cap, (List.range len).map L, rfl, ⟨?_, ?_⟩, by simp, by unfold maxLen at hm; omega⟩
    · intro hne
      have h0 : 0 < len := by
        rcases Nat.eq_zero_or_pos len with rfl | h
        · exact absurd rfl hne
        · exact h
      obtain ⟨rfl, ⟨_, _, c0, _⟩, _⟩ := hL 0 h0
      refine ⟨b, off, rfl, cell_inA c0, fun i hi => ?_⟩
      have hlt : i < len := by simpa using hi
      rw [hg i hlt]
      exact (hL i hlt).2.1
    · intro l hl
      obtain ⟨i, hi, rfl⟩ := List.mem_map.1 hl
      exact (hL i (List.mem_range.1 hi)).2.2
end

set_option maxHeartbeats 2000000 in
theorem szSets (A : Option Addr) (n cap : Nat) (ls : List (List (Int × Int))) (w : World) (hr : SetsRow w w.heap.size A ls ∧ ∀ l ∈ ls, l.length ≤ 9223372036854775807) (hn : ls.length = n) (hm : n ≤ 9223372036854775807) (R : Int) (hR : (1048576 < n + totL ls ∧ R = -1) ∨ (n + totL ls ≤ 1048576 ∧ R = (1048576 : Int) - (n : Int) - (totL ls : Int))) :
    Calls Try.prog 9 #[.slice A n cap, .int .i64 1048576] w fun e w' => e = .returned (.int .i64 R) ∧ w = w' := by
  have HR := Lib.hid hr.1
  have HLe := Lib.hid hr.2
  have HN := Lib.hid hn
  have HRR := Lib.hid hR
  clear hr hn hR
  by_cases h0 : 1048576 < n
  · obtain rfl : R = -1 := by
      rcases HRR.out with ⟨_, h⟩ | ⟨h, _⟩
      · exact h
      · omega
    have hI : (1048576 : Int) - (n : Int) < 0 := by omega
    go_enter Try.func9, Try.ntmps9
    go_wp2
    go_ret
    exact ⟨rfl, rfl⟩
  · have hI : ¬ (1048576 : Int) - (n : Int) < 0 := by omega
    go_enter Try.func9, Try.ntmps9
    go_wp2
    go_loopg [1, 5] n (fun g s1 ix wr => ∃ k : Nat, k + g = n ∧ ix = .int .i64 k ∧ s1 = .int .i64 ((1048576 : Int) - (n : Int) - (totL (ls.take k) : Int)) ∧ n + totL (ls.take k) ≤ 1048576 ∧ wr = w)
    case atStart => exact ⟨0, by omega, rfl, by simp [totL], by simp [totL]; omega, rfl⟩
    case round =>
      obtain ⟨k, hkg, rfl, rfl, hle, rfl⟩ := hrel
      cases gk with
      | zero =>
        obtain rfl : k = n := by omega
        have e : ls.take k = ls := List.take_of_length_le (by have := HN.out; omega)
        rw [e] at hle ⊢
        have HI : Hid (R = (1048576 : Int) - (k : Int) - (totL ls : Int)) := Lib.hid (by
          rcases HRR.out with ⟨h, _⟩ | ⟨_, h⟩
          · omega
          · exact h)
        clear hkg e
        go_wp2
        go_ret
        exact ⟨by rw [HI.out]; rfl, rfl⟩
      | succ g =>
        have hkl : k < ls.length := by have := HN.out; omega
        have hkn : k < n := by omega
        obtain ⟨b, off, rfl, hbb, hc⟩ := HR.out.form hkl
        obtain ⟨Ai, ci, x0, -⟩ := hc k hkl
        have hb := HLe.out _ (gA_mem hkl)
        have HT : Hid (totL (ls.take (k + 1)) = totL (ls.take k) + (gA ls k).length) := Lib.hid (totL_take hkl)
        have hTl := totL_le ls (k + 1)
        have HTl := Lib.hid hTl
        obtain ⟨len, hlen⟩ : ∃ len, (gA ls k).length = len := ⟨_, rfl⟩
        rw [hlen] at x0 hb HT
        have HS := Lib.hid (fun w => szAng Ai len ci ((1048576 : Int) - (n : Int) - (totL (ls.take k) : Int)) w (by omega) (by omega) hb)
        have HKG := Lib.hid hkg
        clear hc hlen hkg hTl
        obtain ⟨T, hT⟩ : ∃ T, totL (ls.take k) = T := ⟨_, rfl⟩
        rw [hT] at HT HS hle ⊢
        clear hT
        generalize hL0 : (1048576 : Int) - (n : Int) - (T : Int) = L at *
        by_cases hlt : L < (len : Int)
        · have HI : Hid (R = -1) := Lib.hid (by
            have := HT.out; have := HTl.out
            rcases HRR.out with ⟨_, h⟩ | ⟨h, _⟩
            · exact h
            · omega)
          rw [if_pos hlt] at HS
          clear hL0 hlt
          go_wp2_with fail
          refine (HS.out _).mono ?_
          rintro e w1 ⟨rfl, rfl⟩
          go_wp2
          go_ret
          exact ⟨by rw [HI.out]; rfl, rfl⟩
        · rw [if_neg hlt] at HS
          have hge : ¬ (L - (len : Int) < 0) := by omega
          have hle2 : n + totL (ls.take (k + 1)) ≤ 1048576 := by have := HT.out; omega
          have HE : Hid (L - (len : Int) = (1048576 : Int) - (n : Int) - (totL (ls.take (k + 1)) : Int)) := Lib.hid (by rw [HT.out]; omega)
          have HL2 := Lib.hid hle2
          clear hL0 hlt hle2
          go_wp2_with fail
          refine (HS.out _).mono ?_
          rintro e w1 ⟨rfl, rfl⟩
          go_wp2
          go_roundg g
          case measure => omega
          case rel => exact ⟨k + 1, by have := HKG.out; omega, by go_num, by rw [← HE.out], HL2.out, rfl⟩

theorem infoSA : (Try.prog.info? 36).map (fun i => (i.zero, i.size, i.bytes)) = some (some (.slice none 0 0), 1, 24) := by kernel_rfl
/-- The first k sets have been copied; the outer block is G. -/
structure FillS (w : World) (G n : Nat) (ls : List (List (Int × Int))) (k : Nat) (W : World) : Prop where
  B : Below w.heap.size w W
  lo : w.heap.size ≤ G
  z : G < W.heap.size
  got : ∀ i, i < k → ∃ Ai ci, W.cell? ⟨G, i, none⟩ = some (.slice Ai (gA ls i).length ci) ∧ AngOwn W (G + 1) Ai (gA ls i)
  there : ∀ o, o < n → ∃ v, W.cell? ⟨G, o, none⟩ = some v
  free : ∀ o, W.frozen? ⟨G, o, none⟩ = false
theorem FillS.on {w W W1 : World} {G n k : Nat} {ls : List (List (Int × Int))} (H : FillS w G n ls k W) (hb : Below W.heap.size W W1) : FillS w G n ls k W1 :=
  ⟨belowNext H.B hb, H.lo, Nat.lt_of_lt_of_le H.z hb.size, fun i hi => by
    obtain ⟨Ai, ci, h1, h2⟩ := H.got i hi
    exact ⟨Ai, ci, cellThru hb H.z h1, h2.next hb⟩, fun o ho => (H.there o ho).imp fun _ hv => cellThru hb H.z hv, fun o => frozThru hb H.z (H.free o)⟩
theorem FillS.put {w W : World} {G n k : Nat} {ls : List (List (Int × Int))} {A : Option Addr} {c : Nat} (H : FillS w G n ls k W) (hk : k < n) (ho : AngOwn W (G + 1) A (gA ls k)) : FillS w G n ls (k + 1) (W.setCell ⟨G, k, none⟩ (.slice A (gA ls k).length c)) := by
  obtain ⟨u, hu⟩ := H.there k hk
  have honly : OnlyB G W (W.setCell ⟨G, k, none⟩ (.slice A (gA ls k).length c)) := (OnlyB.refl _ _).set _ _
  refine ⟨H.B.setCell H.lo _, H.lo, by simpa using H.z, fun i hi => ?_, fun o ho => ?_, fun o => by simpa using H.free o⟩
  · by_cases e : i = k
    · subst e
      exact ⟨A, c, World.cell?_setCell_same _ _ _ hu, AngOwn.only honly ho (by omega)⟩
    · obtain ⟨Ai, ci, h1, h2⟩ := H.got i (by omega)
      refine ⟨Ai, ci, ?_, AngOwn.only honly h2 (by omega)⟩
      rw [World.cell?_setCell_other _ _ _ _ (by first | (simp; done) | simpa using e)]
      exact h1
  · by_cases e : o = k
    · subst e; exact ⟨_, World.cell?_setCell_same _ _ _ hu⟩
    · obtain ⟨v, hv⟩ := H.there o ho
      exact ⟨v, by rw [World.cell?_setCell_other _ _ _ _ (by first | (simp; done) | simpa using e)]; exact hv⟩

set_option maxRecDepth 100000 in
set_option maxHeartbeats 2000000 in
theorem toSets (A : Option Addr) (n cap : Nat) (ls : List (List (Int × Int))) (w : World) (hr : SetsRow w w.heap.size A ls) (hn : ls.length = n) (hm : n + totL ls ≤ 1048576) :
    Calls Try.prog 11 #[.slice A n cap] w fun e w' => e = .returned (.slice (some ⟨w.heap.size, 0, none⟩) n n) ∧ SetsRow w' w'.heap.size (some ⟨w.heap.size, 0, none⟩) ls ∧ Below w.heap.size w w' := by
  obtain ⟨i0, hi, hz0, hz1, hz2⟩ := infoAg_parts infoSA
  have HR := Lib.hid hr
  have HN := Lib.hid hn
  have HTm := Lib.hid hm
  have hm' : n ≤ 1048576 := by omega
  clear hr hn hm
  obtain ⟨G, hG⟩ : ∃ G, w.heap.size = G := ⟨_, rfl⟩
  have HGe := Lib.hid hG
  go_enter Try.func11, Try.ntmps11
  go_wp2_with (at_make; refine wpList_make_full _ rfl _ _ 26 rfl w.heap.size 36 i0 (.slice none 0 0) 1 Try.underlying26 hi hz0 hz1 .i64 .i64 _ _ n rfl rfl rfl rfl (by rw [hz2]; omega) (by unfold maxLen; omega) (by omega) ?_; intro w2 hown2 hgrow2)
  have hst : FillS w G n ls 0 w2 := by
    rw [← hG]
    refine ⟨belowGrownA hgrow2, Nat.le_refl _, ?_, fun i h => absurd h (by omega), fun o ho => ?_, fun o => hown2.frozenAt o⟩
    · rcases hown2.2 with ⟨hv, _⟩ | ⟨g0, c0, cur, hv, _, hh, _⟩
      · cases hv
      · injection hv with hv
        injection hv with hv
        injection hv with hv
        rw [← hv] at hh
        rcases Nat.lt_or_ge w.heap.size w2.heap.size with h1 | h1
        · exact h1
        · rw [Array.getElem?_eq_none h1] at hh; cases hh
    · have hx := hown2.1
      exact ⟨_, (hown2.cellAt o (by omega)).trans (List.getElem?_eq_getElem (by omega))⟩
  have HS := Lib.hid hst
  try rw [hG]
  clear hst hown2 hgrow2 hG
  go_wp2_with fail
  go_loopg [4] n (fun g ix wr => ∃ k : Nat, k + g = n ∧ ix = .int .i64 k ∧ Hid (FillS w G n ls k wr))
  case atStart => exact ⟨0, by omega, rfl, HS⟩
  case round =>
    clear HS
    obtain ⟨k, hkg, rfl, H⟩ := hrel
    cases gk with
    | zero =>
      obtain rfl : k = n := by omega
      have HQ : Hid (SetsRow wr wr.heap.size (some ⟨G, 0, none⟩) ls) := Lib.hid (fun _ => ⟨G, 0, rfl, H.out.z, fun i hi => by
        obtain ⟨Ai, ci, h1, h2⟩ := H.out.got i (by have := HN.out; omega)
        rw [Nat.zero_add]
        exact ⟨Ai, ci, h1, h2.row⟩⟩)
      clear hkg
      go_wp2
      go_ret
      exact ⟨by rw [HGe.out]; rfl, by rw [HGe.out]; exact HQ.out, H.out.B⟩
    | succ g =>
      have hkl : k < ls.length := by have := HN.out; omega
      have hkn : k < n := by omega
      obtain ⟨b, off, rfl, hbb, hc⟩ := HR.out.form hkl
      obtain ⟨Ai, ci, x0, hrow⟩ := hc k hkl
      have x0 := cellThru H.out.B hbb x0
      have hbw : b < wr.heap.size := Nat.lt_of_lt_of_le hbb H.out.B.size
      have hle := len_tot hkl
      have hTm := HTm.out
      have HTo := Lib.hid (toAngSX Ai (gA ls k).length ci (gA ls k) wr ((hrow.below H.out.B).more H.out.B.size) rfl (by omega))
      have HPut := Lib.hid (fun W A' c' (F : FillS w G n ls k W) (ho : AngOwn W (G + 1) A' (gA ls k)) => F.put (c := c') hkn ho)
      obtain ⟨len, hlen⟩ : ∃ len, (gA ls k).length = len := ⟨_, rfl⟩
      rw [hlen] at x0 HTo
      have HPut2 : Hid (∀ W A' c', FillS w G n ls k W → AngOwn W (G + 1) A' (gA ls k) → FillS w G n ls (k + 1) (W.setCell ⟨G, k, none⟩ (.slice A' len c'))) := Lib.hid (fun W A' c' F ho => by
        have := HPut.out W A' c' F ho
        rw [hlen] at this
        exact this)
      have HKG := Lib.hid hkg
      clear hc hrow hlen hle hTm hkg HPut
      have hzG := H.out.z
      obtain ⟨G2, hG2⟩ : ∃ g, wr.heap.size = g := ⟨_, rfl⟩
      rw [hG2] at HTo
      have HG2 := Lib.hid hG2
      clear hG2
      go_wp2_with fail
      refine HTo.out.mono ?_
      rintro e w3 ⟨rfl, ho3, hb3, -⟩
      rw [← HG2.out] at hb3
      have H3 := Lib.hid (H.out.on hb3)
      have HO3 := Lib.hid (ho3.loS (lo' := G + 1) (by have := HG2.out; omega))
      obtain ⟨u0, y0⟩ := H3.out.there k hkn
      have f0 := H3.out.free k
      have H4 := Lib.hid (HPut2.out _ _ len H3.out HO3.out)
      have hz3 := H3.out.z
      clear ho3 hb3 HTo x0 H H3 HO3 hbw
      go_wp2
      go_roundg g
      case measure => omega
      case rel => exact ⟨k + 1, by have := HKG.out; omega, by go_num, H4⟩

set_option maxRecDepth 8000 in
set_option maxHeartbeats 2000000 in
theorem eqSets (A : Option Addr) (n cap : Nat) (A' : Option Addr) (cap' : Nat) (ls : List (List (Int × Int))) (w : World) (hr : SetsRow w w.heap.size A ls) (hr' : SetsRow w w.heap.size A' ls) (hn : ls.length = n) (hm : n + totL ls ≤ 1048576) :
    Calls Try.prog 13 #[.slice A n cap, .slice A' n cap'] w fun e w' => e = .returned (.bool true) ∧ Below w.heap.size w w' := by
  have HR := Lib.hid hr
  have HR' := Lib.hid hr'
  have HN := Lib.hid hn
  have HTm := Lib.hid hm
  have hm' : n ≤ 1048576 := by omega
  clear hr hr' hn hm
  go_enter Try.func13, Try.ntmps13
  go_wp2
  go_loopg [5] n (fun g ix wr => ∃ k : Nat, k + g = n ∧ ix = .int .i64 k ∧ Hid (Below w.heap.size w wr))
  case atStart => exact ⟨0, by omega, rfl, Lib.hid (Below.refl _ _)⟩
  case round =>
    obtain ⟨k, hkg, rfl, HB⟩ := hrel
    cases gk with
    | zero =>
      obtain rfl : k = n := by omega
      clear hkg
      go_wp2
      go_ret
      exact ⟨rfl, HB.out⟩
    | succ g =>
      have hkl : k < ls.length := by have := HN.out; omega
      have hkn : k < n := by omega
      obtain ⟨b, off, rfl, hbb, hc⟩ := HR.out.form hkl
      obtain ⟨b', off', rfl, hbb', hc'⟩ := HR'.out.form hkl
      obtain ⟨Ai, ci, x0, hrow⟩ := hc k hkl
      obtain ⟨Aj, cj, y0, hrow'⟩ := hc' k hkl
      have hle := len_tot hkl
      have hTm := HTm.out
      have HE := Lib.hid (fun W (hB : Below w.heap.size w W) => eqAngS Ai Aj (gA ls k).length ci cj (gA ls k) W ((hrow.below hB).more hB.size) ((hrow'.below hB).more hB.size) rfl (by omega))
      obtain ⟨len, hlen⟩ : ∃ len, (gA ls k).length = len := ⟨_, rfl⟩
      rw [hlen] at x0 y0 HE
      have hbw : b < wr.heap.size := Nat.lt_of_lt_of_le hbb HB.out.size
      have hbw' : b' < wr.heap.size := Nat.lt_of_lt_of_le hbb' HB.out.size
      have S0 : C4 w ⟨b, off + k, none⟩ ⟨b', off' + k, none⟩ ⟨b', off' + k, none⟩ ⟨b', off' + k, none⟩ _ _ _ _ wr := ⟨HB.out, hbw, hbw', hbw', hbw', cellThru HB.out hbb x0, cellThru HB.out hbb' y0, cellThru HB.out hbb' y0, cellThru HB.out hbb' y0⟩
      have HKG := Lib.hid hkg
      clear hc hc' hrow hrow' hlen hle hTm hkg x0 y0 hkl
      go_wp2_with fail
      refine wp_region_held_drew (S := (C4 w ⟨b, off + k, none⟩ ⟨b', off' + k, none⟩ ⟨b', off' + k, none⟩ ⟨b', off' + k, none⟩ (.slice Ai len ci) (.slice Aj len cj) (.slice Aj len cj) (.slice Aj len cj))) (by kernel_rfl) ?_ (fun hHeld => ?_)
      · exact S0.on (Below.refl _ _).drew
      refine wpAnyH_take (i := 0) (v := ?_) rfl (by kernel_rfl) (by kernel_rfl) (by kernel_rfl) (fun _ _ _ h => h) (Or.inl ⟨by kernel_rfl, ?_⟩) hHeld ?_
      rotate_left
      · intro w hSw; obtain ⟨B, z1, z2, z3, z4, x1, x2, x3, x4⟩ := hSw; first | (go_simp; done) | (go_simp; with_reducible rfl)
      refine wpAnyH_take (i := 1) (v := ?_) rfl (by kernel_rfl) (by kernel_rfl) (by kernel_rfl) (fun _ _ _ h => h) (Or.inl ⟨by kernel_rfl, ?_⟩) hHeld ?_
      rotate_left
      · intro w hSw; obtain ⟨B, z1, z2, z3, z4, x1, x2, x3, x4⟩ := hSw; first | (go_simp; done) | (go_simp; with_reducible rfl)
      refine wpAnyH_take (i := 2) (v := ?_) rfl (by kernel_rfl) (by kernel_rfl) (by kernel_rfl) (fun _ _ _ h => h) (Or.inl ⟨by kernel_rfl, ?_⟩) hHeld ?_
      rotate_left
      · intro w hSw; obtain ⟨B, z1, z2, z3, z4, x1, x2, x3, x4⟩ := hSw; first | (go_simp; done) | (go_simp; with_reducible rfl)
      refine wpAnyH_take (i := 3) (v := ?_) rfl (by kernel_rfl) (by kernel_rfl) (by kernel_rfl) (fun _ _ _ h => h) (Or.inl ⟨by kernel_rfl, ?_⟩) hHeld ?_
      rotate_left
      · intro w hSw; obtain ⟨B, z1, z2, z3, z4, x1, x2, x3, x4⟩ := hSw; first | (go_simp; done) | (go_simp; with_reducible rfl)
      refine wpAnyH_take (i := 4) (v := ?_) rfl (by kernel_rfl) (by kernel_rfl) (by kernel_rfl) (fun _ _ _ h => h) (Or.inl ⟨by kernel_rfl, ?_⟩) hHeld ?_
      rotate_left
      · intro w hSw; obtain ⟨B, z1, z2, z3, z4, x1, x2, x3, x4⟩ := hSw; first | (go_simp; done) | (go_simp; with_reducible rfl)
      refine wpAnyH_take (i := 5) (v := ?_) rfl (by kernel_rfl) (by kernel_rfl) (by kernel_rfl) (fun _ _ _ h => h) (Or.inl ⟨by kernel_rfl, ?_⟩) hHeld ?_
      rotate_left
      · intro w hSw; obtain ⟨B, z1, z2, z3, z4, x1, x2, x3, x4⟩ := hSw; first | (go_simp; done) | (go_simp; with_reducible rfl)
      refine wpAnyH_take (i := 6) (v := ?_) rfl (by kernel_rfl) (by kernel_rfl) (by kernel_rfl) (fun _ _ _ h => h) (Or.inl ⟨by kernel_rfl, ?_⟩) hHeld ?_
      rotate_left
      · intro w hSw; obtain ⟨B, z1, z2, z3, z4, x1, x2, x3, x4⟩ := hSw; first | (go_simp; done) | (go_simp; with_reducible rfl)
      refine wpAnyH_take (i := 7) (v := ?_) rfl (by kernel_rfl) (by kernel_rfl) (by kernel_rfl) (fun _ _ _ h => h) (Or.inl ⟨by kernel_rfl, ?_⟩) hHeld ?_
      rotate_left
      · intro w hSw; obtain ⟨B, z1, z2, z3, z4, x1, x2, x3, x4⟩ := hSw; first | (go_simp; done) | (go_simp; with_reducible rfl)
      refine wpAnyH_ready (rs := [8]) (by kernel_rfl) (by simp) ?_
      refine AllReadyH.cons rfl (fun K hK => ?_) AllReadyH.nil
      go_simp
      go_wp2_with (go_at_call 23; (with_reducible refine (HE.out _ hHeld.B).mono ?_); rintro e w1 ⟨rfl, hb1⟩)
      have S2 := hHeld.on hb1
      refine hK.out _ _ ?_ (fun hHeld => ?_)
      · exact S2
      clear hK K
      refine wpAnyH_take (i := 9) (v := ?_) rfl (by kernel_rfl) (by kernel_rfl) (by kernel_rfl) (fun _ _ _ h => h) (Or.inl ⟨by kernel_rfl, ?_⟩) hHeld ?_
      rotate_left
      · intro w hSw; obtain ⟨B, z1, z2, z3, z4, x1, x2, x3, x4⟩ := hSw; first | (go_simp; done) | (go_simp; with_reducible rfl)
      refine wpAnyH_done (by kernel_rfl) ?_ _
      have HB5 := Lib.hid S2.B
      clear S0 S2 HB
      go_wp2
      go_roundg g
      case measure => omega
      case rel => exact ⟨k + 1, by have := HKG.out; omega, by go_num, HB5⟩

/-- The code of a portrait. -/
def CoIs (ls : List (List (Int × Int))) (C : Int) : Prop :=
  (C ≠ 0 ∧ CodeP ls C) ∨ (C = 2 ∧ CodeP ls 0 ∧ ∃ F, F ≠ 0 ∧ FailP ls F) ∨ (C = 0 ∧ CodeP ls 0 ∧ FailP ls 0)
theorem co_ex (ls : List (List (Int × Int))) : ∃ C, CoIs ls C := by
  obtain ⟨C, hC⟩ := code_ex ls
  by_cases h : C = 0
  · subst h
    obtain ⟨F, hF⟩ := fail_ex ls
    by_cases g : F = 0
    · subst g; exact ⟨0, .inr (.inr ⟨rfl, hC, hF⟩)⟩
    · exact ⟨2, .inr (.inl ⟨rfl, hC, F, g, hF⟩)⟩
  · exact ⟨C, .inl ⟨h, hC⟩⟩
/-- Everything that a call is told of the sets. -/
structure ArgS (w : World) (A : Option Addr) (n cap : Nat) (ls : List (List (Int × Int))) : Prop where
  row : SetsRow w w.heap.size A ls
  len : ls.length = n
  hm : n ≤ 1100000
  hcap : n ≤ cap
  ht : totL ls ≤ 1100000
theorem ArgS.next {w w' : World} {A : Option Addr} {n cap : Nat} {ls : List (List (Int × Int))} (h : ArgS w A n cap ls) (hb : Below w.heap.size w w') : ArgS w' A n cap ls := ⟨h.row.next hb, h.len, h.hm, h.hcap, h.ht⟩

set_option maxHeartbeats 1000000 in
theorem implCop (A : Option Addr) (n cap : Nat) (ls : List (List (Int × Int))) (w : World) (hr : ArgS w A n cap ls) (C : Int) (h : CoIs ls C) :
    Calls Try.prog 42 #[.slice A n cap] w fun e w' => e = .returned (.int .i64 C) ∧ Below w.heap.size w w' := by
  have HP := Lib.hid (fun F D (g : PtIs ls F D) => implPt A n cap ls w hr.row hr.len hr.hm hr.hcap hr.ht F D g)
  clear hr
  rcases h with ⟨h1, h2⟩ | ⟨rfl, h2, F, h3, h4⟩ | ⟨rfl, h2, h3⟩
  · have HP := Lib.hid (HP.out 0 C (.inl ⟨h1, h2, rfl⟩))
    clear h1 h2
    go_enter Try.func42, Try.ntmps42
    go_wp2_with fail
    refine HP.out.mono ?_
    rintro e w1 ⟨rfl, hb1⟩
    go_wp2
    go_ret
    exact ⟨rfl, hb1⟩
  · have HP := Lib.hid (HP.out F 0 (.inr ⟨rfl, h2, h4⟩))
    have hF : (F == 0) = false := beq_eq_false_iff_ne.2 h3
    clear h2 h4
    go_enter Try.func42, Try.ntmps42
    go_wp2_with fail
    refine HP.out.mono ?_
    rintro e w1 ⟨rfl, hb1⟩
    go_wp2
    go_ret
    exact ⟨rfl, hb1⟩
  · have HP := Lib.hid (HP.out 0 0 (.inr ⟨rfl, h2, h3⟩))
    clear h2 h3
    go_enter Try.func42, Try.ntmps42
    go_wp2_with fail
    refine HP.out.mono ?_
    rintro e w1 ⟨rfl, hb1⟩
    go_wp2
    go_ret
    exact ⟨rfl, hb1⟩
/-- What the two callees of the model tell. -/
theorem spec_two {w : World} {A : Option Addr} {n cap : Nat} {ls : List (List (Int × Int))} (hr : ArgS w A n cap ls) {D : Int} (hD : CodeP ls D) :
    (Calls Try.prog 32 #[.slice A n cap] w fun e w' => e = .returned (.int .i64 D) ∧ Below w.heap.size w w') ∧
      (D = 0 → ∀ F, FailP ls F → ∀ W, Below w.heap.size w W → Calls Try.prog 33 #[.slice A n cap] W fun e w' => e = .returned (.int .i64 F) ∧ Below W.heap.size W w') := by
  refine ⟨(specLists A n cap ls w hr.row hr.len hr.hm hr.ht).mono ?_, fun h0 F hF W hB => ?_⟩
  · rintro e w1 ⟨⟨E, rfl, HE⟩, hb1⟩
    obtain rfl := code_one hD HE.out
    exact ⟨rfl, hb1⟩
  · subst h0
    obtain ⟨ha, h1, h12, h64, hs⟩ := code_zero hD
    refine (specFails A n cap ls W (hr.row.next hB) hr.len hr.hm (by omega) ha (fun l hl => (hs l hl).1) (by have := hr.len; omega)).mono ?_
    rintro e w1 ⟨⟨E, rfl, HE⟩, hb1⟩
    obtain rfl := fail_one hF HE.out
    exact ⟨rfl, hb1⟩
set_option maxHeartbeats 1000000 in
theorem specCop (A : Option Addr) (n cap : Nat) (ls : List (List (Int × Int))) (w : World) (hr : ArgS w A n cap ls) (C : Int) (h : CoIs ls C) :
    Calls Try.prog 43 #[.slice A n cap] w fun e w' => e = .returned (.int .i64 C) ∧ Below w.heap.size w w' := by
  rcases h with ⟨h1, h2⟩ | ⟨rfl, h2, F, h3, h4⟩ | ⟨rfl, h2, h3⟩
  · obtain ⟨HL0, -⟩ := spec_two hr h2
    have HL := Lib.hid HL0
    have hC : (C == 0) = false := beq_eq_false_iff_ne.2 h1
    clear h2 hr
    go_enter Try.func43, Try.ntmps43
    go_wp2_with fail
    refine HL.out.mono ?_
    rintro e w1 ⟨rfl, hb1⟩
    go_wp2
    go_ret
    exact ⟨rfl, hb1⟩
  · obtain ⟨HL0, HF0⟩ := spec_two hr h2
    have HL := Lib.hid HL0
    have HF := Lib.hid (HF0 rfl F h4)
    have hF : (F == 0) = false := beq_eq_false_iff_ne.2 h3
    clear h2 hr h4 HL0 HF0
    go_enter Try.func43, Try.ntmps43
    go_wp2_with fail
    refine HL.out.mono ?_
    rintro e w1 ⟨rfl, hb1⟩
    go_wp2_with fail
    refine (HF.out _ hb1).mono ?_
    rintro e w2 ⟨rfl, hb2⟩
    go_wp2
    go_ret
    exact ⟨rfl, belowNext hb1 hb2⟩
  · obtain ⟨HL0, HF0⟩ := spec_two hr h2
    have HL := Lib.hid HL0
    have HF := Lib.hid (HF0 rfl 0 h3)
    clear h2 hr h3 HL0 HF0
    go_enter Try.func43, Try.ntmps43
    go_wp2_with fail
    refine HL.out.mono ?_
    rintro e w1 ⟨rfl, hb1⟩
    go_wp2_with fail
    refine (HF.out _ hb1).mono ?_
    rintro e w2 ⟨rfl, hb2⟩
    go_wp2
    go_ret
    exact ⟨rfl, belowNext hb1 hb2⟩
set_option maxHeartbeats 1000000 in
theorem specIsP (A : Option Addr) (n cap : Nat) (ls : List (List (Int × Int))) (w : World) (hr : ArgS w A n cap ls) (C : Int) (h : CoIs ls C) (R : Bool) (hR : R = decide (C = 0)) :
    Calls Try.prog 14 #[.slice A n cap] w fun e w' => e = .returned (.bool R) ∧ Below w.heap.size w w' := by
  subst hR
  have H : Calls Try.prog 41 #[.slice A n cap] w fun e w' => e = .returned (.bool (decide (C = 0))) ∧ Below w.heap.size w w' := by
    rcases h with ⟨h1, h2⟩ | ⟨rfl, h2, F, h3, h4⟩ | ⟨rfl, h2, h3⟩
    · obtain ⟨HL0, -⟩ := spec_two hr h2
      have HL := Lib.hid HL0
      have hC : (C == 0) = false := beq_eq_false_iff_ne.2 h1
      rw [decide_eq_false h1]
      clear h2 hr
      go_enter Try.func41, Try.ntmps41
      go_wp2_with fail
      refine HL.out.mono ?_
      rintro e w1 ⟨rfl, hb1⟩
      go_wp2
      go_ret
      exact ⟨rfl, hb1⟩
    · obtain ⟨HL0, HF0⟩ := spec_two hr h2
      have HL := Lib.hid HL0
      have HF := Lib.hid (HF0 rfl F h4)
      have hF : (F == 0) = false := beq_eq_false_iff_ne.2 h3
      clear h2 hr h4 HL0 HF0
      go_enter Try.func41, Try.ntmps41
      go_wp2_with fail
      refine HL.out.mono ?_
      rintro e w1 ⟨rfl, hb1⟩
      go_wp2_with fail
      refine (HF.out _ hb1).mono ?_
      rintro e w2 ⟨rfl, hb2⟩
      go_wp2
      go_ret
      exact ⟨rfl, belowNext hb1 hb2⟩
    · obtain ⟨HL0, HF0⟩ := spec_two hr h2
      have HL := Lib.hid HL0
      have HF := Lib.hid (HF0 rfl 0 h3)
      clear h2 hr h3 HL0 HF0
      go_enter Try.func41, Try.ntmps41
      go_wp2_with fail
      refine HL.out.mono ?_
      rintro e w1 ⟨rfl, hb1⟩
      go_wp2_with fail
      refine (HF.out _ hb1).mono ?_
      rintro e w2 ⟨rfl, hb2⟩
      go_wp2
      go_ret
      exact ⟨rfl, belowNext hb1 hb2⟩
  have HH := Lib.hid H
  generalize decide (C = 0) = R at *
  clear H h hr
  go_enter Try.func14, Try.ntmps14
  go_wp2_with fail
  refine HH.out.mono ?_
  rintro e w1 ⟨rfl, hb1⟩
  go_wp2
  go_ret
  exact ⟨rfl, hb1⟩
set_option maxHeartbeats 1000000 in
theorem implIsP (A : Option Addr) (n cap : Nat) (ls : List (List (Int × Int))) (w : World) (hr : ArgS w A n cap ls) (C : Int) (h : CoIs ls C) (R : Bool) (hR : R = decide (C = 0)) :
    Calls Try.prog 15 #[.slice A n cap] w fun e w' => e = .returned (.bool R) ∧ Below w.heap.size w w' := by
  have HH := Lib.hid (implCop A n cap ls w hr C h)
  have hR2 : (C == 0) = R := by subst hR; cases e : (C == 0) <;> simp_all
  clear hr h hR
  go_enter Try.func15, Try.ntmps15
  go_wp2_with fail
  refine HH.out.mono ?_
  rintro e w1 ⟨rfl, hb1⟩
  go_wp2
  go_ret
  exact ⟨by first | rfl | (rw [← hR2]; done) | (rw [← hR2]; rfl) | simp [hR2], hb1⟩

/-- What ValenceOf answers. -/
def VaIs (ls : List (List (Int × Int))) (V C : Int) : Prop := CoIs ls C ∧ ((C ≠ 0 ∧ V = 0) ∨ (C = 0 ∧ V = ((gA ls 0).length : Int)))
theorem va_ex (ls : List (List (Int × Int))) : ∃ V C, VaIs ls V C := by
  obtain ⟨C, hC⟩ := co_ex ls
  by_cases h : C = 0
  · exact ⟨_, C, hC, .inr ⟨h, rfl⟩⟩
  · exact ⟨0, C, hC, .inl ⟨h, rfl⟩⟩
theorem co_zero {ls : List (List (Int × Int))} (h : CoIs ls 0) : CodeP ls 0 ∧ FailP ls 0 := by
  rcases h with ⟨h, _⟩ | ⟨h, _⟩ | ⟨_, h⟩
  · exact absurd rfl h
  · omega
  · exact h
set_option maxHeartbeats 1000000 in
theorem specVal (A : Option Addr) (n cap : Nat) (ls : List (List (Int × Int))) (w : World) (hr : ArgS w A n cap ls) (V C : Int) (h : VaIs ls V C) :
    Calls Try.prog 16 #[.slice A n cap] w fun e w' => e = .returned (.tuple #[.int .i64 V, .int .i64 C]) ∧ Below w.heap.size w w' := by
  obtain ⟨hC, h⟩ := h
  have HH := Lib.hid (specCop A n cap ls w hr C hC)
  rcases h with ⟨h1, rfl⟩ | ⟨rfl, rfl⟩
  · have hC' : (C == 0) = false := beq_eq_false_iff_ne.2 h1
    clear hr hC
    go_enter Try.func16, Try.ntmps16
    go_wp2_with fail
    refine HH.out.mono ?_
    rintro e w1 ⟨rfl, hb1⟩
    go_wp2
    go_ret2
    exact ⟨rfl, hb1⟩
  · obtain ⟨-, h1, -⟩ := code_zero (co_zero hC).1
    obtain ⟨b, off, rfl, hbb, hc⟩ := hr.row.form h1
    obtain ⟨A0, c0, x0, -⟩ := hc 0 h1
    rw [Nat.add_zero] at x0
    have hn0 : (0 : Int) < (n : Int) := by have := hr.len; omega
    clear hr hC hc h1
    obtain ⟨len, hlen⟩ : ∃ len, (gA ls 0).length = len := ⟨_, rfl⟩
    rw [hlen] at x0 ⊢
    clear hlen
    go_enter Try.func16, Try.ntmps16
    go_wp2_with fail
    refine HH.out.mono ?_
    rintro e w1 ⟨rfl, hb1⟩
    have y0 := cellThru hb1 hbb x0
    have hbw : b < w1.heap.size := Nat.lt_of_lt_of_le hbb hb1.size
    clear x0
    go_wp2
    go_ret2
    exact ⟨rfl, hb1⟩
set_option maxHeartbeats 1000000 in
theorem implVal (A : Option Addr) (n cap : Nat) (ls : List (List (Int × Int))) (w : World) (hr : ArgS w A n cap ls) (V C : Int) (h : VaIs ls V C) :
    Calls Try.prog 17 #[.slice A n cap] w fun e w' => e = .returned (.tuple #[.int .i64 V, .int .i64 C]) ∧ Below w.heap.size w w' := by
  obtain ⟨hC, h⟩ := h
  have HH := Lib.hid (implCop A n cap ls w hr C hC)
  rcases h with ⟨h1, rfl⟩ | ⟨rfl, rfl⟩
  · have hC' : (C == 0) = false := beq_eq_false_iff_ne.2 h1
    clear hr hC
    go_enter Try.func17, Try.ntmps17
    go_wp2_with fail
    refine HH.out.mono ?_
    rintro e w1 ⟨rfl, hb1⟩
    go_wp2
    go_ret2
    exact ⟨rfl, hb1⟩
  · obtain ⟨-, h1, -⟩ := code_zero (co_zero hC).1
    obtain ⟨b, off, rfl, hbb, hc⟩ := hr.row.form h1
    obtain ⟨A0, c0, x0, -⟩ := hc 0 h1
    rw [Nat.add_zero] at x0
    have hn0 : (0 : Int) < (n : Int) := by have := hr.len; omega
    clear hr hC hc h1
    obtain ⟨len, hlen⟩ : ∃ len, (gA ls 0).length = len := ⟨_, rfl⟩
    rw [hlen] at x0 ⊢
    clear hlen
    go_enter Try.func17, Try.ntmps17
    go_wp2_with fail
    refine HH.out.mono ?_
    rintro e w1 ⟨rfl, hb1⟩
    have y0 := cellThru hb1 hbb x0
    have hbw : b < w1.heap.size := Nat.lt_of_lt_of_le hbb hb1.size
    clear x0
    go_wp2
    go_ret2
    exact ⟨rfl, hb1⟩
set_option maxRecDepth 100000 in
set_option maxHeartbeats 2000000 in
theorem lawPortraitThatFails (A : Option Addr) (n cap : Nat) (ls : List (List (Int × Int))) (w : World) (hr : SetsRow w w.heap.size A ls ∧ ∀ l ∈ ls, l.length ≤ 9223372036854775807) (hn : ls.length = n) (hm : n ≤ 9223372036854775807) :
    Calls Try.prog 3 #[.slice A n cap] w fun e w' => e = .returned (.bool true) ∧ Below w.heap.size w w' := by
  by_cases h : 1048576 < n + totL ls
  · have HZ := Lib.hid (szSets A n cap ls w hr hn hm (-1) (.inl ⟨h, rfl⟩))
    clear hr h hn
    go_enter Try.func3, Try.ntmps3
    go_wp2_with fail
    refine HZ.out.mono ?_
    rintro e w1 ⟨rfl, rfl⟩
    go_wp2
    go_ret
    exact ⟨rfl, Below.refl _ _⟩
  · have HZ := Lib.hid (szSets A n cap ls w hr hn hm _ (.inr ⟨by omega, rfl⟩))
    have nn : ¬ ((1048576 : Int) - (n : Int) - (totL ls : Int) < 0) := by omega
    obtain ⟨F, C, hIs⟩ := pt_ex ls
    have HT := Lib.hid (fun W (hB : Below w.heap.size w W) => toSets A n cap ls W (hr.1.next hB) hn (by omega))
    have HA := Lib.hid (fun (g : Nat) (W : World) (hr' : SetsRow W W.heap.size (some ⟨g, 0, none⟩) ls) => (⟨hr', hn, by omega, Nat.le_refl _, by omega⟩ : ArgS W (some ⟨g, 0, none⟩) n n ls))
    have HSp := Lib.hid (fun (g : Nat) (W : World) (hr' : SetsRow W W.heap.size (some ⟨g, 0, none⟩) ls) => specPt (some ⟨g, 0, none⟩) n n ls W hr' hn (by omega) (by omega) F C hIs)
    have HIm := Lib.hid (fun (g : Nat) (W : World) (hr' : SetsRow W W.heap.size (some ⟨g, 0, none⟩) ls) => implPt (some ⟨g, 0, none⟩) n n ls W hr' hn (by omega) (Nat.le_refl _) (by omega) F C hIs)
    have HEq := Lib.hid (fun (g g' : Nat) (W : World) (hr' : SetsRow W W.heap.size (some ⟨g, 0, none⟩) ls) (hr'' : SetsRow W W.heap.size (some ⟨g', 0, none⟩) ls) => eqSets (some ⟨g, 0, none⟩) n n (some ⟨g', 0, none⟩) n ls W hr' hr'' hn (by omega))
    clear hr h hIs hn
    generalize hleft : (1048576 : Int) - (n : Int) - (totL ls : Int) = left at *
    clear hleft
    go_enter Try.func3, Try.ntmps3
    go_wp2_with fail
    refine HZ.out.mono ?_
    rintro e w1 ⟨rfl, rfl⟩
    go_wp2_with fail
    refine (HT.out _ (Below.refl _ _)).mono ?_
    rintro e w2 ⟨rfl, ho2, hb2⟩
    have R2 := Lib.hid ho2
    clear ho2
    go_wp2_with fail
    refine (HSp.out _ _ R2.out).mono ?_
    rintro e w3 ⟨rfl, hb3⟩
    have K3 : Below w.heap.size w w3 := belowNext hb2 hb3
    clear hb2 hb3 R2
    go_wp2_with fail
    refine (HT.out _ K3).mono ?_
    rintro e w4 ⟨rfl, ho4, hb4⟩
    have X4 := Lib.hid ho4
    have K4 : Below w.heap.size w w4 := belowNext K3 hb4
    clear ho4 hb4 K3
    obtain ⟨G, hG⟩ : ∃ G, w3.heap.size = G := ⟨_, rfl⟩
    rw [hG] at X4
    try rw [hG]
    clear hG
    go_wp2_with fail
    refine (HIm.out _ _ X4.out).mono ?_
    rintro e w6 ⟨rfl, hb6⟩
    have X6 := Lib.hid (X4.out.next hb6)
    have K6 : Below w.heap.size w w6 := belowNext K4 hb6
    clear hb6 X4 K4
    go_wp2_with fail
    refine (HT.out _ K6).mono ?_
    rintro e w8 ⟨rfl, ho8, hb8⟩
    have X8 := Lib.hid (X6.out.next hb8)
    have Y8 := Lib.hid ho8
    have K8 : Below w.heap.size w w8 := belowNext K6 hb8
    clear hb8 X6 ho8 K6
    go_wp2_with fail
    refine (HEq.out _ _ _ X8.out Y8.out).mono ?_
    rintro e w9 ⟨rfl, hb9⟩
    go_wp2
    go_ret
    exact ⟨rfl, belowNext K8 hb9⟩
set_option maxRecDepth 100000 in
set_option maxHeartbeats 2000000 in
theorem lawIsPortrait (A : Option Addr) (n cap : Nat) (ls : List (List (Int × Int))) (w : World) (hr : SetsRow w w.heap.size A ls ∧ ∀ l ∈ ls, l.length ≤ 9223372036854775807) (hn : ls.length = n) (hm : n ≤ 9223372036854775807) :
    Calls Try.prog 4 #[.slice A n cap] w fun e w' => e = .returned (.bool true) ∧ Below w.heap.size w w' := by
  by_cases h : 1048576 < n + totL ls
  · have HZ := Lib.hid (szSets A n cap ls w hr hn hm (-1) (.inl ⟨h, rfl⟩))
    clear hr h hn
    go_enter Try.func4, Try.ntmps4
    go_wp2_with fail
    refine HZ.out.mono ?_
    rintro e w1 ⟨rfl, rfl⟩
    go_wp2
    go_ret
    exact ⟨rfl, Below.refl _ _⟩
  · have HZ := Lib.hid (szSets A n cap ls w hr hn hm _ (.inr ⟨by omega, rfl⟩))
    have nn : ¬ ((1048576 : Int) - (n : Int) - (totL ls : Int) < 0) := by omega
    obtain ⟨C, hIs⟩ := co_ex ls
    obtain ⟨R, hR⟩ : ∃ R : Bool, R = decide (C = 0) := ⟨_, rfl⟩
    have HT := Lib.hid (fun W (hB : Below w.heap.size w W) => toSets A n cap ls W (hr.1.next hB) hn (by omega))
    have HA := Lib.hid (fun (g : Nat) (W : World) (hr' : SetsRow W W.heap.size (some ⟨g, 0, none⟩) ls) => (⟨hr', hn, by omega, Nat.le_refl _, by omega⟩ : ArgS W (some ⟨g, 0, none⟩) n n ls))
    have HSp := Lib.hid (fun (g : Nat) (W : World) (hr' : SetsRow W W.heap.size (some ⟨g, 0, none⟩) ls) => specIsP (some ⟨g, 0, none⟩) n n ls W (HA.out g W hr') C hIs R hR)
    have HIm := Lib.hid (fun (g : Nat) (W : World) (hr' : SetsRow W W.heap.size (some ⟨g, 0, none⟩) ls) => implIsP (some ⟨g, 0, none⟩) n n ls W (HA.out g W hr') C hIs R hR)
    have HEq := Lib.hid (fun (g g' : Nat) (W : World) (hr' : SetsRow W W.heap.size (some ⟨g, 0, none⟩) ls) (hr'' : SetsRow W W.heap.size (some ⟨g', 0, none⟩) ls) => eqSets (some ⟨g, 0, none⟩) n n (some ⟨g', 0, none⟩) n ls W hr' hr'' hn (by omega))
    clear hr h hIs hn hR
    generalize hleft : (1048576 : Int) - (n : Int) - (totL ls : Int) = left at *
    clear hleft
    go_enter Try.func4, Try.ntmps4
    go_wp2_with fail
    refine HZ.out.mono ?_
    rintro e w1 ⟨rfl, rfl⟩
    go_wp2_with fail
    refine (HT.out _ (Below.refl _ _)).mono ?_
    rintro e w2 ⟨rfl, ho2, hb2⟩
    have R2 := Lib.hid ho2
    clear ho2
    go_wp2_with fail
    refine (HSp.out _ _ R2.out).mono ?_
    rintro e w3 ⟨rfl, hb3⟩
    have K3 : Below w.heap.size w w3 := belowNext hb2 hb3
    clear hb2 hb3 R2
    go_wp2_with fail
    refine (HT.out _ K3).mono ?_
    rintro e w4 ⟨rfl, ho4, hb4⟩
    have X4 := Lib.hid ho4
    have K4 : Below w.heap.size w w4 := belowNext K3 hb4
    clear ho4 hb4 K3
    obtain ⟨G, hG⟩ : ∃ G, w3.heap.size = G := ⟨_, rfl⟩
    rw [hG] at X4
    try rw [hG]
    clear hG
    go_wp2_with fail
    refine (HIm.out _ _ X4.out).mono ?_
    rintro e w6 ⟨rfl, hb6⟩
    have X6 := Lib.hid (X4.out.next hb6)
    have K6 : Below w.heap.size w w6 := belowNext K4 hb6
    clear hb6 X4 K4
    go_wp2_with fail
    refine (HT.out _ K6).mono ?_
    rintro e w8 ⟨rfl, ho8, hb8⟩
    have X8 := Lib.hid (X6.out.next hb8)
    have Y8 := Lib.hid ho8
    have K8 : Below w.heap.size w w8 := belowNext K6 hb8
    clear hb8 X6 ho8 K6
    go_wp2_with fail
    refine (HEq.out _ _ _ X8.out Y8.out).mono ?_
    rintro e w9 ⟨rfl, hb9⟩
    go_wp2
    go_ret
    exact ⟨rfl, belowNext K8 hb9⟩
set_option maxRecDepth 100000 in
set_option maxHeartbeats 2000000 in
theorem lawValenceOf (A : Option Addr) (n cap : Nat) (ls : List (List (Int × Int))) (w : World) (hr : SetsRow w w.heap.size A ls ∧ ∀ l ∈ ls, l.length ≤ 9223372036854775807) (hn : ls.length = n) (hm : n ≤ 9223372036854775807) :
    Calls Try.prog 5 #[.slice A n cap] w fun e w' => e = .returned (.bool true) ∧ Below w.heap.size w w' := by
  by_cases h : 1048576 < n + totL ls
  · have HZ := Lib.hid (szSets A n cap ls w hr hn hm (-1) (.inl ⟨h, rfl⟩))
    clear hr h hn
    go_enter Try.func5, Try.ntmps5
    go_wp2_with fail
    refine HZ.out.mono ?_
    rintro e w1 ⟨rfl, rfl⟩
    go_wp2
    go_ret
    exact ⟨rfl, Below.refl _ _⟩
  · have HZ := Lib.hid (szSets A n cap ls w hr hn hm _ (.inr ⟨by omega, rfl⟩))
    have nn : ¬ ((1048576 : Int) - (n : Int) - (totL ls : Int) < 0) := by omega
    obtain ⟨V, C, hIs⟩ := va_ex ls
    have HT := Lib.hid (fun W (hB : Below w.heap.size w W) => toSets A n cap ls W (hr.1.next hB) hn (by omega))
    have HA := Lib.hid (fun (g : Nat) (W : World) (hr' : SetsRow W W.heap.size (some ⟨g, 0, none⟩) ls) => (⟨hr', hn, by omega, Nat.le_refl _, by omega⟩ : ArgS W (some ⟨g, 0, none⟩) n n ls))
    have HSp := Lib.hid (fun (g : Nat) (W : World) (hr' : SetsRow W W.heap.size (some ⟨g, 0, none⟩) ls) => specVal (some ⟨g, 0, none⟩) n n ls W (HA.out g W hr') V C hIs)
    have HIm := Lib.hid (fun (g : Nat) (W : World) (hr' : SetsRow W W.heap.size (some ⟨g, 0, none⟩) ls) => implVal (some ⟨g, 0, none⟩) n n ls W (HA.out g W hr') V C hIs)
    have HEq := Lib.hid (fun (g g' : Nat) (W : World) (hr' : SetsRow W W.heap.size (some ⟨g, 0, none⟩) ls) (hr'' : SetsRow W W.heap.size (some ⟨g', 0, none⟩) ls) => eqSets (some ⟨g, 0, none⟩) n n (some ⟨g', 0, none⟩) n ls W hr' hr'' hn (by omega))
    clear hr h hIs hn
    generalize hleft : (1048576 : Int) - (n : Int) - (totL ls : Int) = left at *
    clear hleft
    go_enter Try.func5, Try.ntmps5
    go_wp2_with fail
    refine HZ.out.mono ?_
    rintro e w1 ⟨rfl, rfl⟩
    go_wp2_with fail
    refine (HT.out _ (Below.refl _ _)).mono ?_
    rintro e w2 ⟨rfl, ho2, hb2⟩
    have R2 := Lib.hid ho2
    clear ho2
    go_wp2_with fail
    refine (HSp.out _ _ R2.out).mono ?_
    rintro e w3 ⟨rfl, hb3⟩
    have K3 : Below w.heap.size w w3 := belowNext hb2 hb3
    clear hb2 hb3 R2
    go_wp2_with fail
    refine (HT.out _ K3).mono ?_
    rintro e w4 ⟨rfl, ho4, hb4⟩
    have X4 := Lib.hid ho4
    have K4 : Below w.heap.size w w4 := belowNext K3 hb4
    clear ho4 hb4 K3
    obtain ⟨G, hG⟩ : ∃ G, w3.heap.size = G := ⟨_, rfl⟩
    rw [hG] at X4
    try rw [hG]
    clear hG
    go_wp2_with fail
    refine (HIm.out _ _ X4.out).mono ?_
    rintro e w6 ⟨rfl, hb6⟩
    have X6 := Lib.hid (X4.out.next hb6)
    have K6 : Below w.heap.size w w6 := belowNext K4 hb6
    clear hb6 X4 K4
    go_wp2_with fail
    refine (HT.out _ K6).mono ?_
    rintro e w8 ⟨rfl, ho8, hb8⟩
    have X8 := Lib.hid (X6.out.next hb8)
    have Y8 := Lib.hid ho8
    have K8 : Below w.heap.size w w8 := belowNext K6 hb8
    clear hb8 X6 ho8 K6
    go_wp2_with fail
    refine (HEq.out _ _ _ X8.out Y8.out).mono ?_
    rintro e w9 ⟨rfl, hb9⟩
    go_wp2
    go_ret
    exact ⟨rfl, belowNext K8 hb9⟩
end Go.Proofs.Ytfdjoolhmianjaa

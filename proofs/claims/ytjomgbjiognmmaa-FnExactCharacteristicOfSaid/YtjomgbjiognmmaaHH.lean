/-
  Lists of lists of integers as arguments: opened, counted, copied.
  CharacteristicOf on both sides.
  CharacteristicOf as the model answers it; lists of lists copied; the law.
  The law of CharacteristicOf.
-/
import Derived.Test.YtjomgbjiognmmaaHG
import Derived.ChangeSlices
import Derived.WalkKit
import Derived.ProofKit
import Derived.OpenShut
import Derived.Lib.SmallJoins
import Derived.ChangeOld
import Derived.Deep.Slices
import Derived.OwnWalk
namespace Go.Proofs.Ytjomgbjiognmmaa
open Go.RowKit

set_option maxHeartbeats 1000000 in
theorem markTab2 (A : Option Addr) (n cap : Nat) (ln : Nat → Nat) (f : Tab) (lo : Nat) (w : World) (hr : TabOwn w lo A n ln f) (hm : n ≤ 1100000) (ht : totN ln n ≤ 1100000) :
    Calls Try.prog 16 #[.slice A n cap, .int .i64 1] w fun e w' => e = .returned (.int .i64 (1 + (totN ln n : Int))) ∧ Hid (TabOwn w' lo A n ln (mkN ln) ∧ Below lo w w') := by
  rcases Nat.eq_zero_or_pos n with h0 | h0
  · subst h0
    clear hr
    go_enter Try.func16, Try.ntmps16
    go_wp2
    go_loopw [1, 5] (fun q i wr => i = .int .i64 0 ∧ q = .int .i64 1 ∧ wr = w) (fun _ i _ => 0)
    case atStart => exact ⟨rfl, rfl, rfl⟩
    case round =>
      obtain ⟨rfl, rfl, rfl⟩ := hrel
      go_wp2
      go_ret
      exact ⟨by simp [totN], Lib.hid ⟨tabOwn_nil, Below.refl _ _⟩⟩
  · obtain ⟨g, off, bb, oo, rfl, hT⟩ := hr h0
    have HT := Lib.hid hT
    have HM := Lib.hid ht
    clear hT hr ht
    go_enter Try.func16, Try.ntmps16
    go_wp2
    go_loopg [1, 5] n (fun gk s1 ix wr => ∃ k : Nat, k + gk = n ∧ ix = .int .i64 k ∧ s1 = .int .i64 (1 + (totN ln k : Int)) ∧ Hid (TabAt wr lo g off bb oo n ln (fun i j => if i < k then mkN ln i j else f i j) ∧ Below lo w wr))
    case atStart => exact ⟨0, by omega, rfl, by simp [totN], Lib.hid ⟨HT.out.congr fun i j _ _ => by rw [if_neg (by omega)], Below.refl _ _⟩⟩
    case round =>
      obtain ⟨k, hkg, rfl, rfl, H⟩ := hrel
      cases gk with
      | zero =>
        obtain rfl : k = n := by omega
        clear hkg
        have HQ : Hid (TabOwn wr lo (some ⟨g, off, none⟩) k ln (mkN ln) ∧ Below lo w wr) := Lib.hid ⟨fun _ => ⟨g, off, bb, oo, rfl, H.out.1.congr fun i j hi _ => by rw [if_pos hi]⟩, H.out.2⟩
        clear H
        go_wp2
        go_ret
        exact ⟨rfl, HQ⟩
      | succ gk =>
        have hkn : k < n := by omega
        obtain ⟨Ai, ci, x0, hA⟩ := H.out.1.head k hkn
        have htk := Nat.le_trans (totN_row ln hkn) HM.out
        have HMk := Lib.hid (markRow Ai (bb k) (oo k) (ln k) ci (f k) lo (1 + (totN ln k : Int)) wr
          (fun h0 => ⟨hA h0, (H.out.1.row k hkn h0).1, (H.out.1.row k hkn h0).2.1, fun j hj => by have := H.out.1.cell k j hkn hj; rwa [if_neg (Nat.lt_irrefl k)] at this⟩) (by omega) (by omega) (by omega))
        obtain ⟨len, hlen⟩ : ∃ len, ln k = len := ⟨_, rfl⟩
        have HLn := Lib.hid hlen
        rw [hlen] at x0 HMk htk
        obtain ⟨T, hT⟩ : ∃ T, totN ln k = T := ⟨_, rfl⟩
        have HTk := Lib.hid hT
        rw [hT] at HMk htk ⊢
        have HKG := Lib.hid hkg
        clear hA hlen hT hkg
        go_wp2_with fail
        refine HMk.out.mono ?_
        rintro e w3 ⟨rfl, H3⟩
        have H4 : Hid (TabAt w3 lo g off bb oo n ln (fun i j => if i < k + 1 then mkN ln i j else f i j) ∧ Below lo w w3) := by
          refine Lib.hid ⟨?_, H.out.2.trans H3.out.1⟩
          rcases Nat.eq_zero_or_pos len with hz | hz
          · have e := H3.out.2.1
            rw [hz] at e
            refine TabAt.congr (f := fun i j => if i < k then mkN ln i j else f i j) ⟨H.out.1.glo, by rw [e.size]; exact H.out.1.gz, fun i hi => ?_, fun i hi h0 => by rw [e.size]; exact H.out.1.row i hi h0, fun i j hi hj => ?_, H.out.1.apart⟩ fun i j hi hj => ?_
            · obtain ⟨Ai, ci, h1, h2⟩ := H.out.1.head i hi
              exact ⟨Ai, ci, (e.cell _ (by omega)).trans h1, h2⟩
            · obtain ⟨h1, h2⟩ := H.out.1.cell i j hi hj
              exact ⟨(e.cell _ (by omega)).trans h1, (e.frz _).trans h2⟩
            · by_cases e : i = k
              · subst e; have := HLn.out; omega
              · by_cases e2 : i < k
                · rw [if_pos e2, if_pos (by omega)]
                · rw [if_neg e2, if_neg (by omega)]
          · have hl := HLn.out
            refine (H.out.1.turn (v := fun j => 1 + (T : Int) + (j : Int)) hkn (by omega) (by rw [hl]; exact H3.out.2.1) (by rw [hl]; exact H3.out.2.2)).congr fun i j hi hj => ?_
            by_cases e : i = k
            · subst e; rw [if_pos rfl, if_pos (by omega)]; unfold mkN; rw [HTk.out]
            · rw [if_neg e]
              by_cases e2 : i < k
              · rw [if_pos e2, if_pos (by omega)]
              · rw [if_neg e2, if_neg (by omega)]
        have HE : Hid ((1 : Int) + (T : Int) + (len : Int) = 1 + (totN ln (k + 1) : Int)) := Lib.hid (by simp only [totN]; rw [HTk.out, HLn.out]; omega)
        clear H H3 x0 HMk
        go_wp2
        go_roundg gk
        case measure => omega
        case rel => exact ⟨k + 1, by have := HKG.out; omega, by go_num, by rw [HE.out], H4⟩

set_option maxRecDepth 8000 in
set_option maxHeartbeats 2000000 in
theorem eqTab2 (A : Option Addr) (n cap : Nat) (A' : Option Addr) (cap' : Nat) (ln : Nat → Nat) (f : Tab) (w : World) (hr : TabRd w w.heap.size A n ln f) (hr' : TabRd w w.heap.size A' n ln f) (hm : n ≤ 1100000) (ht : totN ln n ≤ 1100000) :
    Calls Try.prog 15 #[.slice A n cap, .slice A' n cap'] w fun e w' => e = .returned (.bool true) ∧ Below w.heap.size w w' := by
  have HR := Lib.hid hr
  have HR' := Lib.hid hr'
  have HM := Lib.hid ht
  clear hr hr' ht
  go_enter Try.func15, Try.ntmps15
  go_wp2
  go_loopg [5] n (fun g ix wr => ∃ k : Nat, k + g = n ∧ ix = .int .i64 k ∧ Hid (Below w.heap.size w wr))
  case atStart => exact ⟨0, by omega, rfl, Lib.hid (Below.refl _ _)⟩
  case round =>
    obtain ⟨k, hkg, rfl, HB⟩ := hrel
    cases gk with
    | zero =>
      obtain rfl : k = n := by omega
      clear hkg
      go_wp2
      go_ret
      exact ⟨rfl, HB.out⟩
    | succ g =>
      have hkn : k < n := by omega
      obtain ⟨b, off, rfl, hbb, hc⟩ := HR.out (by omega)
      obtain ⟨b', off', rfl, hbb', hc'⟩ := HR'.out (by omega)
      obtain ⟨Ai, ci, x0, hrow⟩ := hc k hkn
      obtain ⟨Aj, cj, y0, hrow'⟩ := hc' k hkn
      have htk := Nat.le_trans (totN_row ln hkn) HM.out
      have HE := Lib.hid (fun W (hB : Below w.heap.size w W) => eqIntS Ai Aj (ln k) ci cj (rngL (ln k) (f k)) W ((hrow.below hB).more hB.size).int ((hrow'.below hB).more hB.size).int (rngL_len _ _) (by omega))
      obtain ⟨len, hlen⟩ : ∃ len, ln k = len := ⟨_, rfl⟩
      rw [hlen] at x0 y0 HE
      have hbw : b < wr.heap.size := Nat.lt_of_lt_of_le hbb HB.out.size
      have hbw' : b' < wr.heap.size := Nat.lt_of_lt_of_le hbb' HB.out.size
      have S0 : H4 w ⟨b, off + k, none⟩ ⟨b', off' + k, none⟩ ⟨b', off' + k, none⟩ ⟨b', off' + k, none⟩ _ _ _ _ wr := ⟨HB.out, hbw, hbw', hbw', hbw', cellThru HB.out hbb x0, cellThru HB.out hbb' y0, cellThru HB.out hbb' y0, cellThru HB.out hbb' y0⟩
      have HKG := Lib.hid hkg
      clear hc hc' hrow hrow' hlen htk hkg x0 y0
      go_wp2_with fail
      refine wp_region_held_drew (S := (H4 w ⟨b, off + k, none⟩ ⟨b', off' + k, none⟩ ⟨b', off' + k, none⟩ ⟨b', off' + k, none⟩ (.slice Ai len ci) (.slice Aj len cj) (.slice Aj len cj) (.slice Aj len cj))) (by kernel_rfl) ?_ (fun hHeld => ?_)
      · exact S0.on (Below.refl _ _).drew
      refine wpAnyH_take (i := 0) (v := ?_) rfl (by kernel_rfl) (by kernel_rfl) (by kernel_rfl) (fun _ _ _ h => h) (Or.inl ⟨by kernel_rfl, ?_⟩) hHeld ?_
      rotate_left
      · intro w hSw; obtain ⟨B, z1, z2, z3, z4, x1, x2, x3, x4⟩ := hSw; first | (go_simp; done) | (go_simp; with_reducible rfl)
      refine wpAnyH_take (i := 1) (v := ?_) rfl (by kernel_rfl) (by kernel_rfl) (by kernel_rfl) (fun _ _ _ h => h) (Or.inl ⟨by kernel_rfl, ?_⟩) hHeld ?_
      rotate_left
      · intro w hSw; obtain ⟨B, z1, z2, z3, z4, x1, x2, x3, x4⟩ := hSw; first | (go_simp; done) | (go_simp; with_reducible rfl)
      refine wpAnyH_take (i := 2) (v := ?_) rfl (by kernel_rfl) (by kernel_rfl) (by kernel_rfl) (fun _ _ _ h => h) (Or.inl ⟨by kernel_rfl, ?_⟩) hHeld ?_
      rotate_left
      · intro w hSw; obtain ⟨B, z1, z2, z3, z4, x1, x2, x3, x4⟩ := hSw; first | (go_simp; done) | (go_simp; with_reducible rfl)
      refine wpAnyH_take (i := 3) (v := ?_) rfl (by kernel_rfl) (by kernel_rfl) (by kernel_rfl) (fun _ _ _ h => h) (Or.inl ⟨by kernel_rfl, ?_⟩) hHeld ?_
      rotate_left
      · intro w hSw; obtain ⟨B, z1, z2, z3, z4, x1, x2, x3, x4⟩ := hSw; first | (go_simp; done) | (go_simp; with_reducible rfl)
      refine wpAnyH_take (i := 4) (v := ?_) rfl (by kernel_rfl) (by kernel_rfl) (by kernel_rfl) (fun _ _ _ h => h) (Or.inl ⟨by kernel_rfl, ?_⟩) hHeld ?_
      rotate_left
      · intro w hSw; obtain ⟨B, z1, z2, z3, z4, x1, x2, x3, x4⟩ := hSw; first | (go_simp; done) | (go_simp; with_reducible rfl)
      refine wpAnyH_take (i := 5) (v := ?_) rfl (by kernel_rfl) (by kernel_rfl) (by kernel_rfl) (fun _ _ _ h => h) (Or.inl ⟨by kernel_rfl, ?_⟩) hHeld ?_
      rotate_left
      · intro w hSw; obtain ⟨B, z1, z2, z3, z4, x1, x2, x3, x4⟩ := hSw; first | (go_simp; done) | (go_simp; with_reducible rfl)
      refine wpAnyH_take (i := 6) (v := ?_) rfl (by kernel_rfl) (by kernel_rfl) (by kernel_rfl) (fun _ _ _ h => h) (Or.inl ⟨by kernel_rfl, ?_⟩) hHeld ?_
      rotate_left
      · intro w hSw; obtain ⟨B, z1, z2, z3, z4, x1, x2, x3, x4⟩ := hSw; first | (go_simp; done) | (go_simp; with_reducible rfl)
      refine wpAnyH_take (i := 7) (v := ?_) rfl (by kernel_rfl) (by kernel_rfl) (by kernel_rfl) (fun _ _ _ h => h) (Or.inl ⟨by kernel_rfl, ?_⟩) hHeld ?_
      rotate_left
      · intro w hSw; obtain ⟨B, z1, z2, z3, z4, x1, x2, x3, x4⟩ := hSw; first | (go_simp; done) | (go_simp; with_reducible rfl)
      refine wpAnyH_ready (rs := [8]) (by kernel_rfl) (by simp) ?_
      refine AllReadyH.cons rfl (fun K hK => ?_) AllReadyH.nil
      go_simp
      go_wp2_with (go_at_call 26; (with_reducible refine (HE.out _ hHeld.B).mono ?_); rintro e w1 ⟨rfl, hb1⟩)
      have S2 := hHeld.on (belowDrewH hb1)
      refine hK.out _ _ ?_ (fun hHeld => ?_)
      · exact S2
      clear hK K
      refine wpAnyH_take (i := 9) (v := ?_) rfl (by kernel_rfl) (by kernel_rfl) (by kernel_rfl) (fun _ _ _ h => h) (Or.inl ⟨by kernel_rfl, ?_⟩) hHeld ?_
      rotate_left
      · intro w hSw; obtain ⟨B, z1, z2, z3, z4, x1, x2, x3, x4⟩ := hSw; first | (go_simp; done) | (go_simp; with_reducible rfl)
      refine wpAnyH_done (by kernel_rfl) ?_ _
      have HB5 := Lib.hid S2.B
      clear S0 S2 HB
      go_wp2
      go_roundg g
      case measure => omega
      case rel => exact ⟨k + 1, by have := HKG.out; omega, by go_num, HB5⟩


theorem cellsI8 : Try.prog.cellsOf 2 = 1 := by kernel_rfl
theorem cellsS8 : Try.prog.cellsOf 32 = 1 := by kernel_rfl
section
open Go.ChangeShapes Go.WideShapes Go.ChangeAt Go.Joins Go.Deep
variable {H : Type} {enc : TypeId × Value → H} {w : World} {base : Nat} {spare : Nat → Bool} {held : Bool}
set_option maxRecDepth 100000 in
theorem openIntT {fuel : Nat} {c0 : Value} {x : DataW H × List MemPlace} (hf : DataW.trod enc Try.prog w base spare held fuel 32 [c0] = some x) :
    ∃ (A : Option Addr) (len cap : Nat) (f : Nat → Int), c0 = .slice A len cap ∧ RowRd w w.heap.size A len f ∧ len ≤ 9223372036854775807 := by
  rcases open_ints Try.underlying32 Try.underlying2 cellsI8 hf with ⟨hcs, hx⟩ | ⟨a, len', cap', zs, hcs, _, hl, hm, hmm, hx, hel, _⟩
  · injection hcs with hcs _
    subst hcs
    exact ⟨none, 0, 0, fun _ => 0, rfl, fun h => absurd h (by omega), by omega⟩
  · injection hcs with hcs _
    subst hcs
    have hlm : len' ≤ zs.length := by rw [hmm]; split <;> omega
    obtain ⟨b, off, spot⟩ := a
    refine ⟨_, len', cap', fun j => zs.getD j 0, rfl, fun h0 => ?_, by unfold maxLen at hm; omega⟩
    have hspot : spot = none := by
      have := World.cell?_spot (hel 0 (by omega))
      simpa [Addr.add] using this
    subst hspot
    have hadd : ∀ i, (⟨b, off, none⟩ : Addr).add i = ⟨b, off + i, none⟩ := fun i => by unfold Addr.add; split <;> simp_all
    refine ⟨b, off, rfl, ?_, fun j hj => ?_⟩
    · have := cell_inA (hel 0 (by omega))
      rw [hadd] at this
      exact this
    · have := hel j (by omega)
      rw [hadd] at this
      exact this

set_option maxRecDepth 100000 in
theorem openTabs {r : Reach} {b0 : Nat} {v : Value} {d : DataW H} {p : List MemPlace} (hv : Value.okWide Try.prog w r b0 24 v) (h : DataW.Trod enc Try.prog w base spare held 24 v d p) :
    ∃ (A : Option Addr) (len cap : Nat) (l : (Nat → Nat) × Tab), v = .slice A len cap ∧ (TabRd w w.heap.size A len l.1 l.2 ∧ ∀ i, i < len → l.1 i ≤ 9223372036854775807) ∧ True ∧ len ≤ 9223372036854775807 := by
  obtain ⟨A, len, cap, rfl⟩ := okWide_slice Try.underlying24 hv
  obtain ⟨fuel, hf⟩ := h
  rcases open_slice Try.underlying24 hf with ⟨hcs, hx⟩ | ⟨a, len', cap', m, n, D, Pl, hcs, _, hl, hm, hmm, hx, hel⟩
  · simp [Value.cells] at hcs
    obtain ⟨rfl, rfl, rfl⟩ := hcs
    exact ⟨none, 0, 0, (fun _ => 0, fun _ _ => 0), rfl, ⟨fun h => absurd h (by omega), fun i h => absurd h (by omega)⟩, trivial, by omega⟩
  · simp [Value.cells] at hcs
    obtain ⟨rfl, rfl, rfl⟩ := hcs
    have hlm : len ≤ m := by rw [hmm]; split <;> omega
    obtain ⟨b, off, spot⟩ := a
    have key : ∀ i, i < len → ∃ x : Nat × (Nat → Int), spot = none ∧ (∃ Ai ci, w.cell? ⟨b, off + i, none⟩ = some (.slice Ai x.1 ci) ∧ RowRd w w.heap.size Ai x.1 x.2) ∧ x.1 ≤ 9223372036854775807 := by
      intro i hi
      obtain ⟨cs', hc, ht⟩ := hel i (by omega)
      rw [cellsS8] at hc
      obtain ⟨_, hl2, hcell⟩ := World.cells?_some hc
      obtain ⟨c0, rfl⟩ : ∃ c0, cs' = [c0] := by
        match cs', hl2 with
        | [c0], _ => exact ⟨c0, rfl⟩
      obtain ⟨Ai, li, ci, f, rfl, hr, hb⟩ := openIntT ht
      have r0 := hcell 0 (by omega)
      have hspot : spot = none := by
        obtain ⟨cs0, hc0, _⟩ := hel 0 (by omega)
        rw [cellsS8] at hc0
        obtain ⟨_, l0, hcell0⟩ := World.cells?_some hc0
        obtain ⟨u0, rfl⟩ : ∃ c0, cs0 = [c0] := by
          match cs0, l0 with
          | [c0], _ => exact ⟨c0, rfl⟩
        have r00 := hcell0 0 (by omega)
        have s0 := World.cell?_spot r00
        simpa [Addr.add] using s0
      subst hspot
      refine ⟨(li, f), rfl, ⟨Ai, ci, ?_, hr⟩, hb⟩
      simpa [add_plain] using r0
    obtain ⟨L, hL⟩ := choose_lt key
    refine ⟨_, len, cap, (fun i => (L i).1, fun i => (L i).2), rfl, ⟨fun h0 => ?_, fun i hi => (hL i hi).2.2⟩, trivial, by unfold maxLen at hm; omega⟩
    obtain ⟨rfl, ⟨_, _, c0, _⟩, _⟩ := hL 0 h0
    exact ⟨b, off, rfl, cell_inA c0, fun i hi => (hL i hi).2.1⟩
end

set_option maxHeartbeats 1000000 in
theorem szInt8 (A : Option Addr) (len cap : Nat) (left : Int) (w : World) (h0 : 0 ≤ left) (h1 : left ≤ 1000000000) (hm : len ≤ 9223372036854775807) :
    Calls Try.prog 46 #[.slice A len cap, .int .i64 left] w fun e w' => e = .returned (.int .i64 (if left < (len : Int) then -1 else left - (len : Int))) ∧ w = w' := by
  by_cases h : left < (len : Int)
  · rw [if_pos h]
    have hI : left - (len : Int) < 0 := by omega
    go_enter Try.func46, Try.ntmps46
    go_wp2
    go_ret
    exact ⟨rfl, rfl⟩
  · rw [if_neg h]
    have hI : ¬ (left - (len : Int) < 0) := by omega
    go_enter Try.func46, Try.ntmps46
    go_wp2
    go_ret
    exact ⟨rfl, rfl⟩

set_option maxHeartbeats 2000000 in
theorem szTab (A : Option Addr) (n cap : Nat) (ln : Nat → Nat) (f : Tab) (w : World) (hr : TabRd w w.heap.size A n ln f ∧ ∀ i, i < n → ln i ≤ 9223372036854775807) (hm : n ≤ 9223372036854775807) (R : Int) (hR : (1048576 < n + totN ln n ∧ R = -1) ∨ (n + totN ln n ≤ 1048576 ∧ R = (1048576 : Int) - (n : Int) - (totN ln n : Int))) :
    Calls Try.prog 22 #[.slice A n cap, .int .i64 1048576] w fun e w' => e = .returned (.int .i64 R) ∧ w = w' := by
  have HR := Lib.hid hr.1
  have HLe := Lib.hid hr.2
  have HRR := Lib.hid hR
  clear hr hR
  by_cases h0 : 1048576 < n
  · obtain rfl : R = -1 := by
      rcases HRR.out with ⟨_, h⟩ | ⟨h, _⟩
      · exact h
      · omega
    have hI : (1048576 : Int) - (n : Int) < 0 := by omega
    go_enter Try.func22, Try.ntmps22
    go_wp2
    go_ret
    exact ⟨rfl, rfl⟩
  · have hI : ¬ (1048576 : Int) - (n : Int) < 0 := by omega
    go_enter Try.func22, Try.ntmps22
    go_wp2
    go_loopg [1, 5] n (fun g s1 ix wr => ∃ k : Nat, k + g = n ∧ ix = .int .i64 k ∧ s1 = .int .i64 ((1048576 : Int) - (n : Int) - (totN ln k : Int)) ∧ n + totN ln k ≤ 1048576 ∧ wr = w)
    case atStart => exact ⟨0, by omega, rfl, by simp [totN], by simp [totN]; omega, rfl⟩
    case round =>
      obtain ⟨k, hkg, rfl, rfl, hle, rfl⟩ := hrel
      cases gk with
      | zero =>
        obtain rfl : k = n := by omega
        have HI : Hid (R = (1048576 : Int) - (k : Int) - (totN ln k : Int)) := Lib.hid (by
          rcases HRR.out with ⟨h, _⟩ | ⟨_, h⟩
          · omega
          · exact h)
        clear hkg
        go_wp2
        go_ret
        exact ⟨by rw [HI.out]; rfl, rfl⟩
      | succ g =>
        have hkn : k < n := by omega
        obtain ⟨b, off, Ai, ci, rfl, hbb, x0, -⟩ := tabRow HR.out hkn
        have hb := HLe.out k hkn
        have HT : Hid (totN ln (k + 1) = totN ln k + ln k) := Lib.hid rfl
        have HTl := Lib.hid (totN_le ln (k := k + 1) (n := n) hkn)
        obtain ⟨len, hlen⟩ : ∃ len, ln k = len := ⟨_, rfl⟩
        rw [hlen] at x0 hb HT
        have HS := Lib.hid (fun w => szInt8 Ai len ci ((1048576 : Int) - (n : Int) - (totN ln k : Int)) w (by omega) (by omega) hb)
        have HKG := Lib.hid hkg
        clear hlen hkg
        obtain ⟨T, hT⟩ : ∃ T, totN ln k = T := ⟨_, rfl⟩
        rw [hT] at HT HS hle ⊢
        clear hT
        generalize hL0 : (1048576 : Int) - (n : Int) - (T : Int) = L at *
        by_cases hlt : L < (len : Int)
        · have HI : Hid (R = -1) := Lib.hid (by
            have := HT.out; have := HTl.out
            rcases HRR.out with ⟨_, h⟩ | ⟨h, _⟩
            · exact h
            · omega)
          rw [if_pos hlt] at HS
          clear hL0 hlt
          go_wp2_with fail
          refine (HS.out _).mono ?_
          rintro e w1 ⟨rfl, rfl⟩
          go_wp2
          go_ret
          exact ⟨by rw [HI.out]; rfl, rfl⟩
        · rw [if_neg hlt] at HS
          have hge : ¬ (L - (len : Int) < 0) := by omega
          have hle2 : n + totN ln (k + 1) ≤ 1048576 := by have := HT.out; omega
          have HE : Hid (L - (len : Int) = (1048576 : Int) - (n : Int) - (totN ln (k + 1) : Int)) := Lib.hid (by rw [HT.out]; omega)
          have HL2 := Lib.hid hle2
          clear hL0 hlt hle2
          go_wp2_with fail
          refine (HS.out _).mono ?_
          rintro e w1 ⟨rfl, rfl⟩
          go_wp2
          go_roundg g
          case measure => omega
          case rel => exact ⟨k + 1, by have := HKG.out; omega, by go_num, by rw [← HE.out], HL2.out, rfl⟩

/-- The first numbers of a row have been copied. -/
def cpF (f : Nat → Int) (k : Nat) : Nat → Int := fun q => if q < k then f q else 0
set_option maxRecDepth 8000 in
set_option maxHeartbeats 2000000 in
theorem toRow8 (A : Option Addr) (len cap : Nat) (f : Nat → Int) (w : World) (hr : RowRd w w.heap.size A len f) (hm : len ≤ 1048576) :
    Calls Try.prog 49 #[.slice A len cap] w fun e w' => e = .returned (.slice (some ⟨w.heap.size, 0, none⟩) len len) ∧ Hid (LdS w w.heap.size len f w') := by
  obtain ⟨i0, hi, hz0, hz1, hz2⟩ := infoI8_parts
  have HR := Lib.hid hr
  clear hr
  go_enter Try.func49, Try.ntmps49
  go_wp2_with (at_make; refine wpList_make_full _ rfl _ _ 32 rfl w.heap.size 2 i0 (.int .i64 0) 1 Try.underlying32 hi hz0 hz1 .i64 .i64 _ _ len rfl rfl rfl rfl (by rw [hz2]; omega) (by unfold maxLen; omega) (by omega) ?_; intro w2 hown2 hgrow2)
  obtain ⟨R, hR⟩ : ∃ R, w.heap.size = R := ⟨_, rfl⟩
  have HRe := Lib.hid hR
  have HS0 : Hid (LdS w R len (cpF f 0) w2) := Lib.hid (by
    subst hR
    exact ⟨belowGrown8 hgrow2, rfl, fun _ => (World.ownsRow.lt hown2 _ rfl).2, fun q hq => ⟨(hown2.cellAt q (by omega)).trans (made8 len q hq), hown2.frozenAt _⟩⟩)
  clear hown2 hgrow2 hi hz0 hR
  go_wp2_with fail
  try rw [HRe.out]
  go_loopg [4] len (fun g ix wr => ∃ k : Nat, k + g = len ∧ ix = .int .i64 k ∧ Hid (LdS w R len (cpF f k) wr))
  case atStart => exact ⟨0, by omega, rfl, HS0⟩
  case round =>
    clear HS0
    obtain ⟨k, hkg, rfl, HS⟩ := hrel
    cases gk with
    | zero =>
      obtain rfl : k = len := by omega
      have HQ : Hid (LdS w w.heap.size k f wr) := Lib.hid (by rw [HRe.out]; exact HS.out.congr fun q hq => if_pos hq)
      clear hkg HS
      go_wp2
      go_ret
      exact ⟨by rw [HRe.out]; rfl, HQ⟩
    | succ g =>
      have hkn : k < len := by omega
      obtain ⟨b, off, rfl, hb, hc⟩ := HR.out (by omega)
      have x0 := cellThru HS.out.B hb (hc k hkn)
      obtain ⟨y0, y1⟩ := HS.out.cell k hkn
      obtain ⟨ov, hov⟩ : ∃ ov, cpF f k k = ov := ⟨_, rfl⟩
      rw [hov] at y0
      obtain ⟨v, hv⟩ : ∃ v, f k = v := ⟨_, rfl⟩
      have HV := Lib.hid hv
      rw [hv] at x0
      have hbw : b < wr.heap.size := Nat.lt_of_lt_of_le hb HS.out.B.size
      have hRz := HS.out.z (by omega)
      have HKG := Lib.hid hkg
      clear hc hov hv hkg
      go_wp2
      go_roundg g
      case measure => omega
      case rel =>
        refine ⟨k + 1, by have := HKG.out; omega, by go_num, Lib.hid ((HS.out.put hkn _).congr fun q hq => ?_)⟩
        unfold cpF
        by_cases e : q = k
        · rw [if_pos e, e, if_pos (by omega), HV.out]
        · rw [if_neg e]
          by_cases e2 : q < k
          · rw [if_pos e2, if_pos (by omega)]
          · rw [if_neg e2, if_neg (by omega)]

def sqP (n : Nat) (ln : Nat → Nat) : Prop := ∀ i, i < n → ln i = n
def badR (m : Nat) (x : Nat → Int) : Prop := (∃ j, j < m ∧ (x j < 0 ∨ 2 < x j)) ∨ 2 < sigN m x
/-- The code of a matrix. -/
def ChIs (n : Nat) (ln : Nat → Nat) (f : Tab) (C : Int) : Prop :=
  (¬ sqP n ln ∧ C = 1) ∨ (sqP n ln ∧ (21 < n ∨ ∃ i, i < n ∧ badR n (f i)) ∧ C = 2) ∨ (sqP n ln ∧ n ≤ 21 ∧ (∀ i, i < n → ¬ badR n (f i)) ∧ C = 0)
theorem ch_ex (n : Nat) (ln : Nat → Nat) (f : Tab) : ∃ C, ChIs n ln f C := by
  by_cases h1 : sqP n ln
  · by_cases h2 : 21 < n ∨ ∃ i, i < n ∧ badR n (f i)
    · exact ⟨2, .inr (.inl ⟨h1, h2, rfl⟩)⟩
    · exact ⟨0, .inr (.inr ⟨h1, by have : ¬ 21 < n := fun x => h2 (.inl x)
                                   omega, fun i hi hb => h2 (.inr ⟨i, hi, hb⟩), rfl⟩)⟩
  · exact ⟨1, .inl ⟨h1, rfl⟩⟩
theorem sig_bnd {x : Nat → Int} : ∀ {m : Nat}, (∀ j, j < m → 0 ≤ x j ∧ x j ≤ 2) → 0 ≤ sigN m x ∧ sigN m x ≤ 2 * (m : Int)
  | 0, _ => by simp [sigN]
  | m + 1, h => by
    have h1 := sig_bnd (m := m) fun j hj => h j (by omega)
    have h2 := h m (by omega)
    simp only [sigN]
    omega
theorem wrap_small {x : Int} (h : 0 ≤ x) (h' : x ≤ 1000000) : wrap64 x = x := by unfold wrap64; omega

set_option maxRecDepth 8000 in
set_option maxHeartbeats 2000000 in
theorem implIsMat (A : Option Addr) (n cap : Nat) (ln : Nat → Nat) (f : Tab) (w : World) (hr : TabRd w w.heap.size A n ln f) (hm : n ≤ 1100000) (R : Bool) (hR : R = true ↔ sqP n ln) :
    Calls Try.prog 50 #[.slice A n cap] w fun e w' => e = .returned (.bool R) ∧ w' = w := by
  have HR := Lib.hid hr
  have HRR := Lib.hid hR
  clear hr hR
  go_enter Try.func50, Try.ntmps50
  go_wp2
  go_loopg [4, 7] n (fun g _ ix wr => ∃ k : Nat, k + g = n ∧ ix = .int .i64 k ∧ Hid (∀ i, i < k → ln i = n) ∧ wr = w)
  case atStart => exact ⟨0, by omega, rfl, Lib.hid (fun i h => absurd h (by omega)), rfl⟩
  case round =>
    obtain ⟨k, hkg, rfl, HY, rfl⟩ := hrel
    cases gk with
    | zero =>
      obtain rfl : k = n := by omega
      have HE : Hid (R = true) := Lib.hid (HRR.out.2 HY.out)
      clear hkg
      go_wp2
      go_ret
      exact ⟨by rw [HE.out]; rfl, rfl⟩
    | succ g =>
      have hkn : k < n := by omega
      obtain ⟨b, off, Ai, ci, rfl, hb, x0, _⟩ := tabRow HR.out hkn
      obtain ⟨len, hlen⟩ : ∃ len, ln k = len := ⟨_, rfl⟩
      have HLn := Lib.hid hlen
      rw [hlen] at x0
      have HKG := Lib.hid hkg
      clear hlen hkg
      by_cases he : len = n
      · have HY2 : Hid (∀ i, i < k + 1 → ln i = n) := Lib.hid (fun i hi => by
          by_cases e : i = k
          · rw [e, HLn.out]; exact he
          · exact HY.out i (by omega))
        subst he
        go_wp2
        go_roundg g
        case measure => omega
        case rel => exact ⟨k + 1, by have := HKG.out; omega, by go_num, HY2, rfl⟩
      · have HE : Hid (R = false) := Lib.hid (by
          cases h : R
          · rfl
          · exact absurd ((HRR.out.1 h) k hkn) (by rw [HLn.out]; exact he))
        have e1 : ((len : Int) == (n : Int)) = false := beq_eq_false_iff_ne.2 (by omega)
        have e2 : decide ((len : Int) ≠ (n : Int)) = true := decide_eq_true (by omega)
        have e3 : (len == n) = false := beq_eq_false_iff_ne.2 he
        clear he
        go_wp2
        go_ret
        exact ⟨by rw [HE.out]; rfl, rfl⟩

/-- Yes or no, told by what it says. -/
def ResBd (w : World) (P : Prop) (e : Ending) (w' : World) : Prop := (∃ R : Bool, e = .returned (.bool R) ∧ Hid (R = true ↔ P)) ∧ w' = w

set_option maxRecDepth 8000 in
set_option maxHeartbeats 2000000 in
theorem implOut (A : Option Addr) (m cap : Nat) (x : Nat → Int) (w : World) (hr : RowRd w w.heap.size A m x) (hm : m ≤ 21) :
    Calls Try.prog 52 #[.slice A m cap] w (ResBd w (badR m x)) := by
  have HR := Lib.hid hr
  have HS := Lib.hid (implSum A m cap x w hr (by omega))
  clear hr
  go_enter Try.func52, Try.ntmps52
  go_wp2
  go_loopg [4, 7] m (fun g _ ix wr => ∃ k : Nat, k + g = m ∧ ix = .int .i64 k ∧ Hid (∀ i, i < k → 0 ≤ x i ∧ x i ≤ 2) ∧ wr = w)
  case atStart => exact ⟨0, by omega, rfl, Lib.hid (fun i h => absurd h (by omega)), rfl⟩
  case round =>
    obtain ⟨k, hkg, rfl, HY, rfl⟩ := hrel
    cases gk with
    | zero =>
      obtain rfl : k = m := by omega
      have hsb := sig_bnd HY.out
      have hws : wrap64 (sigN k x) = sigN k x := wrap_small hsb.1 (by omega)
      rw [hws] at HS
      have HB : Hid (badR k x ↔ 2 < sigN k x) := Lib.hid ⟨fun h => by
        rcases h with ⟨j, hj, h⟩ | h
        · have := HY.out j hj; omega
        · exact h, fun h => .inr h⟩
      generalize sigN k x = S at *
      clear hkg hws hsb
      go_wp2_with fail
      refine HS.out.mono ?_
      rintro e w1 ⟨rfl, rfl⟩
      go_wp2
      go_ret
      exact ⟨⟨_, rfl, Lib.hid (by rw [HB.out]; simp)⟩, rfl⟩
    | succ g =>
      have hkm : k < m := by omega
      obtain ⟨b, off, rfl, hb, hc⟩ := HR.out (by omega)
      have x0 := hc k hkm
      obtain ⟨v, hv⟩ : ∃ v, x k = v := ⟨_, rfl⟩
      have HV := Lib.hid hv
      rw [hv] at x0
      have HKG := Lib.hid hkg
      clear hc hv hkg
      by_cases h0 : v < 0
      · have d0 : decide (v < 0) = true := decide_eq_true h0
        have HBd : Hid (badR m x) := Lib.hid (.inl ⟨k, hkm, .inl (by rw [HV.out]; exact h0)⟩)
        go_wp2
        go_ret
        exact ⟨⟨_, rfl, Lib.hid ⟨fun _ => HBd.out, fun _ => rfl⟩⟩, rfl⟩
      · have d0 : decide (v < 0) = false := decide_eq_false h0
        by_cases h2 : v > 2
        · have d2 : decide (v > 2) = true := decide_eq_true h2
          have d2' : decide (2 < v) = true := decide_eq_true h2
          have HBd : Hid (badR m x) := Lib.hid (.inl ⟨k, hkm, .inr (by rw [HV.out]; exact h2)⟩)
          go_wp2
          go_ret
          exact ⟨⟨_, rfl, Lib.hid ⟨fun _ => HBd.out, fun _ => rfl⟩⟩, rfl⟩
        · have d2 : decide (v > 2) = false := decide_eq_false h2
          have d2' : decide (2 < v) = false := decide_eq_false h2
          have HY2 : Hid (∀ i, i < k + 1 → 0 ≤ x i ∧ x i ≤ 2) := Lib.hid (fun i hi => by
            by_cases e : i = k
            · rw [e, HV.out]; omega
            · exact HY.out i (by omega))
          go_wp2
          go_roundg g
          case measure => omega
          case rel => exact ⟨k + 1, by have := HKG.out; omega, by go_num, HY2, rfl⟩

set_option maxRecDepth 8000 in
set_option maxHeartbeats 2000000 in
theorem implIdxO (A : Option Addr) (n cap : Nat) (f : Tab) (w : World) (hr : TabRd w w.heap.size A n (fun _ => n) f) (hm : n ≤ 21) :
    Calls Try.prog 80 #[.slice A n cap, .func (Fn.func 52) #[] #[]] w fun e w' => (∃ r : Int, e = .returned (.int .i64 r) ∧ -1 ≤ r ∧ r ≤ 1000 ∧ Hid (0 ≤ r ↔ ∃ i, i < n ∧ badR n (f i))) ∧ w' = w := by
  have hcf : ∀ args W, (callFunc 52 args).run Try.prog W = .ok (.enter 52 args) W := by intro args W; kernel_rfl
  have HR := Lib.hid hr
  clear hr
  go_enter Try.func80, Try.ntmps80
  go_wp2
  go_loopg [5, 8] n (fun g _ ix wr => ∃ k : Nat, k + g = n ∧ ix = .int .i64 k ∧ Hid (∀ t, t < k → ¬ badR n (f t)) ∧ wr = w)
  case atStart => exact ⟨0, by omega, rfl, Lib.hid (fun t h => absurd h (by omega)), rfl⟩
  case round =>
    obtain ⟨k, hkg, rfl, HY, rfl⟩ := hrel
    cases gk with
    | zero =>
      obtain rfl : k = n := by omega
      have HQ : Hid ((0 : Int) ≤ -1 ↔ ∃ i, i < k ∧ badR k (f i)) := Lib.hid ⟨fun h => absurd h (by omega), fun ⟨i, h1, h2⟩ => absurd h2 (HY.out i h1)⟩
      clear hkg
      go_wp2
      go_ret
      exact ⟨⟨_, rfl, by omega, by omega, HQ⟩, rfl⟩
    | succ g =>
      have hkn : k < n := by omega
      obtain ⟨b, off, Ai, ci, rfl, hb, x0, hrow⟩ := tabRow HR.out hkn
      have HO := Lib.hid (implOut Ai n ci (f k) wr hrow hm)
      have HKG := Lib.hid hkg
      clear hkg hrow
      go_wp2_with fail
      refine HO.out.mono ?_
      rintro e w1 ⟨⟨R, rfl, HRb⟩, rfl⟩
      cases R
      · have HY2 : Hid (∀ t, t < k + 1 → ¬ badR n (f t)) := Lib.hid (fun t ht => by
          by_cases e : t = k
          · rw [e]; exact fun h => by have := HRb.out.2 h; cases this
          · exact HY.out t (by omega))
        go_wp2
        go_roundg g
        case measure => omega
        case rel => exact ⟨k + 1, by have := HKG.out; omega, by go_num, HY2, rfl⟩
      · have HQ : Hid ((0 : Int) ≤ (k : Int) ↔ ∃ i, i < n ∧ badR n (f i)) := Lib.hid ⟨fun _ => ⟨k, hkn, HRb.out.1 rfl⟩, fun _ => by omega⟩
        go_wp2
        go_ret
        exact ⟨⟨_, rfl, by omega, by omega, HQ⟩, rfl⟩

set_option maxRecDepth 8000 in
set_option maxHeartbeats 2000000 in
theorem implCon (A : Option Addr) (n cap : Nat) (f : Tab) (w : World) (hr : TabRd w w.heap.size A n (fun _ => n) f) (hm : n ≤ 21) (R : Bool) (hR : R = true ↔ ∃ i, i < n ∧ badR n (f i)) :
    Calls Try.prog 51 #[.slice A n cap, .func (Fn.func 52) #[] #[]] w fun e w' => e = .returned (.bool R) ∧ w' = w := by
  have HI := Lib.hid (implIdxO A n cap f w hr hm)
  have HRR := Lib.hid hR
  clear hr hR
  go_enter Try.func51, Try.ntmps51
  go_wp2_with fail
  refine HI.out.mono ?_
  rintro e w1 ⟨⟨r, rfl, h1, h2, H⟩, rfl⟩
  have HE : Hid (decide (r ≥ 0) = R) := Lib.hid (by
    by_cases h : 0 ≤ r
    · rw [decide_eq_true (show r ≥ 0 from h)]; exact (HRR.out.2 (H.out.1 h)).symm
    · rw [decide_eq_false (show ¬ r ≥ 0 from h)]
      cases hR : R
      · rfl
      · exact absurd (H.out.2 (HRR.out.1 hR)) h)
  go_wp2
  go_ret
  exact ⟨by rw [← HE.out]; rfl, rfl⟩

def chL (n : Nat) (f : Tab) (C : Int) : List Int := if C = 0 then rngL (n + 1) (chF n (fun i => trF n (powF n f i)) n) else []
theorem chL_len {n : Nat} {ln : Nat → Nat} {f : Tab} {C : Int} (h : ChIs n ln f C) : (chL n f C).length ≤ 1000000000000 := by
  unfold chL
  split
  · next h0 =>
    rcases h with ⟨_, h⟩ | ⟨_, _, h⟩ | ⟨_, h, _⟩
    · omega
    · omega
    · rw [rngL_len]; omega
  · simp

set_option maxRecDepth 8000 in
set_option maxHeartbeats 2000000 in
theorem implCO (A : Option Addr) (n cap : Nat) (ln : Nat → Nat) (f : Tab) (w : World) (hr : TabRd w w.heap.size A n ln f) (hm : n ≤ 1100000) (C : Int) (hC : ChIs n ln f C) :
    Calls Try.prog 25 #[.slice A n cap] w (ResInt w (chL n f C) C) := by
  rcases hC with ⟨h1, rfl⟩ | ⟨h1, h2, rfl⟩ | ⟨h1, h2, h3, rfl⟩
  · have HM := Lib.hid (implIsMat A n cap ln f w hr hm false ⟨fun h => (by cases h), fun h => absurd h h1⟩)
    clear hr h1
    go_enter Try.func25, Try.ntmps25
    go_wp2_with fail
    refine HM.out.mono ?_
    rintro e w1 ⟨rfl, rfl⟩
    go_wp2
    go_ret2
    exact ⟨none, 0, rfl, ownI_nil, Below.refl _ _⟩
  · have HM := Lib.hid (implIsMat A n cap ln f w hr hm true ⟨fun _ => h1, fun _ => rfl⟩)
    by_cases hn : 21 < n
    · have d1 : decide ((n : Int) > 21) = true := decide_eq_true (by omega)
      have d1' : decide ((21 : Int) < (n : Int)) = true := decide_eq_true (by omega)
      have d1n : decide (21 < n) = true := decide_eq_true hn
      clear hr h1 h2
      go_enter Try.func25, Try.ntmps25
      go_wp2_with fail
      refine HM.out.mono ?_
      rintro e w1 ⟨rfl, rfl⟩
      go_wp2
      go_ret2
      exact ⟨none, 0, rfl, ownI_nil, Below.refl _ _⟩
    · have d1 : decide ((n : Int) > 21) = false := decide_eq_false (by omega)
      have d1' : decide ((21 : Int) < (n : Int)) = false := decide_eq_false (by omega)
      have d1n : decide (21 < n) = false := decide_eq_false hn
      have hr2 : TabRd w w.heap.size A n (fun _ => n) f := fun h0 => by
        obtain ⟨g, off, e, hg, hc⟩ := hr h0
        exact ⟨g, off, e, hg, fun i hi => by have := hc i hi; rw [h1 i hi] at this; exact this⟩
      have h2' : ∃ i, i < n ∧ badR n (f i) := by
        rcases h2 with h | h
        · exact absurd h hn
        · exact h
      have HC := Lib.hid (implCon A n cap f w hr2 (by omega) true ⟨fun _ => h2', fun _ => rfl⟩)
      clear hr h1 h2 hr2 h2'
      go_enter Try.func25, Try.ntmps25
      go_wp2_with fail
      refine HM.out.mono ?_
      rintro e w1 ⟨rfl, rfl⟩
      go_wp2_with fail
      refine HC.out.mono ?_
      rintro e w2 ⟨rfl, rfl⟩
      go_wp2
      go_ret2
      exact ⟨none, 0, rfl, ownI_nil, Below.refl _ _⟩
  · have HM := Lib.hid (implIsMat A n cap ln f w hr hm true ⟨fun _ => h1, fun _ => rfl⟩)
    have d1 : decide ((n : Int) > 21) = false := decide_eq_false (by omega)
    have d1' : decide ((21 : Int) < (n : Int)) = false := decide_eq_false (by omega)
    have d1n : decide (21 < n) = false := decide_eq_false (by omega)
    have hr2 : TabRd w w.heap.size A n (fun _ => n) f := fun h0 => by
      obtain ⟨g, off, e, hg, hc⟩ := hr h0
      exact ⟨g, off, e, hg, fun i hi => by have := hc i hi; rw [h1 i hi] at this; exact this⟩
    have HC := Lib.hid (implCon A n cap f w hr2 (by omega) false ⟨fun h => (by cases h), fun ⟨i, h4, h5⟩ => absurd h5 (h3 i h4)⟩)
    have HCh := Lib.hid (implCha A n cap f w hr2 h2)
    have e1 : chL n f 0 = rngL (n + 1) (chF n (fun i => trF n (powF n f i)) n) := rfl
    rw [e1]
    generalize chF n (fun i => trF n (powF n f i)) n = q at *
    clear hr h1 h3 hr2 e1
    go_enter Try.func25, Try.ntmps25
    go_wp2_with fail
    refine HM.out.mono ?_
    rintro e w1 ⟨rfl, rfl⟩
    go_wp2_with fail
    refine HC.out.mono ?_
    rintro e w2 ⟨rfl, rfl⟩
    go_wp2_with fail
    refine HCh.out.mono ?_
    rintro e w3 ⟨Y, rfl, hY, hb3⟩
    have HY := Lib.hid hY.out.int
    clear hY
    go_wp2
    go_ret2
    exact ⟨Y, n + 1, by rw [rngL_len]; rfl, HY.out, hb3⟩

theorem ch1 {n : Nat} {ln : Nat → Nat} {f : Tab} {C : Int} (h : ChIs n ln f C) (g : ¬ sqP n ln) : C = 1 := by
  rcases h with ⟨_, h⟩ | ⟨h, _⟩ | ⟨h, _⟩
  · exact h
  · exact absurd h g
  · exact absurd h g
theorem ch2 {n : Nat} {ln : Nat → Nat} {f : Tab} {C : Int} (h : ChIs n ln f C) (g : sqP n ln) (g2 : 21 < n ∨ ∃ i, i < n ∧ badR n (f i)) : C = 2 := by
  rcases h with ⟨h, _⟩ | ⟨_, _, h⟩ | ⟨_, h1, h2, _⟩
  · exact absurd g h
  · exact h
  · rcases g2 with g2 | ⟨i, g2, g3⟩
    · omega
    · exact absurd g3 (h2 i g2)
theorem ch0 {n : Nat} {ln : Nat → Nat} {f : Tab} {C : Int} (h : ChIs n ln f C) (g : sqP n ln) (g1 : n ≤ 21) (g2 : ∀ i, i < n → ¬ badR n (f i)) : C = 0 := by
  rcases h with ⟨h, _⟩ | ⟨_, h, _⟩ | ⟨_, _, _, h⟩
  · exact absurd g h
  · rcases h with h | ⟨i, h1, h2⟩
    · omega
    · exact absurd h2 (g2 i h1)
  · exact h

set_option maxRecDepth 8000 in
set_option maxHeartbeats 8000000 in
theorem specCode8 (A : Option Addr) (n cap : Nat) (ln : Nat → Nat) (f : Tab) (w : World) (hr : TabRd w w.heap.size A n ln f) (hm : n ≤ 1100000) (C : Int) (hC : ChIs n ln f C) :
    Calls Try.prog 47 #[.slice A n cap] w fun e w' => e = .returned (.int .i64 C) ∧ w' = w := by
  have HR := Lib.hid hr
  have HC := Lib.hid hC
  clear hr hC
  go_enter Try.func47, Try.ntmps47
  go_wp2
  go_loopg [3] n (fun g ix wr => ∃ k : Nat, k + g = n ∧ ix = .int .i64 k ∧ Hid (∀ i, i < k → ln i = n) ∧ wr = w)
  case atStart => exact ⟨0, by omega, rfl, Lib.hid (fun i h => absurd h (by omega)), rfl⟩
  case round =>
    obtain ⟨k, hkg, rfl, HY, rfl⟩ := hrel
    cases gk with
    | succ g =>
      have hkn : k < n := by omega
      have hkI : (k : Int) < (n : Int) := by omega
      obtain ⟨b, off, Ai, ci, rfl, hb, x0, _⟩ := tabRow HR.out hkn
      obtain ⟨len, hlen⟩ : ∃ len, ln k = len := ⟨_, rfl⟩
      have HLn := Lib.hid hlen
      rw [hlen] at x0
      have HKG := Lib.hid hkg
      clear hlen hkg
      by_cases he : len = n
      · have HY2 : Hid (∀ i, i < k + 1 → ln i = n) := Lib.hid (fun i hi => by
          by_cases e : i = k
          · rw [e, HLn.out]; exact he
          · exact HY.out i (by omega))
        subst he
        go_wp2
        go_roundg g
        case measure => omega
        case rel => exact ⟨k + 1, by have := HKG.out; omega, by go_num, HY2, rfl⟩
      · have HE : Hid (C = 1) := Lib.hid (ch1 HC.out (fun h => he (by rw [← HLn.out]; exact h k hkn)))
        have e1 : ((len : Int) == (n : Int)) = false := beq_eq_false_iff_ne.2 (by omega)
        have e3 : (len == n) = false := beq_eq_false_iff_ne.2 he
        clear he
        go_wp2
        go_ret
        exact ⟨by rw [HE.out]; rfl, rfl⟩
    | zero =>
      obtain rfl : k = n := by omega
      have HSq : Hid (sqP k ln) := Lib.hid HY.out
      clear hkg HY
      by_cases hn : 21 < k
      · have d1 : decide ((k : Int) > 21) = true := decide_eq_true (by omega)
        have d1' : decide ((21 : Int) < (k : Int)) = true := decide_eq_true (by omega)
        have d1n : decide (21 < k) = true := decide_eq_true hn
        have HE : Hid (C = 2) := Lib.hid (ch2 HC.out HSq.out (.inl hn))
        go_wp2
        go_ret
        exact ⟨by rw [HE.out]; rfl, rfl⟩
      · have d1 : decide ((k : Int) > 21) = false := decide_eq_false (by omega)
        have d1' : decide ((21 : Int) < (k : Int)) = false := decide_eq_false (by omega)
        have d1n : decide (21 < k) = false := decide_eq_false hn
        have hn21 : k ≤ 21 := by omega
        clear hn
        go_wp2
        go_loopg [4, 5, 6] k (fun g ix _ _ wx => ∃ i : Nat, i + g = k ∧ ix = .int .i64 i ∧ Hid (∀ t, t < i → ¬ badR k (f t)) ∧ wx = wr)
        case atStart => exact ⟨0, by omega, rfl, Lib.hid (fun i h => absurd h (by omega)), rfl⟩
        case round =>
          obtain ⟨i, hig, rfl, HB, rfl⟩ := hrel
          cases gk with
          | zero =>
            obtain rfl : i = k := by omega
            have HE : Hid (C = 0) := Lib.hid (ch0 HC.out HSq.out hn21 HB.out)
            clear hig
            go_wp2
            go_ret
            exact ⟨by rw [HE.out]; rfl, rfl⟩
          | succ g =>
            have hik : i < k := by omega
            have hiI : (i : Int) < (k : Int) := by omega
            obtain ⟨b, off, Ai, ci, rfl, hb, x0, hrow⟩ := tabRow HR.out hik
            rw [HSq.out i hik] at x0 hrow
            have HRow := Lib.hid hrow
            have HIG := Lib.hid hig
            clear hig hrow
            go_wp2_with fail
            go_loopg [5, 6] k (fun g s5 jx wx => ∃ (j : Nat) (S : Int), j + g = k ∧ jx = .int .i64 j ∧ s5 = .int .i64 S ∧ 0 ≤ S ∧ S ≤ 2 * (j : Int) ∧ Hid (S = sigN j (f i)) ∧ Hid (∀ t, t < j → 0 ≤ f i t ∧ f i t ≤ 2) ∧ wx = wr)
            case atStart => exact ⟨0, 0, by omega, rfl, rfl, by omega, by omega, Lib.hid rfl, Lib.hid (fun t h => absurd h (by omega)), rfl⟩
            case round =>
              obtain ⟨j, S, hjg, rfl, rfl, hS0, hS1, HS, HBd, rfl⟩ := hrel
              cases gk with
              | zero =>
                obtain rfl : j = k := by omega
                clear hjg
                by_cases h2 : S > 2
                · have d2 : decide (S > 2) = true := decide_eq_true h2
                  have d2' : decide (2 < S) = true := decide_eq_true h2
                  have HE : Hid (C = 2) := Lib.hid (ch2 HC.out HSq.out (.inr ⟨i, hik, .inr (by rw [← HS.out]; exact h2)⟩))
                  go_wp2
                  go_ret
                  exact ⟨by rw [HE.out]; rfl, rfl⟩
                · have d2 : decide (S > 2) = false := decide_eq_false h2
                  have d2' : decide (2 < S) = false := decide_eq_false h2
                  have HB2 : Hid (∀ t, t < i + 1 → ¬ badR j (f t)) := Lib.hid (fun t ht => by
                    by_cases e : t = i
                    · rw [e]
                      rintro (⟨q, hq, h⟩ | h)
                      · have := HBd.out q hq; omega
                      · have := HS.out; omega
                    · exact HB.out t (by omega))
                  go_wp2
                  go_roundg g
                  case measure => omega
                  case rel => exact ⟨i + 1, by have := HIG.out; omega, by go_num, HB2, rfl⟩
              | succ gj =>
                have hjk : j < k := by omega
                have hjI : (j : Int) < (k : Int) := by omega
                obtain ⟨b2, off2, rfl, hb2, hc⟩ := HRow.out (by omega)
                have x1 := hc j hjk
                obtain ⟨v, hv⟩ : ∃ v, f i j = v := ⟨_, rfl⟩
                have HV := Lib.hid hv
                rw [hv] at x1
                have HIn := Lib.hid (specIn8 v 0 2 wr)
                have HJG := Lib.hid hjg
                clear hc hv hjg
                by_cases hin : 0 ≤ v ∧ v ≤ 2
                · have e2 : (decide (0 ≤ v) && decide (v ≤ 2)) = true := by simp [hin]
                  rw [e2] at HIn
                  have hws : IntKind.i64.wrap (S + v) = S + v := IntWalk.i64_in _ (by omega)
                  have HS2 : Hid (S + v = sigN (j + 1) (f i)) := Lib.hid (by rw [HS.out, ← HV.out]; rfl)
                  have HBd2 : Hid (∀ t, t < j + 1 → 0 ≤ f i t ∧ f i t ≤ 2) := Lib.hid (fun t ht => by
                    by_cases e : t = j
                    · rw [e, HV.out]; exact hin
                    · exact HBd.out t (by omega))
                  clear e2
                  go_wp2_with fail
                  refine HIn.out.mono ?_
                  rintro e w1 ⟨rfl, rfl⟩
                  go_wp2
                  go_roundg gj
                  case measure => omega
                  case rel => exact ⟨j + 1, S + v, by have := HJG.out; omega, by go_num, by go_num, by omega, by omega, HS2, HBd2, rfl⟩
                · have e2 : (decide (0 ≤ v) && decide (v ≤ 2)) = false := by
                    by_cases h : 0 ≤ v
                    · have : ¬ v ≤ 2 := fun x => hin ⟨h, x⟩
                      simp [this]
                    · simp [h]
                  rw [e2] at HIn
                  have HE : Hid (C = 2) := Lib.hid (ch2 HC.out HSq.out (.inr ⟨i, hik, .inl ⟨j, hjk, by rw [HV.out]; omega⟩⟩))
                  clear e2 hin
                  go_wp2_with fail
                  refine HIn.out.mono ?_
                  rintro e w1 ⟨rfl, rfl⟩
                  go_wp2
                  go_ret
                  exact ⟨by rw [HE.out]; rfl, rfl⟩

set_option maxRecDepth 8000 in
set_option maxHeartbeats 2000000 in
theorem specCO (A : Option Addr) (n cap : Nat) (ln : Nat → Nat) (f : Tab) (w : World) (hr : TabRd w w.heap.size A n ln f) (hm : n ≤ 1100000) (C : Int) (hC : ChIs n ln f C) :
    Calls Try.prog 23 #[.slice A n cap] w (ResInt w (chL n f C) C) := by
  have HCo := Lib.hid (specCode8 A n cap ln f w hr hm C hC)
  by_cases h0 : C = 0
  · subst h0
    rcases hC with ⟨_, h⟩ | ⟨_, _, h⟩ | ⟨h1, h2, h3, _⟩
    · omega
    · omega
    · have hr2 : TabRd w w.heap.size A n (fun _ => n) f := fun h0 => by
        obtain ⟨g, off, e, hg, hc⟩ := hr h0
        exact ⟨g, off, e, hg, fun i hi => by have := hc i hi; rw [h1 i hi] at this; exact this⟩
      have HCh := Lib.hid (specCha A n cap f w hr2 h2)
      have e1 : chL n f 0 = rngL (n + 1) (chF n (fun i => trF n (powF n f i)) n) := rfl
      rw [e1]
      generalize chF n (fun i => trF n (powF n f i)) n = q at *
      clear hr h1 h3 hr2 e1
      go_enter Try.func23, Try.ntmps23
      go_wp2_with fail
      refine HCo.out.mono ?_
      rintro e w1 ⟨rfl, rfl⟩
      go_wp2_with fail
      refine HCh.out.mono ?_
      rintro e w3 ⟨Y, rfl, hY, hb3⟩
      have HY := Lib.hid hY.out.int
      clear hY
      go_wp2
      go_ret2
      exact ⟨Y, n + 1, by rw [rngL_len]; rfl, HY.out, hb3⟩
  · have e1 : chL n f C = [] := if_neg h0
    rw [e1]
    have h0' : (C == 0) = false := beq_eq_false_iff_ne.2 h0
    clear h0 e1 hC hr
    go_enter Try.func23, Try.ntmps23
    go_wp2_with fail
    refine HCo.out.mono ?_
    rintro e w1 ⟨rfl, rfl⟩
    go_wp2
    go_ret2
    exact ⟨none, 0, rfl, ownI_nil, Below.refl _ _⟩

/-- The first k rows have been copied; the outer block is G. -/
structure FillT (w : World) (G n : Nat) (ln : Nat → Nat) (f : Tab) (k : Nat) (bb : Nat → Nat) (W : World) : Prop where
  B : Below w.heap.size w W
  lo : w.heap.size ≤ G
  z : G < W.heap.size
  head : ∀ i, i < k → W.cell? ⟨G, i, none⟩ = some (.slice (some ⟨bb i, 0, none⟩) (ln i) (ln i))
  row : ∀ i, i < k → 0 < ln i → G < bb i ∧ bb i < W.heap.size
  cell : ∀ i j, i < k → j < ln i → W.cell? ⟨bb i, j, none⟩ = some (.int .i64 (f i j)) ∧ W.frozen? ⟨bb i, j, none⟩ = false
  apart : ∀ i j, i < k → j < k → i ≠ j → 0 < ln i → 0 < ln j → bb i ≠ bb j
  there : ∀ o, o < n → ∃ v, W.cell? ⟨G, o, none⟩ = some v
  free : ∀ o, W.frozen? ⟨G, o, none⟩ = false
theorem FillT.on {w W W1 : World} {G n k : Nat} {ln : Nat → Nat} {f : Tab} {bb : Nat → Nat} (H : FillT w G n ln f k bb W) (hb : Below W.heap.size W W1) : FillT w G n ln f k bb W1 :=
  ⟨belowNext H.B hb, H.lo, Nat.lt_of_lt_of_le H.z hb.size, fun i hi => cellThru hb H.z (H.head i hi), fun i hi h0 => ⟨(H.row i hi h0).1, Nat.lt_of_lt_of_le (H.row i hi h0).2 hb.size⟩,
    fun i j hi hj => ⟨cellThru hb (H.row i hi (by omega)).2 (H.cell i j hi hj).1, frozThru hb (H.row i hi (by omega)).2 (H.cell i j hi hj).2⟩, H.apart, fun o ho => (H.there o ho).imp fun _ hv => cellThru hb H.z hv, fun o => frozThru hb H.z (H.free o)⟩
theorem FillT.put {w wr W : World} {G n k R : Nat} {ln : Nat → Nat} {f : Tab} {bb : Nat → Nat} (H : FillT w G n ln f k bb wr) (hk : k < n) (hL : LdS wr R (ln k) (f k) W) :
    FillT w G n ln f (k + 1) (fun i => if i = k then R else bb i) (W.setCell ⟨G, k, none⟩ (.slice (some ⟨R, 0, none⟩) (ln k) (ln k))) := by
  have H2 := H.on hL.B
  have hR := hL.R0
  have hGR : G < R := by rw [hR]; exact H.z
  obtain ⟨u, hu⟩ := H2.there k hk
  refine ⟨H2.B.setCell H2.lo _, H2.lo, by simpa using H2.z, fun i hi => ?_, fun i hi h0 => ?_, fun i j hi hj => ?_, fun i j hi hj hne h0 h1 => ?_, fun o ho => ?_, fun o => by simpa using H2.free o⟩
  · by_cases e : i = k
    · rw [if_pos e, e]; exact World.cell?_setCell_same _ _ _ hu
    · rw [if_neg e, World.cell?_setCell_other _ _ _ _ (by intro e2; injection e2; omega)]
      exact H2.head i (by omega)
  · by_cases e : i = k
    · rw [if_pos e]; rw [e] at h0; exact ⟨hGR, by simpa using hL.z h0⟩
    · rw [if_neg e]; simpa using H2.row i (by omega) h0
  · by_cases e : i = k
    · rw [if_pos e]
      rw [e] at hj ⊢
      obtain ⟨h1, h2⟩ := hL.cell j hj
      exact ⟨by rw [World.cell?_setCell_other _ _ _ _ (by intro e2; injection e2; omega)]; exact h1, by simpa using h2⟩
    · rw [if_neg e]
      obtain ⟨h1, h2⟩ := H2.cell i j (by omega) hj
      have h3 := (H2.row i (by omega) (by omega)).1
      exact ⟨by rw [World.cell?_setCell_other _ _ _ _ (by intro e2; injection e2; omega)]; exact h1, by simpa using h2⟩
  · by_cases e : i = k
    · rw [if_pos e, if_neg (by omega)]
      have := (H.row j (by omega) h1).2
      rw [hR]; omega
    · rw [if_neg e]
      by_cases e2 : j = k
      · rw [if_pos e2]
        have := (H.row i (by omega) h0).2
        rw [hR]; omega
      · rw [if_neg e2]; exact H.apart i j (by omega) (by omega) hne h0 h1
  · by_cases e : o = k
    · rw [e]; exact ⟨_, World.cell?_setCell_same _ _ _ hu⟩
    · obtain ⟨v, hv⟩ := H2.there o ho
      exact ⟨v, by rw [World.cell?_setCell_other _ _ _ _ (by intro e2; injection e2; omega)]; exact hv⟩
theorem FillT.tab {w W : World} {G n : Nat} {ln : Nat → Nat} {f : Tab} {bb : Nat → Nat} (H : FillT w G n ln f n bb W) : TabOwn W w.heap.size (some ⟨G, 0, none⟩) n ln f := fun _ =>
  ⟨G, 0, bb, fun _ => 0, rfl, H.lo, H.z, fun i hi => ⟨_, _, by rw [Nat.zero_add]; exact H.head i hi, fun _ => rfl⟩, fun i hi h0 => ⟨by have := (H.row i hi h0).1; have := H.lo; omega, (H.row i hi h0).2, by have := (H.row i hi h0).1; omega⟩, fun i j hi hj => by rw [Nat.zero_add]; exact H.cell i j hi hj, fun i k j m hi hk hne hj hm he => absurd he (H.apart i k hi hk hne (by omega) (by omega))⟩

set_option maxRecDepth 8000 in
set_option maxHeartbeats 2000000 in
theorem toTab8 (A : Option Addr) (n cap : Nat) (ln : Nat → Nat) (f : Tab) (w : World) (hr : TabRd w w.heap.size A n ln f) (hm : n + totN ln n ≤ 1048576) :
    Calls Try.prog 24 #[.slice A n cap] w fun e w' => e = .returned (.slice (some ⟨w.heap.size, 0, none⟩) n n) ∧ Hid (TabOwn w' w.heap.size (some ⟨w.heap.size, 0, none⟩) n ln f) ∧ Below w.heap.size w w' := by
  obtain ⟨i0, hi, hz0, hz1, hz2⟩ := infoS8_parts
  have HR := Lib.hid hr
  have HTm := Lib.hid hm
  have hm' : n ≤ 1048576 := by omega
  clear hr hm
  obtain ⟨G, hG⟩ : ∃ G, w.heap.size = G := ⟨_, rfl⟩
  have HGe := Lib.hid hG
  go_enter Try.func24, Try.ntmps24
  go_wp2_with (at_make; refine wpList_make_full _ rfl _ _ 24 rfl w.heap.size 32 i0 (.slice none 0 0) 1 Try.underlying24 hi hz0 hz1 .i64 .i64 _ _ n rfl rfl rfl rfl (by rw [hz2]; omega) (by unfold maxLen; omega) (by omega) ?_; intro w2 hown2 hgrow2)
  have HS : Hid (∃ bb, FillT w G n ln f 0 bb w2) := Lib.hid ⟨fun _ => 0, by
    rw [← hG]
    exact ⟨belowGrown8 hgrow2, Nat.le_refl _, (World.ownsRow.lt hown2 _ rfl).2, fun i h => absurd h (by omega), fun i h => absurd h (by omega), fun i j h => absurd h (by omega), fun i j h => absurd h (by omega), fun o ho => ⟨_, (hown2.cellAt o (by omega)).trans (List.getElem?_eq_getElem (by have := hown2.1; omega))⟩, fun o => hown2.frozenAt o⟩⟩
  try rw [hG]
  clear hown2 hgrow2 hG
  go_wp2_with fail
  go_loopg [4] n (fun g ix wr => ∃ k : Nat, k + g = n ∧ ix = .int .i64 k ∧ Hid (∃ bb, FillT w G n ln f k bb wr))
  case atStart => exact ⟨0, by omega, rfl, HS⟩
  case round =>
    clear HS
    obtain ⟨k, hkg, rfl, H⟩ := hrel
    cases gk with
    | zero =>
      obtain rfl : k = n := by omega
      obtain ⟨bb, hF⟩ := H.out
      have HQ := Lib.hid hF.tab
      have B2 := hF.B
      clear hkg hF H
      go_wp2
      go_ret
      exact ⟨by rw [HGe.out]; rfl, by have h := HQ; rw [HGe.out] at h ⊢; exact h, B2⟩
    | succ g =>
      have hkn : k < n := by omega
      obtain ⟨bb, hF⟩ := H.out
      obtain ⟨b, off, Ai, ci, rfl, hbb, x0, hrow⟩ := tabRow HR.out hkn
      have x0 := cellThru hF.B hbb x0
      have hbw : b < wr.heap.size := Nat.lt_of_lt_of_le hbb hF.B.size
      have hle := totN_row ln hkn
      have hTm := HTm.out
      have HTo := Lib.hid (toRow8 Ai (ln k) ci (f k) wr ((hrow.below hF.B).more hF.B.size) (by omega))
      have HF := Lib.hid hF
      obtain ⟨len, hlen⟩ : ∃ len, ln k = len := ⟨_, rfl⟩
      have HLn := Lib.hid hlen
      rw [hlen] at x0 HTo
      have HKG := Lib.hid hkg
      obtain ⟨R, hR⟩ : ∃ R, wr.heap.size = R := ⟨_, rfl⟩
      rw [hR] at HTo
      clear hrow hlen hle hTm hkg hF hR
      go_wp2_with fail
      refine HTo.out.mono ?_
      rintro e w3 ⟨rfl, h3⟩
      have HL3 : Hid (LdS wr R (ln k) (f k) w3) := Lib.hid (by rw [HLn.out]; exact h3.out)
      have HP : Hid (∃ bb, FillT w G n ln f (k + 1) bb (w3.setCell ⟨G, k, none⟩ (.slice (some ⟨R, 0, none⟩) len len))) := Lib.hid ⟨_, by have := HF.out.put hkn HL3.out; rw [HLn.out] at this; exact this⟩
      have H3 := HF.out.on HL3.out.B
      obtain ⟨u0, y0⟩ := H3.there k hkn
      have f0 := H3.free k
      have hz3 := H3.z
      clear H3 h3 HTo x0 HF H HL3
      go_wp2
      go_roundg g
      case measure => omega
      case rel => exact ⟨k + 1, by have := HKG.out; omega, by go_num, HP⟩

set_option maxHeartbeats 1000000 in
theorem markTab3 (A : Option Addr) (n cap : Nat) (ln : Nat → Nat) (f : Tab) (lo : Nat) (w : World) (g off : Nat) (bb oo : Nat → Nat) (hr : 0 < n → A = some ⟨g, off, none⟩ ∧ TabAt w lo g off bb oo n ln f) (L : Nat) (hL : ∀ i, i < n → 0 < ln i → bb i < L) (hm : n ≤ 1100000) (ht : totN ln n ≤ 1100000) :
    Calls Try.prog 16 #[.slice A n cap, .int .i64 1] w fun e w' => e = .returned (.int .i64 (1 + (totN ln n : Int))) ∧ Hid (TabOwn w' lo A n ln (mkN ln) ∧ Below lo w w' ∧ ((∀ p : Addr, L ≤ p.block → w'.cell? p = w.cell? p ∧ w'.frozen? p = w.frozen? p) ∧ w'.heap.size = w.heap.size)) := by
  rcases Nat.eq_zero_or_pos n with h0 | h0
  · subst h0
    clear hr
    go_enter Try.func16, Try.ntmps16
    go_wp2
    go_loopw [1, 5] (fun q i wr => i = .int .i64 0 ∧ q = .int .i64 1 ∧ wr = w) (fun _ i _ => 0)
    case atStart => exact ⟨rfl, rfl, rfl⟩
    case round =>
      obtain ⟨rfl, rfl, rfl⟩ := hrel
      go_wp2
      go_ret
      exact ⟨by simp [totN], Lib.hid ⟨tabOwn_nil, Below.refl _ _, fun _ _ => ⟨rfl, rfl⟩, rfl⟩⟩
  · obtain ⟨rfl, hT⟩ := hr h0
    have HL := Lib.hid hL
    clear hL
    have HT := Lib.hid hT
    have HM := Lib.hid ht
    clear hT hr ht
    go_enter Try.func16, Try.ntmps16
    go_wp2
    go_loopg [1, 5] n (fun gk s1 ix wr => ∃ k : Nat, k + gk = n ∧ ix = .int .i64 k ∧ s1 = .int .i64 (1 + (totN ln k : Int)) ∧ Hid (TabAt wr lo g off bb oo n ln (fun i j => if i < k then mkN ln i j else f i j) ∧ Below lo w wr ∧ ((∀ p : Addr, L ≤ p.block → wr.cell? p = w.cell? p ∧ wr.frozen? p = w.frozen? p) ∧ wr.heap.size = w.heap.size)))
    case atStart => exact ⟨0, by omega, rfl, by simp [totN], Lib.hid ⟨HT.out.congr fun i j _ _ => by rw [if_neg (by omega)], Below.refl _ _, fun _ _ => ⟨rfl, rfl⟩, rfl⟩⟩
    case round =>
      obtain ⟨k, hkg, rfl, rfl, H⟩ := hrel
      cases gk with
      | zero =>
        obtain rfl : k = n := by omega
        clear hkg
        have HQ : Hid (TabOwn wr lo (some ⟨g, off, none⟩) k ln (mkN ln) ∧ Below lo w wr ∧ ((∀ p : Addr, L ≤ p.block → wr.cell? p = w.cell? p ∧ wr.frozen? p = w.frozen? p) ∧ wr.heap.size = w.heap.size)) := Lib.hid ⟨fun _ => ⟨g, off, bb, oo, rfl, H.out.1.congr fun i j hi _ => by rw [if_pos hi]⟩, H.out.2⟩
        clear H
        go_wp2
        go_ret
        exact ⟨rfl, HQ⟩
      | succ gk =>
        have hkn : k < n := by omega
        obtain ⟨Ai, ci, x0, hA⟩ := H.out.1.head k hkn
        have htk := Nat.le_trans (totN_row ln hkn) HM.out
        have HMk := Lib.hid (markRow Ai (bb k) (oo k) (ln k) ci (f k) lo (1 + (totN ln k : Int)) wr
          (fun h0 => ⟨hA h0, (H.out.1.row k hkn h0).1, (H.out.1.row k hkn h0).2.1, fun j hj => by have := H.out.1.cell k j hkn hj; rwa [if_neg (Nat.lt_irrefl k)] at this⟩) (by omega) (by omega) (by omega))
        obtain ⟨len, hlen⟩ : ∃ len, ln k = len := ⟨_, rfl⟩
        have HLn := Lib.hid hlen
        rw [hlen] at x0 HMk htk
        obtain ⟨T, hT⟩ : ∃ T, totN ln k = T := ⟨_, rfl⟩
        have HTk := Lib.hid hT
        rw [hT] at HMk htk ⊢
        have HKG := Lib.hid hkg
        clear hA hlen hT hkg
        go_wp2_with fail
        refine HMk.out.mono ?_
        rintro e w3 ⟨rfl, H3⟩
        have H4 : Hid (TabAt w3 lo g off bb oo n ln (fun i j => if i < k + 1 then mkN ln i j else f i j) ∧ Below lo w w3 ∧ ((∀ p : Addr, L ≤ p.block → w3.cell? p = w.cell? p ∧ w3.frozen? p = w.frozen? p) ∧ w3.heap.size = w.heap.size)) := by
          refine Lib.hid ⟨?_, H.out.2.1.trans H3.out.1, fun p hp => ⟨(H3.out.2.1.cell p (fun ⟨e1, e2, e3⟩ => by
            have hlk := HLn.out
            have := HL.out k hkn (by omega)
            omega)).trans (H.out.2.2.1 p hp).1, (H3.out.2.1.frz p).trans (H.out.2.2.1 p hp).2⟩, by rw [H3.out.2.1.size]; exact H.out.2.2.2⟩
          rcases Nat.eq_zero_or_pos len with hz | hz
          · have e := H3.out.2.1
            rw [hz] at e
            refine TabAt.congr (f := fun i j => if i < k then mkN ln i j else f i j) ⟨H.out.1.glo, by rw [e.size]; exact H.out.1.gz, fun i hi => ?_, fun i hi h0 => by rw [e.size]; exact H.out.1.row i hi h0, fun i j hi hj => ?_, H.out.1.apart⟩ fun i j hi hj => ?_
            · obtain ⟨Ai, ci, h1, h2⟩ := H.out.1.head i hi
              exact ⟨Ai, ci, (e.cell _ (by omega)).trans h1, h2⟩
            · obtain ⟨h1, h2⟩ := H.out.1.cell i j hi hj
              exact ⟨(e.cell _ (by omega)).trans h1, (e.frz _).trans h2⟩
            · by_cases e : i = k
              · subst e; have := HLn.out; omega
              · by_cases e2 : i < k
                · rw [if_pos e2, if_pos (by omega)]
                · rw [if_neg e2, if_neg (by omega)]
          · have hl := HLn.out
            refine (H.out.1.turn (v := fun j => 1 + (T : Int) + (j : Int)) hkn (by omega) (by rw [hl]; exact H3.out.2.1) (by rw [hl]; exact H3.out.2.2)).congr fun i j hi hj => ?_
            by_cases e : i = k
            · subst e; rw [if_pos rfl, if_pos (by omega)]; unfold mkN; rw [HTk.out]
            · rw [if_neg e]
              by_cases e2 : i < k
              · rw [if_pos e2, if_pos (by omega)]
              · rw [if_neg e2, if_neg (by omega)]
        have HE : Hid ((1 : Int) + (T : Int) + (len : Int) = 1 + (totN ln (k + 1) : Int)) := Lib.hid (by simp only [totN]; rw [HTk.out, HLn.out]; omega)
        clear H H3 x0 HMk
        go_wp2
        go_roundg gk
        case measure => omega
        case rel => exact ⟨k + 1, by have := HKG.out; omega, by go_num, by rw [HE.out], H4⟩


theorem IntOwn.far {w w' : World} {lo L : Nat} {A : Option Addr} {l : List Int} (h : IntOwn w lo A l) (hl : L ≤ lo) (hc : ∀ p : Addr, L ≤ p.block → w'.cell? p = w.cell? p ∧ w'.frozen? p = w.frozen? p) (hs : w'.heap.size = w.heap.size) : IntOwn w' lo A l := by
  intro hne
  obtain ⟨b, off, e, h1, h2, h3⟩ := h hne
  refine ⟨b, off, e, h1, by rw [hs]; exact h2, fun i n hi => ?_⟩
  obtain ⟨a1, a2⟩ := h3 i n hi
  obtain ⟨c1, c2⟩ := hc ⟨b, off + i, none⟩ (by show L ≤ b; omega)
  exact ⟨c1.trans a1, c2.trans a2⟩
theorem tabAt_ex {W : World} {lo : Nat} {A : Option Addr} {n : Nat} {ln : Nat → Nat} {f : Tab} (h : TabOwn W lo A n ln f) : ∃ g off bb oo, (0 < n → A = some ⟨g, off, none⟩ ∧ TabAt W lo g off bb oo n ln f) ∧ ∀ i, i < n → 0 < ln i → bb i < W.heap.size := by
  obtain ⟨g, off, bb, oo, H⟩ := tab_ex h
  exact ⟨g, off, bb, oo, H, fun i hi h0 => ((H (by omega)).2.row i hi h0).2.1⟩

set_option maxRecDepth 8000 in
set_option maxHeartbeats 8000000 in
theorem lawCharacteristicOf (A : Option Addr) (n cap : Nat) (l : (Nat → Nat) × Tab) (w : World) (hr : TabRd w w.heap.size A n l.1 l.2 ∧ ∀ i, i < n → l.1 i ≤ 9223372036854775807) (_ : True) (hm : n ≤ 9223372036854775807) :
    Calls Try.prog 6 #[.slice A n cap] w fun e w' => e = .returned (.bool true) ∧ Below w.heap.size w w' := by
  obtain ⟨ln, f⟩ := l
  simp only at hr
  by_cases hbig : 1048576 < n + totN ln n
  · have HS := Lib.hid (szTab A n cap ln f w hr hm (-1) (.inl ⟨hbig, rfl⟩))
    clear hr hbig
    go_enter Try.func6, Try.ntmps6
    go_wp2_with fail
    refine HS.out.mono ?_
    rintro e w1 ⟨rfl, rfl⟩
    go_wp2
    go_ret
    exact ⟨rfl, Below.refl _ _⟩
  · have hsm : n + totN ln n ≤ 1048576 := by omega
    have HS := Lib.hid (szTab A n cap ln f w hr hm ((1048576 : Int) - (n : Int) - (totN ln n : Int)) (.inr ⟨hsm, rfl⟩))
    have hneg : ((1048576 : Int) - (n : Int) - (totN ln n : Int) < 0) = False := by simp; omega
    obtain ⟨left, hleft⟩ : ∃ left, (1048576 : Int) - (n : Int) - (totN ln n : Int) = left := ⟨_, rfl⟩
    rw [hleft] at HS hneg
    obtain ⟨C, hC⟩ := ch_ex n ln f
    have hlen := chL_len hC
    have HT := Lib.hid (fun W (hB : Below w.heap.size w W) => toTab8 A n cap ln f W ((hr.1.below hB).more hB.size) hsm)
    have HSp := Lib.hid (fun A cap W (ht : TabRd W W.heap.size A n ln f) => specCO A n cap ln f W ht (by omega) C hC)
    have HIm := Lib.hid (fun A cap W (ht : TabRd W W.heap.size A n ln f) => implCO A n cap ln f W ht (by omega) C hC)
    generalize chL n f C = q at *
    obtain ⟨len, hl⟩ : ∃ len, q.length = len := ⟨_, rfl⟩
    rw [hl] at hlen
    have HL := Lib.hid hl
    have hn11 : n ≤ 1100000 := by omega
    have ht11 : totN ln n ≤ 1100000 := by omega
    have HT11 := Lib.hid ht11
    obtain ⟨T, hTe⟩ : ∃ T, totN ln n = T := ⟨_, rfl⟩
    have HTe := Lib.hid hTe
    rw [hTe] at ht11
    clear hr hbig hm hl hleft hsm hTe hC
    go_enter Try.func6, Try.ntmps6
    go_wp2_with fail
    refine HS.out.mono ?_
    rintro e w1 ⟨rfl, rfl⟩
    go_wp2_with fail
    refine (HT.out _ (Below.refl _ _)).mono ?_
    rintro e w2 ⟨rfl, T2, hb2⟩
    go_wp2_with fail
    refine (HSp.out _ n _ T2.out.rd).mono ?_
    rintro e w3 ⟨A0, cap0, rfl, h0, hb3⟩
    rw [HL.out]
    have B3 := belowNext hb2 hb3
    have R3 := Lib.hid h0.row
    clear T2 hb2 hb3 h0 HSp
    go_wp2_with fail
    refine (HT.out _ B3).mono ?_
    rintro e w4 ⟨rfl, T4, hb4⟩
    have B4 := belowNext B3 hb4
    have R4 := Lib.hid (R3.out.below hb4)
    have L4 := Lib.hid hb4.size
    obtain ⟨g, off, bb, oo, hAt, hLb⟩ := tabAt_ex T4.out
    have HAt := Lib.hid hAt
    have HLb := Lib.hid hLb
    clear hb4 hAt hLb
    go_wp2_with fail
    refine (HIm.out _ n _ T4.out.rd).mono ?_
    rintro e w5 ⟨A1, cap1, rfl, h1, hb5⟩
    rw [HL.out]
    have B5 := belowNext B4 hb5
    have R5 := Lib.hid (R4.out.below (hb5.mono L4.out))
    have Q5 := Lib.hid h1
    have T5 := Lib.hid (T4.out.next hb5)
    have At5 : Hid (0 < n → some (⟨w3.heap.size, 0, none⟩ : Addr) = some ⟨g, off, none⟩ ∧ TabAt w5 w3.heap.size g off bb oo n ln f) := Lib.hid (fun h => ⟨(HAt.out h).1, (HAt.out h).2.next hb5⟩)
    have s5 := hb5.size
    have S5 := Lib.hid s5
    clear h1 hb5 T4 HAt
    go_wp2_with fail
    refine (eqIntS _ _ _ _ _ q _ Q5.out.row (R5.out.more (Nat.le_trans L4.out s5)) HL.out (by omega)).mono ?_
    rintro e w6 ⟨rfl, hb6⟩
    have hb6 := belowDrewH hb6
    have B6 := belowNext B5 hb6
    have R6 := Lib.hid (R5.out.below (hb6.mono (Nat.le_trans L4.out s5)))
    have Q6 := Lib.hid (Q5.out.next hb6)
    have T6 := Lib.hid (T5.out.next hb6)
    have At6 : Hid (0 < n → some (⟨w3.heap.size, 0, none⟩ : Addr) = some ⟨g, off, none⟩ ∧ TabAt w6 w3.heap.size g off bb oo n ln f) := Lib.hid (fun h => ⟨(At5.out h).1, (At5.out h).2.next hb6⟩)
    have S6 := Lib.hid (Nat.le_trans S5.out hb6.size)
    clear hb6 R5 Q5 T5 At5 s5 S5 B5
    go_wp2_with fail
    refine (HT.out _ B6).mono ?_
    rintro e w7 ⟨rfl, T7, hb7⟩
    have B7 := belowNext B6 hb7
    have R7 := Lib.hid (R6.out.below (hb7.mono (Nat.le_trans L4.out S6.out)))
    have Q7 := Lib.hid (Q6.out.next hb7)
    have X7 := Lib.hid (T6.out.next hb7)
    have At7 : Hid (0 < n → some (⟨w3.heap.size, 0, none⟩ : Addr) = some ⟨g, off, none⟩ ∧ TabAt w7 w3.heap.size g off bb oo n ln f) := Lib.hid (fun h => ⟨(At6.out h).1, (At6.out h).2.next hb7⟩)
    have S7 := Lib.hid (Nat.le_trans S6.out hb7.size)
    clear hb7 R6 Q6 T6 At6 S6 B6
    go_wp2_with fail
    refine (eqTab2 _ _ _ _ _ ln f _ X7.out.rd T7.out.rd hn11 HT11.out).mono ?_
    rintro e w8 ⟨rfl, hb8⟩
    have B8 := belowNext B7 hb8
    have R8 := Lib.hid (R7.out.below (hb8.mono (Nat.le_trans L4.out S7.out)))
    have Q8 := Lib.hid (Q7.out.next hb8)
    have At8 : Hid (0 < n → some (⟨w3.heap.size, 0, none⟩ : Addr) = some ⟨g, off, none⟩ ∧ TabAt w8 w3.heap.size g off bb oo n ln f) := Lib.hid (fun h => ⟨(At7.out h).1, (At7.out h).2.next hb8⟩)
    have S8 := Lib.hid (Nat.le_trans S7.out hb8.size)
    clear hb8 R7 Q7 X7 T7 At7 S7 B7
    go_wp2_with fail
    refine (markTab3 (some ⟨w3.heap.size, 0, none⟩) n n ln f w3.heap.size w8 g off bb oo At8.out w4.heap.size HLb.out hn11 HT11.out).mono ?_
    rintro e w9 ⟨rfl, H9⟩
    rw [HTe.out]
    have B9 : Below w.heap.size w w9 := B8.trans (H9.out.2.1.mono B3.size)
    have R9 := Lib.hid (R8.out.below H9.out.2.1)
    have Q9 := Lib.hid (Q8.out.far (L := w4.heap.size) (Nat.le_refl _) H9.out.2.2.1 H9.out.2.2.2)
    have S9 : Hid (w4.heap.size ≤ w9.heap.size) := Lib.hid (by rw [H9.out.2.2.2]; exact S8.out)
    have nnT : (1 + (T : Int) < 0) = False := by simp; omega
    clear H9 R8 Q8 At8 S8 B8 HLb
    go_wp2_with fail
    refine (eqIntS _ _ _ _ _ q _ Q9.out.row (R9.out.more (Nat.le_trans L4.out S9.out)) HL.out (by omega)).mono ?_
    rintro e w10 ⟨rfl, hb10⟩
    have hb10 := belowDrewH hb10
    have B10 := belowNext B9 hb10
    have R10 := Lib.hid (R9.out.below (hb10.mono (Nat.le_trans L4.out S9.out)))
    have Q10 := Lib.hid (Q9.out.next hb10)
    have S10 := Lib.hid (Nat.le_trans S9.out hb10.size)
    clear hb10 R9 Q9 S9 B9
    go_wp2_with fail
    refine (markInt _ _ _ q _ _ _ Q10.out HL.out (by omega) (by omega) hlen).mono ?_
    rintro e w11 ⟨rfl, H11⟩
    have B11 : Below w.heap.size w w11 := B10.trans (H11.out.2.mono B4.size)
    have R11 := Lib.hid (R10.out.below (H11.out.2.mono L4.out))
    have Q11 := Lib.hid H11.out.1
    have S11 := Lib.hid (Nat.le_trans S10.out H11.out.2.size)
    have nn : (1 + (len : Int) < 0) = False := by simp; omega
    clear H11 R10 Q10 S10 B10
    go_wp2_with fail
    refine (heldInt _ _ _ _ _ Q11.out.row (by omega) (by omega) hlen).mono ?_
    rintro e w12 ⟨rfl, rfl⟩
    go_wp2_with fail
    refine (HT.out _ B11).mono ?_
    rintro e w13 ⟨rfl, T13, hb13⟩
    have B13 := belowNext B11 hb13
    have R13 := Lib.hid (R11.out.below (hb13.mono (Nat.le_trans L4.out S11.out)))
    have Q13 := Lib.hid (Q11.out.next hb13)
    have S13 := Lib.hid (Nat.le_trans S11.out hb13.size)
    clear hb13 R11 Q11 S11 B11
    go_wp2_with fail
    refine (HIm.out _ n _ T13.out.rd).mono ?_
    rintro e w14 ⟨A3, cap3, rfl, h3, hb14⟩
    rw [HL.out]
    have B14 := belowNext B13 hb14
    have R14 := Lib.hid (R13.out.below (hb14.mono (Nat.le_trans L4.out S13.out)))
    have Q14 := Lib.hid (Q13.out.next hb14)
    have P14 := Lib.hid h3.row
    have S14 := Lib.hid (Nat.le_trans S13.out hb14.size)
    clear hb14 h3 T13 R13 Q13 S13 B13
    go_wp2_with fail
    refine (eqIntS _ _ _ _ _ q _ P14.out (R14.out.more (Nat.le_trans L4.out S14.out)) HL.out (by omega)).mono ?_
    rintro e w15 ⟨rfl, hb15⟩
    have hb15 := belowDrewH hb15
    have B15 := belowNext B14 hb15
    have Q15 := Lib.hid (Q14.out.next hb15)
    clear hb15 R14 Q14 P14 S14 B14
    go_wp2_with fail
    refine (heldInt _ _ _ _ _ Q15.out.row (by omega) (by omega) hlen).mono ?_
    rintro e w16 ⟨rfl, rfl⟩
    go_wp2
    go_ret
    exact ⟨rfl, B15⟩
end Go.Proofs.Ytjomgbjiognmmaa

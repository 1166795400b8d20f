/-
  A list of integers handed to the program: opened, copied; the walk of the law of SequenceOfAddress.
-/
import Derived.Test.YtfakkibacepdeaaA6
import Derived.ChangeSlices
import Derived.WalkKit
import Derived.ProofKit
import Derived.OpenShut
import Derived.Lib.SmallJoins
import Derived.ChangeOld
import Derived.Deep.Slices
import Derived.OwnWalk
namespace Go.Proofs.Ytfakkibacepdeaa
open Go.ChangeShapes Go.WideShapes Go.ChangeAt Go.RowKit Go.Joins Go.Deep

theorem laidOutAllI : laidOutB Try.prog = true := by kernel_rfl
theorem cellsI : Try.prog.cellsOf 2 = 1 := by kernel_rfl
theorem cell_inI {w : World} {p : Addr} {v : Value} (h : w.cell? p = some v) : p.block < w.heap.size := by
  rcases Nat.lt_or_ge p.block w.heap.size with h1 | h1
  · exact h1
  · simp [World.cell?, Array.getElem?_eq_none h1] at h

section
variable {H : Type} {enc : TypeId × Value → H} {w : World} {base : Nat} {spare : Nat → Bool} {held : Bool}
set_option maxRecDepth 100000 in
theorem openIntS {r : Reach} {b0 : Nat} {v : Value} {d : DataW H} {p : List MemPlace} (hv : Value.okWide Try.prog w r b0 34 v) (h : DataW.Trod enc Try.prog w base spare held 34 v d p) :
    ∃ (A : Option Addr) (len cap : Nat) (l : List Int), v = .slice A len cap ∧ IntRow w w.heap.size A l ∧ l.length = len ∧ len ≤ 9223372036854775807 := by
  obtain ⟨A, len, cap, rfl⟩ := okWide_slice Try.underlying34 hv
  obtain ⟨fuel, hf⟩ := h
  rcases open_ints Try.underlying34 Try.underlying2 cellsI hf with ⟨hcs, hx⟩ | ⟨a, len', cap', zs, hcs, _, hl, hm, hmm, hx, hel, _⟩
  · simp [Value.cells] at hcs
    obtain ⟨rfl, rfl, rfl⟩ := hcs
    exact ⟨none, 0, 0, [], rfl, fun h => absurd rfl h, rfl, by omega⟩
  · simp [Value.cells] at hcs
    obtain ⟨rfl, rfl, rfl⟩ := hcs
    have hlm : len ≤ zs.length := by rw [hmm]; split <;> omega
    obtain ⟨b, off, spot⟩ := a
    have ht : (zs.take len).length = len := by rw [List.length_take]; omega
    refine ⟨_, len, cap, zs.take len, rfl, fun hne => ?_, ht, by unfold maxLen at hm; omega⟩
    have h0 : 0 < len := by
      rcases Nat.eq_zero_or_pos len with e | e
      · subst e; simp at hne
      · exact e
    have hspot : spot = none := by
      have := World.cell?_spot (hel 0 (by omega))
      simpa [Addr.add] using this
    subst hspot
    have hadd : ∀ i, (⟨b, off, none⟩ : Addr).add i = ⟨b, off + i, none⟩ := fun i => by unfold Addr.add; split <;> simp_all
    refine ⟨b, off, rfl, ?_, fun i n hi => ?_⟩
    · have := cell_inI (hel 0 (by omega))
      rw [hadd] at this
      exact this
    · have hik : i < len := by
        rcases Nat.lt_or_ge i len with h1 | h1
        · exact h1
        · rw [List.getElem?_eq_none (by omega)] at hi; cases hi
      have := hel i (by omega)
      rw [hadd] at this
      rw [this]
      rw [List.getElem?_take_of_lt hik] at hi
      rw [List.getD_eq_getElem?_getD, hi]
      rfl
end

theorem infoI64 : (Try.prog.info? 2).map (fun i => (i.zero, i.size, i.bytes)) = some (some (.int .i64 0), 1, 8) := by kernel_rfl
/-- The first k integers have been copied into the block g, which has room for n. -/
structure FillI (w : World) (g n : Nat) (l : List Int) (k : Nat) (W : World) : Prop where
  B : Below w.heap.size w W
  lo : w.heap.size ≤ g
  z : g < W.heap.size
  got : ∀ (i : Nat) (a : Int), i < k → l[i]? = some a → W.cell? ⟨g, i, none⟩ = some (.int .i64 a)
  there : ∀ o, o < n → ∃ v, W.cell? ⟨g, o, none⟩ = some v
  free : ∀ o, W.frozen? ⟨g, o, none⟩ = false
theorem FillI.put {w W : World} {g n k : Nat} {l : List Int} {a : Int} (H : FillI w g n l k W) (hk : k < n) (hx : l[k]? = some a) : FillI w g n l (k + 1) (W.setCell ⟨g, k, none⟩ (.int .i64 a)) := by
  obtain ⟨u0, h0⟩ := H.there k hk
  refine ⟨H.B.setCell H.lo _, H.lo, by simpa using H.z, fun i a' hi hx' => ?_, fun o ho => ?_, fun o => by simpa using H.free o⟩
  · by_cases hik : i = k
    · subst hik
      rw [hx] at hx'
      injection hx' with hx'
      rw [World.cell?_setCell_same _ _ _ h0, hx']
    · rw [World.cell?_setCell_other _ _ _ _ (by intro e; injection e; omega)]
      exact H.got i a' (by omega) hx'
  · by_cases hok : o = k
    · subst hok
      exact ⟨_, World.cell?_setCell_same _ _ _ h0⟩
    · obtain ⟨v, hv⟩ := H.there o ho
      exact ⟨v, by rw [World.cell?_setCell_other _ _ _ _ (by intro e; injection e; omega)]; exact hv⟩
theorem belowGrownI {A B : World} (h : A.grownBy B none) : Below A.heap.size A B := ⟨h.os, h.tape, h.output, h.size, fun k hk => h.block k hk (by simp)⟩

set_option maxRecDepth 100000 in
set_option maxHeartbeats 2000000 in
theorem toI64 (A : Option Addr) (len cap : Nat) (l : List Int) (w : World) (hr : IntRow w w.heap.size A l) (hl : l.length = len) (hm : len ≤ 1048576) :
    Calls Try.prog 63 #[.slice A len cap] w fun e w' => e = .returned (.slice (some ⟨w.heap.size, 0, none⟩) len len) ∧ IntRow w' w'.heap.size (some ⟨w.heap.size, 0, none⟩) l ∧ Below w.heap.size w w' := by
  obtain ⟨i0, hi, hz0, hz1, hz2⟩ := infoA_parts infoI64
  have HR := Lib.hid hr
  have HL := Lib.hid hl
  clear hr hl
  go_enter Try.func63, Try.ntmps63
  go_wp2_with (at_make; refine wpList_make_full _ rfl _ _ 34 rfl w.heap.size 2 i0 (.int .i64 0) 1 Try.underlying34 hi hz0 hz1 .i64 .i64 _ _ len rfl rfl rfl rfl (by rw [hz2]; omega) (by unfold maxLen; omega) (by omega) ?_; intro w2 hown2 hgrow2)
  have hst : FillI w w.heap.size len l 0 w2 := by
    refine ⟨belowGrownI hgrow2, Nat.le_refl _, ?_, fun i a h => absurd h (by omega), fun o ho => ?_, fun o => hown2.frozenAt o⟩
    · rcases hown2.2 with ⟨hv, _⟩ | ⟨g0, c0, cur, hv, _, hh, _⟩
      · cases hv
      · injection hv with hv
        injection hv with hv
        injection hv with hv
        rw [← hv] at hh
        rcases Nat.lt_or_ge w.heap.size w2.heap.size with h1 | h1
        · exact h1
        · rw [Array.getElem?_eq_none h1] at hh; cases hh
    · have hx := hown2.1
      exact ⟨_, (hown2.cellAt o (by omega)).trans (List.getElem?_eq_getElem (by omega))⟩
  have HS := Lib.hid hst
  clear hst hown2 hgrow2
  go_wp2_with fail
  go_loopw [4] (fun i wr => ∃ k : Nat, k ≤ len ∧ i = .int .i64 k ∧ Hid (FillI w w.heap.size len l k wr)) (fun i _ => len - (intOf i).toNat)
  case atStart => exact ⟨0, by omega, rfl, HS⟩
  case round =>
    obtain ⟨k, hk, rfl, H⟩ := hrel
    by_cases hlt : k < len
    · obtain ⟨n, hx⟩ : ∃ a, l[k]? = some a := ⟨_, List.getElem?_eq_getElem (by have := HL.out; omega)⟩
      have hne : l ≠ [] := by intro h; rw [h] at hx; simp at hx
      obtain ⟨b, off, rfl, hbb, hcells⟩ := HR.out hne
      have x0 := (H.out.B.cell (p := ⟨b, off + k, none⟩) hbb).trans (hcells k n hx)
      have HX := Lib.hid hx
      obtain ⟨u0, y0⟩ := H.out.there k hlt
      have f0 := H.out.free k
      clear hcells hne hx
      go_wp2
      go_roundw
      case rel => exact ⟨k + 1, by omega, by go_num, Lib.hid (H.out.put hlt HX.out)⟩
      case measure => simp [intOf]; omega
    · obtain rfl : k = len := by omega
      go_wp2
      go_ret
      refine ⟨rfl, fun _ => ⟨w.heap.size, 0, rfl, H.out.z, fun i a hi => ?_⟩, H.out.B⟩
      have hik : i < k := by
        rcases Nat.lt_or_ge i l.length with h1 | h1
        · have := HL.out; omega
        · rw [List.getElem?_eq_none h1] at hi; cases hi
      rw [Nat.zero_add]
      exact H.out.got i a hik hi
theorem eqSeqSameA (x y : Wd) (w : World) :
    Calls Try.prog 65 #[sqV x y, sqV x y] w fun e w' => e = .returned (.bool true) ∧ Below w.heap.size w w' := by
  go_enter Try.func65, Try.ntmps65
  go_wp2
  go_ret
  refine ⟨rfl, ?_⟩
  (repeat' (first | (with_reducible exact Below.refl _ _) | (with_reducible assumption) | (with_reducible refine belowNext ?_ (by with_reducible assumption)) | (with_reducible refine belowAlloc ?_ _) | (with_reducible refine Below.drew ?_) | (with_reducible refine below_drewN ?_ _) | (with_reducible refine Below.setCell ?_ ?_ _) | go_size | (with_reducible refine sizeOf' ?_) | (with_reducible refine sizeAdd ?_) | (dsimp only; first | (with_reducible refine sizeOf' ?_) | (with_reducible refine sizeAdd ?_))))
end Go.Proofs.Ytfakkibacepdeaa

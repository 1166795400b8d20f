/-
  A list of angles as an argument of a law: opened, counted, copied, marked.
-/
import Derived.Test.YtfdjoolhmianjaaW8
import Derived.Test.YtfdjoolhmianjaaOnly
import Derived.Test.YtfdjoolhmianjaaV0
import Derived.Deep.Slices
import Derived.OwnWalk
namespace Go.Proofs.Ytfdjoolhmianjaa
open Go.ChangeShapes Go.WideShapes Go.ChangeAt Go.RowKit Go.Joins Go.Deep

theorem laidOutAllA : laidOutB Try.prog = true := by kernel_rfl
theorem cell_inA {w : World} {p : Addr} {v : Value} (h : w.cell? p = some v) : p.block < w.heap.size := by
  rcases Nat.lt_or_ge p.block w.heap.size with h1 | h1
  · exact h1
  · simp [World.cell?, Array.getElem?_eq_none h1] at h

section
variable {H : Type} {enc : TypeId × Value → H} {w : World} {base : Nat} {spare : Nat → Bool} {held : Bool}
set_option maxRecDepth 100000 in
theorem openAngS {r : Reach} {b0 : Nat} {v : Value} {d : DataW H} {p : List MemPlace} (hv : Value.okWide Try.prog w r b0 48 v) (h : DataW.Trod enc Try.prog w base spare held 48 v d p) :
    ∃ (A : Option Addr) (len cap : Nat) (l : List (Int × Int)), v = .slice A len cap ∧ AngRow w w.heap.size A l ∧ l.length = len ∧ len ≤ 9223372036854775807 := by
  obtain ⟨A, len, cap, rfl⟩ := okWide_slice Try.underlying48 hv
  obtain ⟨fuel, hf⟩ := h
  rcases open_slice Try.underlying48 hf with ⟨hcs, hx⟩ | ⟨a, len', cap', m, n, D, Pl, hcs, _, hl, hm, hmm, hx, hel⟩
  · simp [Value.cells] at hcs
    obtain ⟨rfl, rfl, rfl⟩ := hcs
    exact ⟨none, 0, 0, [], rfl, fun h => absurd rfl h, rfl, by omega⟩
  · simp [Value.cells] at hcs
    obtain ⟨rfl, rfl, rfl⟩ := hcs
    have hlm : len ≤ m := by rw [hmm]; split <;> omega
    obtain ⟨b, off, spot⟩ := a
    have key : ∀ i, i < len → ∃ x : Int × Int, spot = none ∧ w.cell? ⟨b, off + i * 2, none⟩ = some (.int .i64 x.1) ∧ w.cell? ⟨b, off + i * 2 + 1, none⟩ = some (.int .i64 x.2) := by
      intro i hi
      obtain ⟨cs', hc, ht⟩ := hel i (by omega)
      rw [cellsLfA] at hc
      obtain ⟨_, hl2, hcell⟩ := World.cells?_some hc
      obtain ⟨c0, c1, rfl⟩ : ∃ c0 c1, cs' = [c0, c1] := by
        match cs', hl2 with
        | [c0, c1], _ => exact ⟨c0, c1, rfl⟩
      obtain ⟨x, y, rfl, rfl, _⟩ := openAngC (c0 := c0) (c1 := c1) ht
      have r0 := hcell 0 (by omega)
      have r1 := hcell 1 (by omega)
      have hspot : spot = none := by
        obtain ⟨cs0, hc0, _⟩ := hel 0 (by omega)
        rw [cellsLfA] at hc0
        obtain ⟨_, l0, hcell0⟩ := World.cells?_some hc0
        obtain ⟨u0, u1, rfl⟩ : ∃ c0 c1, cs0 = [c0, c1] := by
          match cs0, l0 with
          | [c0, c1], _ => exact ⟨c0, c1, rfl⟩
        have r00 := hcell0 0 (by omega)
        have s0 := World.cell?_spot r00
        simpa [Addr.add] using s0
      subst hspot
      refine ⟨(x, y), rfl, ?_, ?_⟩
      · simpa [add_plain] using r0
      · simpa [add_plain] using r1
    obtain ⟨L, hL⟩ := choose_lt key
    refine ⟨_, len, cap, (List.range len).map L, rfl, ?_, by simp, by unfold maxLen at hm; omega⟩
    intro hne
    have h0 : 0 < len := by
      rcases Nat.eq_zero_or_pos len with rfl | h
      · exact absurd rfl hne
      · exact h
    obtain ⟨rfl, c0, _⟩ := hL 0 h0
    refine ⟨b, off, rfl, cell_inA c0, fun i x y hi => ?_⟩
    have hlt : i < len := by
      rcases Nat.lt_or_ge i len with h1 | h1
      · exact h1
      · rw [List.getElem?_eq_none (by simpa using h1)] at hi; cases hi
    rw [List.getElem?_map, List.getElem?_range hlt] at hi
    simp only [Option.map_some, Option.some.injEq] at hi
    have := (hL i hlt).2
    rw [hi] at this
    exact this
end

set_option maxHeartbeats 2000000 in
theorem szAng (A : Option Addr) (len cap : Nat) (left : Int) (w : World) (h0 : 0 ≤ left) (h1 : left ≤ 1000000000) (hm : len ≤ 9223372036854775807) :
    Calls Try.prog 31 #[.slice A len cap, .int .i64 left] w fun e w' => e = .returned (.int .i64 (if left < (len : Int) then -1 else left - (len : Int))) ∧ w = w' := by
  by_cases h : left < (len : Int)
  · rw [if_pos h]
    have hI : left - (len : Int) < 0 := by omega
    go_enter Try.func31, Try.ntmps31
    go_wp2
    go_ret
    exact ⟨rfl, rfl⟩
  · rw [if_neg h]
    have hI : ¬ (left - (len : Int) < 0) := by omega
    go_enter Try.func31, Try.ntmps31
    go_wp2
    go_ret
    exact ⟨rfl, rfl⟩

theorem AngOwn.only {b : Nat} {w w' : World} (h : OnlyB b w w') {lo : Nat} {A : Option Addr} {l : List (Int × Int)} (hl : AngOwn w lo A l) (hlo : b < lo) : AngOwn w' lo A l := by
  intro hne
  obtain ⟨g, off, e, h1, h2, hc⟩ := hl hne
  have hgb : ∀ o, (⟨g, o, none⟩ : Addr).block ≠ b := fun o => by show g ≠ b; omega
  refine ⟨g, off, e, h1, by rw [h.1]; exact h2, fun i n d hi => ?_⟩
  obtain ⟨a0, a1, f0, f1⟩ := hc i n d hi
  exact ⟨(h.cell (hgb _)).trans a0, (h.cell (hgb _)).trans a1, (h.frozen (hgb _)).trans f0, (h.frozen (hgb _)).trans f1⟩

set_option maxHeartbeats 2000000 in
theorem markAngX (b0 off0 len cap : Nat) (l : List (Int × Int)) (k0 : Int) (w : World) (hr : AngOwn w b0 (some ⟨b0, off0, none⟩) l) (hl : l.length = len) (hk0 : 0 ≤ k0) (hk1 : k0 ≤ 1000000000) (hm : len ≤ 1000000000000) :
    Calls Try.prog 25 #[.slice (some ⟨b0, off0, none⟩) len cap, .int .i64 k0] w fun e w' => e = .returned (.int .i64 (k0 + 2 * (len : Int))) ∧ Hid (OnlyB b0 w w' ∧ Below b0 w w') := by
  have HR := Lib.hid hr
  have HL := Lib.hid hl
  clear hr hl
  go_enter Try.func25, Try.ntmps25
  go_wp2
  go_loopw [1, 5] (fun q i wr => ∃ k : Nat, k ≤ len ∧ i = .int .i64 k ∧ q = .int .i64 (k0 + 2 * (k : Int)) ∧ Hid (AngOwn wr b0 (some ⟨b0, off0, none⟩) (marked k0 l k) ∧ Below b0 w wr ∧ OnlyB b0 w wr)) (fun _ i _ => len - (intOf i).toNat)
  case atStart => exact ⟨0, by omega, rfl, by simp, Lib.hid ⟨by rw [marked_none]; exact HR.out, Below.refl _ _, OnlyB.refl _ _⟩⟩
  case round =>
    obtain ⟨k, hk, rfl, rfl, H⟩ := hrel
    by_cases hlt : k < len
    · have hkl : k < l.length := by have := HL.out; omega
      obtain ⟨n, d, hnd⟩ : ∃ n d, l[k] = (n, d) := ⟨_, _, rfl⟩
      have hk2 : (marked k0 l k)[k]? = some (n, d) := by rw [marked_old (Nat.le_refl _), List.getElem?_eq_getElem hkl, hnd]
      have hne : marked k0 l k ≠ [] := by intro h; rw [h] at hk2; simp at hk2
      obtain ⟨b, off, hA, hlo, hbb, hcells⟩ := H.out.1 hne
      obtain ⟨rfl, rfl⟩ : b0 = b ∧ off0 = off := by simpa using hA
      obtain ⟨x0, x1, x2, x3⟩ := hcells k n d hk2
      have HC := Lib.hid hcells
      clear hcells hne hnd hA
      go_wp2
      go_roundw
      case rel =>
        refine ⟨k + 1, by omega, by go_num, by go_num, Lib.hid ⟨?_, ?_, ?_⟩⟩
        · exact mark_step hkl hlo hbb HC.out
        · exact (H.out.2.1.setCell hlo _).setCell hlo _
        · exact (H.out.2.2.set _ _).set _ _
      case measure => simp [intOf]; omega
    · obtain rfl : k = len := by omega
      have H1 := Lib.hid (And.intro H.out.2.2 H.out.2.1)
      go_wp2
      go_ret
      exact ⟨rfl, H1⟩

theorem infoAg : (Try.prog.info? 32).map (fun i => (i.zero, i.size, i.bytes)) = some (some (.agg #[.int .i64 0, .int .i64 0]), 2, 16) := by kernel_rfl
theorem infoAg_parts {t : TypeId} {z : Value} {s b : Nat} (h : (Try.prog.info? t).map (fun i => (i.zero, i.size, i.bytes)) = some (some z, s, b)) : ∃ i, Try.prog.info? t = some i ∧ i.zero = some z ∧ i.size = s ∧ i.bytes = b := by
  cases hi : Try.prog.info? t with
  | none => rw [hi] at h; cases h
  | some i =>
    rw [hi] at h
    simp only [Option.map_some, Option.some.injEq, Prod.mk.injEq] at h
    exact ⟨i, rfl, h.1, h.2.1, h.2.2⟩
/-- The first k angles have been copied into the block g, which has room for n. -/
structure FillA (w : World) (g n : Nat) (l : List (Int × Int)) (k : Nat) (W : World) : Prop where
  B : Below w.heap.size w W
  lo : w.heap.size ≤ g
  z : g < W.heap.size
  got : ∀ (i : Nat) (a b : Int), i < k → l[i]? = some (a, b) → W.cell? ⟨g, i * 2, none⟩ = some (.int .i64 a) ∧ W.cell? ⟨g, i * 2 + 1, none⟩ = some (.int .i64 b)
  there : ∀ o, o < n * 2 → ∃ v, W.cell? ⟨g, o, none⟩ = some v
  free : ∀ o, W.frozen? ⟨g, o, none⟩ = false
theorem FillA.next {w W W1 : World} {g n k : Nat} {l : List (Int × Int)} (H : FillA w g n l k W) (hb : Below W.heap.size W W1) : FillA w g n l k W1 :=
  ⟨belowNext H.B hb, H.lo, Nat.lt_of_lt_of_le H.z hb.size, fun i a b hi hx => ⟨cellThru hb H.z (H.got i a b hi hx).1, cellThru hb H.z (H.got i a b hi hx).2⟩, fun o ho => (H.there o ho).imp fun _ hv => cellThru hb H.z hv, fun o => frozThru hb H.z (H.free o)⟩
theorem FillA.put {w W : World} {g n k : Nat} {l : List (Int × Int)} {a b : Int} (H : FillA w g n l k W) (hk : k < n) (hx : l[k]? = some (a, b)) :
    FillA w g n l (k + 1) ((W.setCell ⟨g, k * 2, none⟩ (.int .i64 a)).setCell ⟨g, k * 2 + 1, none⟩ (.int .i64 b)) := by
  obtain ⟨u0, h0⟩ := H.there (k * 2) (by omega)
  obtain ⟨u1, h1⟩ := H.there (k * 2 + 1) (by omega)
  have t0 := first2 (x := .int .i64 a) (y := .int .i64 b) (show k * 2 ≠ k * 2 + 1 by omega) h0
  have t1 := second2 (x := .int .i64 a) (y := .int .i64 b) (show k * 2 ≠ k * 2 + 1 by omega) h1
  refine ⟨(H.B.setCell H.lo _).setCell H.lo _, H.lo, by simpa using H.z, fun i a' b' hi hx' => ?_, fun o ho => ?_, fun o => by simpa using H.free o⟩
  · by_cases hik : i = k
    · subst hik
      rw [hx] at hx'
      injection hx' with hx'
      simp only [Prod.mk.injEq] at hx'
      obtain ⟨rfl, rfl⟩ := hx'
      exact ⟨t0, t1⟩
    · obtain ⟨a1, a2⟩ := H.got i a' b' (by omega) hx'
      exact ⟨(other2 (by omega) (by omega)).trans a1, (other2 (by omega) (by omega)).trans a2⟩
  · by_cases h : o = k * 2
    · subst h; exact ⟨_, t0⟩
    · by_cases h2 : o = k * 2 + 1
      · subst h2; exact ⟨_, t1⟩
      · obtain ⟨v, hv⟩ := H.there o ho
        exact ⟨v, (other2 h h2).trans hv⟩
theorem belowGrownA {A B : World} (h : A.grownBy B none) : Below A.heap.size A B := ⟨h.os, h.tape, h.output, h.size, fun k hk => h.block k hk (by simp)⟩

set_option maxRecDepth 100000 in
set_option maxHeartbeats 2000000 in
theorem toAngSX (A : Option Addr) (len cap : Nat) (l : List (Int × Int)) (w : World) (hr : AngRow w w.heap.size A l) (hl : l.length = len) (hm : len ≤ 1048576) :
    Calls Try.prog 34 #[.slice A len cap] w fun e w' => e = .returned (.slice (some ⟨w.heap.size, 0, none⟩) len len) ∧ AngOwn w' w.heap.size (some ⟨w.heap.size, 0, none⟩) l ∧ Below w.heap.size w w' ∧ w.heap.size < w'.heap.size := by
  obtain ⟨i0, hi, hz0, hz1, hz2⟩ := infoAg_parts infoAg
  have HR := Lib.hid hr
  have HL := Lib.hid hl
  clear hr hl
  go_enter Try.func34, Try.ntmps34
  go_wp2_with (at_make; refine wpList_make_full _ rfl _ _ 36 rfl w.heap.size 32 i0 (.agg #[.int .i64 0, .int .i64 0]) 2 Try.underlying36 hi hz0 hz1 .i64 .i64 _ _ len rfl rfl rfl rfl (by rw [hz2]; omega) (by unfold maxLen; omega) (by omega) ?_; intro w2 hown2 hgrow2)
  have hst : FillA w w.heap.size len l 0 w2 := by
    refine ⟨belowGrownA hgrow2, Nat.le_refl _, ?_, fun i a b h => absurd h (by omega), fun o ho => ?_, fun o => hown2.frozenAt o⟩
    · rcases hown2.2 with ⟨hv, _⟩ | ⟨g0, c0, cur, hv, _, hh, _⟩
      · cases hv
      · injection hv with hv
        injection hv with hv
        injection hv with hv
        rw [← hv] at hh
        rcases Nat.lt_or_ge w.heap.size w2.heap.size with h1 | h1
        · exact h1
        · rw [Array.getElem?_eq_none h1] at hh; cases hh
    · have hx := hown2.1
      exact ⟨_, (hown2.cellAt o (by omega)).trans (List.getElem?_eq_getElem (by omega))⟩
  have HS := Lib.hid hst
  clear hst hown2 hgrow2
  go_wp2_with fail
  go_loopw [4] (fun i wr => ∃ k : Nat, k ≤ len ∧ i = .int .i64 k ∧ Hid (FillA w w.heap.size len l k wr)) (fun i _ => len - (intOf i).toNat)
  case atStart => exact ⟨0, by omega, rfl, HS⟩
  case round =>
    obtain ⟨k, hk, rfl, H⟩ := hrel
    by_cases hlt : k < len
    · obtain ⟨⟨n, d⟩, hx⟩ : ∃ q, l[k]? = some q := ⟨_, List.getElem?_eq_getElem (by have := HL.out; omega)⟩
      have hne : l ≠ [] := by intro h; rw [h] at hx; simp at hx
      obtain ⟨b, off, rfl, hbb, hcells⟩ := HR.out hne
      have x0 := (H.out.B.cell (p := ⟨b, off + k * 2, none⟩) hbb).trans (hcells k n d hx).1
      have x1 := (H.out.B.cell (p := ⟨b, off + k * 2 + 1, none⟩) hbb).trans (hcells k n d hx).2
      have HX := Lib.hid hx
      have H2 : Hid (∀ W, Below wr.heap.size wr W → FillA w w.heap.size len l k W) := Lib.hid (fun W hB => H.out.next hB)
      clear hcells hne hx
      go_wp2_with fail
      refine (toAng _ _ _).mono ?_
      rintro e w3 ⟨rfl, hb3⟩
      have H3 := Lib.hid (H2.out _ hb3)
      obtain ⟨u0, y0⟩ := H3.out.there (k * 2) (by omega)
      obtain ⟨u1, y1⟩ := H3.out.there (k * 2 + 1) (by omega)
      have f0 := H3.out.free (k * 2)
      have f1 := H3.out.free (k * 2 + 1)
      clear H2 hb3 x0 x1 H
      go_wp2
      go_roundw
      case rel => exact ⟨k + 1, by omega, by go_num, Lib.hid (H3.out.put hlt HX.out)⟩
      case measure => simp [intOf]; omega
    · obtain rfl : k = len := by omega
      go_wp2
      go_ret
      refine ⟨rfl, fun _ => ⟨w.heap.size, 0, rfl, Nat.le_refl _, H.out.z, fun i a b hi => ?_⟩, H.out.B, H.out.z⟩
      have hik : i < k := by
        rcases Nat.lt_or_ge i l.length with h1 | h1
        · have := HL.out; omega
        · rw [List.getElem?_eq_none h1] at hi; cases hi
      obtain ⟨a1, a2⟩ := H.out.got i a b hik hi
      rw [Nat.zero_add]
      exact ⟨a1, a2, H.out.free _, H.out.free _⟩
end Go.Proofs.Ytfdjoolhmianjaa

/-
  Contracts: a list of leaves handed from a law to the program: counted, copied.
-/
import Derived.Test.YtdmppdfncbljoaaV18
namespace Go.Proofs.Ytdmppdfncbljoaa
open Go.RowKit

set_option maxHeartbeats 1000000 in
theorem szLf (A : Option Addr) (len cap : Nat) (left : Int) (w : World) (h0 : 0 ≤ left) (h1 : left ≤ 1000000000) (hm : len ≤ 9223372036854775807) :
    Calls Try.prog 19 #[.slice A len cap, .int .i64 left] w fun e w' => e = .returned (.int .i64 (if left < (len : Int) then -1 else left - (len : Int))) ∧ w = w' := by
  by_cases h : left < (len : Int)
  · rw [if_pos h]
    have hI : left - (len : Int) < 0 := by omega
    go_enter Try.func19, Try.ntmps19
    go_wp2
    go_ret
    exact ⟨rfl, rfl⟩
  · rw [if_neg h]
    have hI : ¬ (left - (len : Int) < 0) := by omega
    go_enter Try.func19, Try.ntmps19
    go_wp2
    go_ret
    exact ⟨rfl, rfl⟩

/-- The first k leaves have been copied into the block g, which has room for n. -/
structure Fill4 (w : World) (g n : Nat) (l : List Lf4) (k : Nat) (W : World) : Prop where
  B : Below w.heap.size w W
  lo : w.heap.size ≤ g
  z : g < W.heap.size
  got : ∀ (i : Nat) (a b c d : Int), i < k → l[i]? = some (a, b, c, d) → Cells4 W g (i * 4) a b c d
  there : ∀ o, o < n * 4 → ∃ v, W.cell? ⟨g, o, none⟩ = some v
  free : ∀ o, W.frozen? ⟨g, o, none⟩ = false
theorem Fill4.next {w W W1 : World} {g n k : Nat} {l : List Lf4} (H : Fill4 w g n l k W) (hb : Below W.heap.size W W1) : Fill4 w g n l k W1 :=
  ⟨belowNext H.B hb, H.lo, Nat.lt_of_lt_of_le H.z hb.size, fun i a b c d hi hx => (H.got i a b c d hi hx).next hb H.z, fun o ho => (H.there o ho).imp fun _ hv => cellThru hb H.z hv, fun o => frozThru hb H.z (H.free o)⟩
theorem Fill4.put {w W : World} {g n k : Nat} {l : List Lf4} {a b c d : Int} (H : Fill4 w g n l k W) (hk : k < n) (hx : l[k]? = some (a, b, c, d)) :
    Fill4 w g n l (k + 1) (set4 W g (k * 4) (.int .i64 a) (.int .i64 b) (.int .i64 c) (.int .i64 d)) := by
  obtain ⟨u0, h0⟩ := H.there (k * 4) (by omega)
  obtain ⟨u1, h1⟩ := H.there (k * 4 + 1) (by omega)
  obtain ⟨u2, h2⟩ := H.there (k * 4 + 2) (by omega)
  obtain ⟨u3, h3⟩ := H.there (k * 4 + 3) (by omega)
  obtain ⟨t0, t1, t2, t3⟩ := set4_got (x0 := .int .i64 a) (x1 := .int .i64 b) (x2 := .int .i64 c) (x3 := .int .i64 d) h0 h1 h2 h3
  refine ⟨?_, H.lo, by simpa [set4] using H.z, fun i a' b' c' d' hi hx' => ?_, fun o ho => ?_, fun o => ?_⟩
  · exact (((H.B.setCell H.lo _).setCell H.lo _).setCell H.lo _).setCell H.lo _
  · by_cases hik : i = k
    · subst hik
      rw [hx] at hx'
      injection hx' with hx'
      simp only [Prod.mk.injEq] at hx'
      obtain ⟨rfl, rfl, rfl, rfl⟩ := hx'
      exact ⟨t0, t1, t2, t3⟩
    · obtain ⟨a1, a2, a3, a4⟩ := H.got i a' b' c' d' (by omega) hx'
      exact ⟨(set4_other (by omega)).trans a1, (set4_other (by omega)).trans a2, (set4_other (by omega)).trans a3, (set4_other (by omega)).trans a4⟩
  · by_cases h : o < k * 4 ∨ k * 4 + 3 < o
    · obtain ⟨v, hv⟩ := H.there o ho
      exact ⟨v, (set4_other h).trans hv⟩
    · rcases (show o = k * 4 ∨ o = k * 4 + 1 ∨ o = k * 4 + 2 ∨ o = k * 4 + 3 by omega) with rfl | rfl | rfl | rfl
      · exact ⟨_, t0⟩
      · exact ⟨_, t1⟩
      · exact ⟨_, t2⟩
      · exact ⟨_, t3⟩
  · simpa [set4] using H.free o

theorem belowGrown {A B : World} (h : A.grownBy B none) : Below A.heap.size A B := ⟨h.os, h.tape, h.output, h.size, fun k hk => h.block k hk (by simp)⟩

set_option maxRecDepth 100000 in
set_option maxHeartbeats 2000000 in
theorem toLfSX (A : Option Addr) (len cap : Nat) (l : List Lf4) (w : World) (hr : LfRow w w.heap.size A l) (hl : l.length = len) (hm : len ≤ 1048576) :
    Calls Try.prog 21 #[.slice A len cap] w fun e w' => e = .returned (.slice (some ⟨w.heap.size, 0, none⟩) len len) ∧ LfOwn w' w.heap.size (some ⟨w.heap.size, 0, none⟩) l ∧ Below w.heap.size w w' ∧ w.heap.size < w'.heap.size := by
  obtain ⟨i0, hi, hz0, hz1, hz2⟩ := info_parts infoL
  have HR := Lib.hid hr
  have HL := Lib.hid hl
  clear hr hl
  go_enter Try.func21, Try.ntmps21
  go_wp2_with (at_make; refine wpList_make_full _ rfl _ _ 26 rfl w.heap.size 31 i0 (.agg #[.int .i64 0, .int .i64 0, .int .i64 0, .int .i64 0]) 4 Try.underlying26 hi hz0 hz1 .i64 .i64 _ _ len rfl rfl rfl rfl (by rw [hz2]; omega) (by unfold maxLen; omega) (by omega) ?_; intro w2 hown2 hgrow2)
  have hst : Fill4 w w.heap.size len l 0 w2 := by
    refine ⟨?_, Nat.le_refl _, ?_, fun i a b c d h => absurd h (by omega), fun o ho => ?_, fun o => ?_⟩
    · exact belowGrown hgrow2
    · rcases hown2.2 with ⟨hv, _⟩ | ⟨g0, c0, cur, hv, _, hh, _⟩
      · cases hv
      · injection hv with hv
        injection hv with hv
        injection hv with hv
        rw [← hv] at hh
        rcases Nat.lt_or_ge w.heap.size w2.heap.size with h1 | h1
        · exact h1
        · rw [Array.getElem?_eq_none h1] at hh; cases hh
    · have hx := hown2.1
      exact ⟨_, (hown2.cellAt o (by omega)).trans (List.getElem?_eq_getElem (by omega))⟩
    · exact hown2.frozenAt o
  have HS := Lib.hid hst
  clear hst hown2 hgrow2
  go_wp2_with fail
  go_loopw [4] (fun i wr => ∃ k : Nat, k ≤ len ∧ i = .int .i64 k ∧ Hid (Fill4 w w.heap.size len l k wr)) (fun i _ => len - (intOf i).toNat)
  case atStart => exact ⟨0, by omega, rfl, HS⟩
  case round =>
    obtain ⟨k, hk, rfl, H⟩ := hrel
    by_cases hlt : k < len
    · obtain ⟨n, d, m, c, hx⟩ : ∃ a b e f, l[k]? = some (a, b, e, f) := lf_at (by have := HL.out; omega)
      have hne : l ≠ [] := by intro h; rw [h] at hx; simp at hx
      obtain ⟨b, off, rfl, hbb, hcells⟩ := row_at HR.out hne
      obtain ⟨x0, x1, x2, x3⟩ := (hcells k n d m c hx).next H.out.B hbb
      have HX := Lib.hid hx
      have H2 : Hid (∀ W, Below wr.heap.size wr W → Fill4 w w.heap.size len l k W) := Lib.hid (fun W hB => H.out.next hB)
      clear hcells hne hx
      go_wp2_with fail
      refine (toLf _ _ _ _ _).mono ?_
      rintro e w3 ⟨rfl, hb3⟩
      have H3 := Lib.hid (H2.out _ hb3)
      obtain ⟨u0, y0⟩ := H3.out.there (k * 4) (by omega)
      obtain ⟨u1, y1⟩ := H3.out.there (k * 4 + 1) (by omega)
      obtain ⟨u2, y2⟩ := H3.out.there (k * 4 + 2) (by omega)
      obtain ⟨u3, y3⟩ := H3.out.there (k * 4 + 3) (by omega)
      have f0 := H3.out.free (k * 4)
      have f1 := H3.out.free (k * 4 + 1)
      have f2 := H3.out.free (k * 4 + 2)
      have f3 := H3.out.free (k * 4 + 3)
      clear H2 hb3 x0 x1 x2 x3 H
      go_wp2
      go_roundw
      case rel =>
        exact ⟨k + 1, by omega, by go_num, Lib.hid (H3.out.put hlt HX.out)⟩
      case measure => simp [intOf]; omega
    · obtain rfl : k = len := by omega
      go_wp2
      go_ret
      refine ⟨rfl, fun _ => ⟨w.heap.size, 0, rfl, Nat.le_refl _, H.out.z, fun i a b c d hi => ?_⟩, H.out.B, H.out.z⟩
      have hik : i < k := by
        rcases Nat.lt_or_ge i l.length with h1 | h1
        · have := HL.out; omega
        · rw [List.getElem?_eq_none h1] at hi; cases hi
      rw [show 0 + i * 4 = i * 4 by omega]
      exact ⟨H.out.got i a b c d hik hi, ⟨H.out.free _, H.out.free _, H.out.free _, H.out.free _⟩⟩
theorem toLfS (A : Option Addr) (len cap : Nat) (l : List Lf4) (w : World) (hr : LfRow w w.heap.size A l) (hl : l.length = len) (hm : len ≤ 1048576) :
    Calls Try.prog 21 #[.slice A len cap] w fun e w' => ∃ A', e = .returned (.slice A' len len) ∧ LfOwn w' w.heap.size A' l ∧ Below w.heap.size w w' :=
  (toLfSX A len cap l w hr hl hm).mono fun _ _ h => ⟨_, h.1, h.2.1, h.2.2.1⟩
end Go.Proofs.Ytdmppdfncbljoaa

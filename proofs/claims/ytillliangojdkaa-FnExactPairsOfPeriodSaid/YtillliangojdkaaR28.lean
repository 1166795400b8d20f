/-
  Contracts: lists of ray pairs as results: compared, marked, looked at again.
-/
import Derived.Test.YtillliangojdkaaR13
namespace Go.Proofs.Ytillliangojdkaa
open Go.RowKit

theorem ownP_of {w : World} {lo : Nat} {l : List Lf4} {A : Option Addr} {len cap : Nat} (hl : l.length = len) (h : w.ownsRow lo 49 4 (.slice A len cap) len (flatP l)) : LfOwn w lo A l := by
  intro hne
  have hk : 0 < len := by
    rcases Nat.eq_zero_or_pos len with h0 | h0
    · rw [h0] at hl; exact absurd (List.eq_nil_of_length_eq_zero hl) hne
    · exact h0
  obtain ⟨g, c, hv, hlo, hg⟩ := h.form hk
  obtain ⟨rfl, rfl⟩ : A = some ⟨g, 0, none⟩ ∧ cap = c := by injection hv with hA hn hc; exact ⟨hA, hc⟩
  refine ⟨g, 0, rfl, hlo, hg, fun i a b c' d hi => ?_⟩
  have hik : i < len := by
    rcases Nat.lt_or_ge i l.length with h1 | h1
    · omega
    · rw [List.getElem?_eq_none h1] at hi; cases hi
  obtain ⟨f1, f2, f3, f4⟩ := flatP_at hi
  rw [show 0 + i * 4 = i * 4 by omega]
  exact ⟨⟨(h.cellAt _ (by omega)).trans f1, (h.cellAt _ (by omega)).trans f2, (h.cellAt _ (by omega)).trans f3, (h.cellAt _ (by omega)).trans f4⟩, ⟨h.frozenAt _, h.frozenAt _, h.frozenAt _, h.frozenAt _⟩⟩

set_option maxHeartbeats 2000000 in
theorem eqRpS (A A' : Option Addr) (len cap cap' : Nat) (l : List Lf4) (w : World) (hr : LfRow w w.heap.size A l) (hr' : LfRow w w.heap.size A' l) (hl : l.length = len) (hm : len ≤ 1000000000000) :
    Calls Try.prog 27 #[.slice A len cap, .slice A' len cap'] w fun e w' => e = .returned (.bool true) ∧ Below w.heap.size w w' := by
  have HR := Lib.hid hr
  have HR' := Lib.hid hr'
  have HL := Lib.hid hl
  clear hr hr' hl
  go_enter Try.func27, Try.ntmps27
  go_wp2
  go_loopw [5] (fun i wr => ∃ k : Nat, k ≤ len ∧ i = .int .i64 k ∧ Below w.heap.size w wr) (fun i _ => len - (intOf i).toNat)
  case atStart => exact ⟨0, by omega, rfl, Below.refl _ _⟩
  case round =>
    obtain ⟨k, hk, rfl, hbe⟩ := hrel
    by_cases hlt : k < len
    · have hkl : k < l.length := by have := HL.out; omega
      obtain ⟨n, d, m, c, hnd⟩ : ∃ n d m c, l[k] = (n, d, m, c) := ⟨_, _, _, _, rfl⟩
      have hk2 : l[k]? = some (n, d, m, c) := by rw [List.getElem?_eq_getElem hkl, hnd]
      have hne : l ≠ [] := by intro h; rw [h] at hkl; simp at hkl
      obtain ⟨b, off, rfl, hbb, hcells⟩ := row_at HR.out hne
      obtain ⟨b', off', rfl, hbb', hcells'⟩ := row_at HR'.out hne
      obtain ⟨x0, x1, x2, x3⟩ := (hcells k n d m c hk2).next hbe hbb
      obtain ⟨y0, y1, y2, y3⟩ := (hcells' k n d m c hk2).next hbe hbb'
      have hbw : b < wr.heap.size := Nat.lt_of_lt_of_le hbb hbe.size
      have hbw' : b' < wr.heap.size := Nat.lt_of_lt_of_le hbb' hbe.size
      have hbwd : b < wr.drew.heap.size := hbw
      have hbwd' : b' < wr.drew.heap.size := hbw'
      clear hnd hcells hcells' hk2 hne
      go_wp2_with fail
      go_region_held3 (fun w' => Below w.heap.size w w' ∧ w'.cell? ⟨b, off + k * 4, none⟩ = some (.int .i64 n) ∧ w'.cell? ⟨b, off + k * 4 + 1, none⟩ = some (.int .i64 d) ∧ w'.cell? ⟨b, off + k * 4 + 2, none⟩ = some (.int .i64 m) ∧ w'.cell? ⟨b, off + k * 4 + 3, none⟩ = some (.int .i64 c) ∧
          w'.cell? ⟨b', off' + k * 4, none⟩ = some (.int .i64 n) ∧ w'.cell? ⟨b', off' + k * 4 + 1, none⟩ = some (.int .i64 d) ∧ w'.cell? ⟨b', off' + k * 4 + 2, none⟩ = some (.int .i64 m) ∧ w'.cell? ⟨b', off' + k * 4 + 3, none⟩ = some (.int .i64 c))
        (first | exact ⟨hbe.drew, x0, x1, x2, x3, y0, y1, y2, y3⟩ | exact rows8 (by assumption) hbwd hbwd' (by assumption) | exact rows8 (by assumption) hbwd hbwd' ⟨hbe.drew, x0, x1, x2, x3, y0, y1, y2, y3⟩)
        (first | (go_at_call 36; (with_reducible refine (eqRpSame _ _ _ _ _).mono ?_); rintro e w1 ⟨rfl, hb1⟩))
      rename_i hHeld
      have hB := hHeld.1
      clear hHeld x0 x1 x2 x3 y0 y1 y2 y3 hbw hbw' hb1 hbe
      go_wp2
      go_roundw
      case rel => exact ⟨k + 1, by omega, by go_num, hB⟩
      case measure => simp [intOf]; omega
    · obtain rfl : k = len := by omega
      go_wp2
      go_ret
      exact ⟨rfl, hbe⟩


set_option maxHeartbeats 2000000 in
theorem heldRp (A : Option Addr) (len cap : Nat) (k0 : Int) (w : World) (hr : LfRow w w.heap.size A (marks4 k0 len)) (hk0 : 0 ≤ k0) (hk1 : k0 ≤ 1000000000) (hm : len ≤ 1000000000000) :
    Calls Try.prog 29 #[.slice A len cap, .int .i64 k0] w fun e w' => e = .returned (.int .i64 (k0 + 4 * (len : Int))) ∧ w = w' := by
  have HR := Lib.hid hr
  clear hr
  go_enter Try.func29, Try.ntmps29
  go_wp2
  go_loop [1, 5] (fun q i => ∃ k : Nat, k ≤ len ∧ i = .int .i64 k ∧ q = .int .i64 (k0 + 4 * (k : Int))) (fun _ i => len - (intOf i).toNat)
  case atStart => exact ⟨0, by omega, rfl, by simp⟩
  case round =>
    obtain ⟨k, hk, rfl, rfl⟩ := hrel
    by_cases hlt : k < len
    · have hk2 : (marks4 k0 len)[k]? = some (k0 + 4 * (k : Int), k0 + 4 * (k : Int) + 1, k0 + 4 * (k : Int) + 2, k0 + 4 * (k : Int) + 3) := marks4_at hlt
      have hne : marks4 k0 len ≠ [] := by intro h; rw [h] at hk2; simp at hk2
      obtain ⟨b, off, rfl, hbb, hcells⟩ := row_at HR.out hne
      obtain ⟨x0, x1, x2, x3⟩ := hcells k _ _ _ _ hk2
      have p2 : k0 + 4 * (k : Int) + 2 = k0 + 4 * (k : Int) + 1 + 1 := by omega
      have p3 : k0 + 4 * (k : Int) + 3 = k0 + 4 * (k : Int) + 1 + 1 + 1 := by omega
      rw [p2] at x2
      rw [p3] at x3
      clear hcells hk2 hne p2 p3
      go_wp2
      go_round
      case rel => exact ⟨k + 1, by omega, by go_num, by go_num⟩
      case measure => simp [intOf]; omega
    · obtain rfl : k = len := by omega
      go_wp2
      go_ret
      exact ⟨rfl, rfl⟩


set_option maxHeartbeats 2000000 in
theorem markRp (A : Option Addr) (len cap : Nat) (l : List Lf4) (lo : Nat) (k0 : Int) (w : World) (hr : LfOwn w lo A l) (hl : l.length = len) (hk0 : 0 ≤ k0) (hk1 : k0 ≤ 1000000000) (hm : len ≤ 1000000000000) :
    Calls Try.prog 28 #[.slice A len cap, .int .i64 k0] w fun e w' => e = .returned (.int .i64 (k0 + 4 * (len : Int))) ∧ Hid (LfOwn w' lo A (marks4 k0 len) ∧ Below lo w w') := by
  have HR := Lib.hid hr
  have HL := Lib.hid hl
  clear hr hl
  go_enter Try.func28, Try.ntmps28
  go_wp2
  go_loopw [1, 5] (fun q i wr => ∃ k : Nat, k ≤ len ∧ i = .int .i64 k ∧ q = .int .i64 (k0 + 4 * (k : Int)) ∧ Hid (LfOwn wr lo A (marked4 k0 l k) ∧ Below lo w wr ∧ w.heap.size ≤ wr.heap.size)) (fun _ i _ => len - (intOf i).toNat)
  case atStart => exact ⟨0, by omega, rfl, by simp, Lib.hid ⟨by rw [marked4_none]; exact HR.out, Below.refl _ _, Nat.le_refl _⟩⟩
  case round =>
    obtain ⟨k, hk, rfl, rfl, H⟩ := hrel
    by_cases hlt : k < len
    · have hkl : k < l.length := by have := HL.out; omega
      obtain ⟨n, d, m, c, hnd⟩ : ∃ n d m c, l[k] = (n, d, m, c) := ⟨_, _, _, _, rfl⟩
      have hk2 : (marked4 k0 l k)[k]? = some (n, d, m, c) := by rw [marked4_old (Nat.le_refl _), List.getElem?_eq_getElem hkl, hnd]
      have hne : marked4 k0 l k ≠ [] := by intro h; rw [h] at hk2; simp at hk2
      obtain ⟨b, off, rfl, hlo, hbb, hcells⟩ := H.out.1 hne
      obtain ⟨⟨x0, x1, x2, x3⟩, ⟨z0, z1, z2, z3⟩⟩ := hcells k n d m c hk2
      have HC := Lib.hid hcells
      clear hcells hne hnd
      go_wp2
      go_roundw
      case rel =>
        refine ⟨k + 1, by omega, by go_num, by go_num, Lib.hid ⟨?_, ?_, ?_⟩⟩
        · exact mark4_step hkl hlo hbb rfl rfl (by omega) (by omega) HC.out
        · exact (((H.out.2.1.setCell hlo _).setCell hlo _).setCell hlo _).setCell hlo _
        · simpa using H.out.2.2
      case measure => simp [intOf]; omega
    · obtain rfl : k = len := by omega
      have h1 := H.out.1
      rw [← HL.out, marked4_all, HL.out] at h1
      have H1 := Lib.hid (And.intro h1 H.out.2.1)
      clear h1
      go_wp2
      go_ret
      exact ⟨rfl, H1⟩
end Go.Proofs.Ytillliangojdkaa

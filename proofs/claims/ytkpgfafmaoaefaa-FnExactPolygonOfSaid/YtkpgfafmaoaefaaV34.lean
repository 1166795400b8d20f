/-
  Contracts: a list of leaves marked, and nothing else turned.
-/
import Derived.Test.YtkpgfafmaoaefaaV24
import Derived.Test.YtkpgfafmaoaefaaV11
import Derived.Test.YtkpgfafmaoaefaaOnly
namespace Go.Proofs.Ytkpgfafmaoaefaa
open Go.RowKit

theorem LfOwn.only {b : Nat} {w w' : World} (h : OnlyB b w w') {lo : Nat} {A : Option Addr} {l : List Lf4} (hl : LfOwn w lo A l) (hlo : b < lo) : LfOwn w' lo A l := by
  intro hne
  obtain ⟨g, off, e, h1, h2, hc⟩ := hl hne
  have hgb : ∀ o, (⟨g, o, none⟩ : Addr).block ≠ b := fun o => by show g ≠ b; omega
  refine ⟨g, off, e, h1, by rw [h.1]; exact h2, fun i n d m c hi => ?_⟩
  obtain ⟨⟨a0, a1, a2, a3⟩, ⟨f0, f1, f2, f3⟩⟩ := hc i n d m c hi
  exact ⟨⟨(h.cell (hgb _)).trans a0, (h.cell (hgb _)).trans a1, (h.cell (hgb _)).trans a2, (h.cell (hgb _)).trans a3⟩, ⟨(h.frozen (hgb _)).trans f0, (h.frozen (hgb _)).trans f1, (h.frozen (hgb _)).trans f2, (h.frozen (hgb _)).trans f3⟩⟩

set_option maxHeartbeats 2000000 in
theorem markLfX (b0 off0 len cap : Nat) (l : List Lf4) (k0 : Int) (w : World) (hr : LfOwn w b0 (some ⟨b0, off0, none⟩) l) (hl : l.length = len) (hk0 : 0 ≤ k0) (hk1 : k0 ≤ 1000000000) (hm : len ≤ 1000000000000) :
    Calls Try.prog 19 #[.slice (some ⟨b0, off0, none⟩) len cap, .int .i64 k0] w fun e w' => e = .returned (.int .i64 (k0 + 4 * (len : Int))) ∧ Hid (OnlyB b0 w w' ∧ Below b0 w w') := by
  have HR := Lib.hid hr
  have HL := Lib.hid hl
  clear hr hl
  go_enter Try.func19, Try.ntmps19
  go_wp2
  go_loopw [1, 5] (fun q i wr => ∃ k : Nat, k ≤ len ∧ i = .int .i64 k ∧ q = .int .i64 (k0 + 4 * (k : Int)) ∧ Hid (LfOwn wr b0 (some ⟨b0, off0, none⟩) (marked4 k0 l k) ∧ Below b0 w wr ∧ OnlyB b0 w wr)) (fun _ i _ => len - (intOf i).toNat)
  case atStart => exact ⟨0, by omega, rfl, by simp, Lib.hid ⟨by rw [marked4_none]; exact HR.out, Below.refl _ _, OnlyB.refl _ _⟩⟩
  case round =>
    obtain ⟨k, hk, rfl, rfl, H⟩ := hrel
    by_cases hlt : k < len
    · have hkl : k < l.length := by have := HL.out; omega
      obtain ⟨n, d, m, c, hnd⟩ : ∃ n d m c, l[k] = (n, d, m, c) := ⟨_, _, _, _, rfl⟩
      have hk2 : (marked4 k0 l k)[k]? = some (n, d, m, c) := by rw [marked4_old (Nat.le_refl _), List.getElem?_eq_getElem hkl, hnd]
      have hne : marked4 k0 l k ≠ [] := by intro h; rw [h] at hk2; simp at hk2
      obtain ⟨b, off, hA, hlo, hbb, hcells⟩ := H.out.1 hne
      obtain ⟨rfl, rfl⟩ : b0 = b ∧ off0 = off := by simpa using hA
      obtain ⟨⟨x0, x1, x2, x3⟩, ⟨z0, z1, z2, z3⟩⟩ := hcells k n d m c hk2
      have HC := Lib.hid hcells
      clear hcells hne hnd hA
      go_wp2
      go_roundw
      case rel =>
        refine ⟨k + 1, by omega, by go_num, by go_num, Lib.hid ⟨?_, ?_, ?_⟩⟩
        · exact mark4_step hkl hlo hbb rfl rfl (by omega) (by omega) HC.out
        · exact (((H.out.2.1.setCell hlo _).setCell hlo _).setCell hlo _).setCell hlo _
        · exact (((H.out.2.2.set _ _).set _ _).set _ _).set _ _
      case measure => simp [intOf]; omega
    · obtain rfl : k = len := by omega
      have H1 := Lib.hid (And.intro H.out.2.2 H.out.2.1)
      go_wp2
      go_ret
      exact ⟨rfl, H1⟩
end Go.Proofs.Ytkpgfafmaoaefaa

/-
  Contracts: angles in strictly ascending order, on both sides.
-/
import Derived.Test.YtlmgpecfbpcgaaaQ1
import Derived.Deep.LoopGhost
import Derived.Test.YtlmgpecfbpcgaaaW5
namespace Go.Proofs.Ytlmgpecfbpcgaaa
open Go.RowKit

/-- An answer yes or no. -/
def ResYesQ (w : World) (P : Prop) (e : Ending) (w' : World) : Prop := (∃ r : Bool, e = .returned (.bool r) ∧ Hid (r = true ↔ P)) ∧ Below w.heap.size w w'
set_option maxHeartbeats 2000000 in
theorem specAscQ (A : Option Addr) (len cap : Nat) (l : List (Int × Int)) (w : World) (hr : AngRow w w.heap.size A l) (hl : l.length = len) (hm : len ≤ 1000000000000) (hA : allAng l = true) :
    Calls Try.prog 81 #[.slice A len cap] w (ResYesQ w (AscQ l)) := by
  have HR := Lib.hid hr
  have HL := Lib.hid hl
  have HA := Lib.hid hA
  clear hr hl hA
  go_enter Try.func81, Try.ntmps81
  go_wp2
  go_loopw [3] (fun i wr => ∃ k : Nat, 1 ≤ k ∧ (k ≤ len ∨ k = 1) ∧ i = .int .i64 k ∧ Hid (∀ (j : Nat) (x y : Int × Int), j + 1 < k → l[j]? = some x → l[j + 1]? = some y → lessA x y = true) ∧ Below w.heap.size w wr) (fun i _ => len - (intOf i).toNat)
  case atStart => exact ⟨1, by omega, by omega, rfl, Lib.hid (fun j x y h => absurd h (by omega)), Below.refl _ _⟩
  case round =>
    obtain ⟨k, hk1, hk, rfl, HY, hbe⟩ := hrel
    by_cases hlt : k < len
    · obtain ⟨q, hq⟩ : ∃ q : Nat, k = q + 1 := ⟨k - 1, by omega⟩
      have hk2 : ((k : Int) - 1) = (q : Int) := by omega
      have hw : IntKind.i64.wrap (q : Int) = (q : Int) := IntWalk.i64_in _ (by omega)
      have hql : q < len := by omega
      obtain ⟨⟨n, d⟩, hx⟩ : ∃ p, l[q]? = some p := ⟨_, List.getElem?_eq_getElem (by have := HL.out; omega)⟩
      obtain ⟨⟨m, c⟩, hy⟩ : ∃ p, l[k]? = some p := ⟨_, List.getElem?_eq_getElem (by have := HL.out; omega)⟩
      obtain ⟨b, off, rfl, hbb, hcells⟩ := HR.out (by rintro rfl; cases hx)
      obtain ⟨x0, x1⟩ := hcells q n d hx
      obtain ⟨y0, y1⟩ := hcells k m c hy
      have x0 := cellThru hbe hbb x0
      have x1 := cellThru hbe hbb x1
      have y0 := cellThru hbe hbb y0
      have y1 := cellThru hbe hbb y1
      have hp := allAng_mem HA.out (q := (n, d)) (List.mem_of_getElem? hx)
      have hp' := allAng_mem HA.out (q := (m, c)) (List.mem_of_getElem? hy)
      have HC := Lib.hid (fun w => specLess n d m c w (isAng_ok hp) (isAng_ok hp'))
      have HE : Hid (lessA (n, d) (m, c) = ltA n d m c) := Lib.hid rfl
      have HX := Lib.hid hx
      have HZ := Lib.hid hy
      have HK := Lib.hid hq
      have hbw : b < wr.heap.size := Nat.lt_of_lt_of_le hbb hbe.size
      clear hcells hx hy hp hp' hq
      generalize ltA n d m c = t at *
      cases t
      · have HQ : Hid (¬ AscQ l) := Lib.hid (fun h => by
          have p := h q _ _ HX.out (by rw [← HK.out]; exact HZ.out)
          rw [HE.out] at p
          cases p)
        go_wp2_with fail
        go_region_with (first | (go_at_call 53; (with_reducible refine (HC.out _).mono ?_); rintro e w1 ⟨rfl, hb1⟩))
        all_goals
          have hB : Below w.heap.size w w1 := belowNext hbe.drew hb1
          clear x0 x1 y0 y1 hb1 hbe
          go_wp2
          go_ret
          exact ⟨⟨false, rfl, Lib.hid ⟨fun h => (by cases h), fun h => absurd h HQ.out⟩⟩, hB⟩
      · go_wp2_with fail
        go_region_with (first | (go_at_call 53; (with_reducible refine (HC.out _).mono ?_); rintro e w1 ⟨rfl, hb1⟩))
        all_goals
          have hB : Below w.heap.size w w1 := belowNext hbe.drew hb1
          clear x0 x1 y0 y1 hb1 hbe
          go_wp2
          go_roundw
          case rel =>
            refine ⟨k + 1, by omega, by omega, by go_num, Lib.hid (fun j x y hj hx hy => ?_), hB⟩
            by_cases hjk : j + 1 = k
            · have hq := HK.out
              obtain rfl : q = j := by omega
              have p1 := HX.out
              have p2 := HZ.out
              rw [← hjk] at p2
              rw [p1] at hx
              rw [p2] at hy
              injection hx with hx
              injection hy with hy
              rw [← hx, ← hy]
              exact HE.out
            · exact HY.out j x y (by omega) hx hy
          case measure => simp [intOf]; omega
    · have HQ : Hid (AscQ l) := Lib.hid (fun j x y hx hy => HY.out j x y (by
        rcases Nat.lt_or_ge (j + 1) l.length with h1 | h1
        · have := HL.out; omega
        · rw [List.getElem?_eq_none h1] at hy; cases hy) hx hy)
      go_wp2
      go_ret
      exact ⟨⟨true, rfl, Lib.hid ⟨fun _ => HQ.out, fun _ => rfl⟩⟩, hbe⟩


set_option maxHeartbeats 2000000 in
theorem implAscQ (A : Option Addr) (len cap : Nat) (l : List (Int × Int)) (w : World) (hr : AngRow w w.heap.size A l) (hl : l.length = len) (hm : len ≤ 1000000000000) (hA : allAng l = true) :
    Calls Try.prog 119 #[.slice A len cap, .func (Fn.func 90) #[] #[]] w (ResYesQ w (AscQ l)) := by
  have HR := Lib.hid hr
  have HL := Lib.hid hl
  have HA := Lib.hid hA
  clear hr hl hA
  go_enter Try.func119, Try.ntmps119
  go_wp2
  go_loopw [5] (fun i wr => ∃ k : Nat, 1 ≤ k ∧ (k ≤ len ∨ k = 1) ∧ i = .int .i64 k ∧ Hid (∀ (j : Nat) (x y : Int × Int), j + 1 < k → l[j]? = some x → l[j + 1]? = some y → lessA x y = true) ∧ Below w.heap.size w wr) (fun i _ => len - (intOf i).toNat)
  case atStart => exact ⟨1, by omega, by omega, rfl, Lib.hid (fun j x y h => absurd h (by omega)), Below.refl _ _⟩
  case round =>
    obtain ⟨k, hk1, hk, rfl, HY, hbe⟩ := hrel
    by_cases hlt : k < len
    · obtain ⟨q, hq⟩ : ∃ q : Nat, k = q + 1 := ⟨k - 1, by omega⟩
      have hk2 : ((k : Int) - 1) = (q : Int) := by omega
      have hw : IntKind.i64.wrap (q : Int) = (q : Int) := IntWalk.i64_in _ (by omega)
      have hql : q < len := by omega
      obtain ⟨⟨n, d⟩, hx⟩ : ∃ p, l[q]? = some p := ⟨_, List.getElem?_eq_getElem (by have := HL.out; omega)⟩
      obtain ⟨⟨m, c⟩, hy⟩ : ∃ p, l[k]? = some p := ⟨_, List.getElem?_eq_getElem (by have := HL.out; omega)⟩
      obtain ⟨b, off, rfl, hbb, hcells⟩ := HR.out (by rintro rfl; cases hx)
      obtain ⟨x0, x1⟩ := hcells q n d hx
      obtain ⟨y0, y1⟩ := hcells k m c hy
      have x0 := cellThru hbe hbb x0
      have x1 := cellThru hbe hbb x1
      have y0 := cellThru hbe hbb y0
      have y1 := cellThru hbe hbb y1
      have hp := allAng_mem HA.out (q := (n, d)) (List.mem_of_getElem? hx)
      have hp' := allAng_mem HA.out (q := (m, c)) (List.mem_of_getElem? hy)
      have HC := Lib.hid (fun w => cmpAng n d m c w (isAng_ok hp) (isAng_ok hp'))
      have HE : Hid (lessA (n, d) (m, c) = decide (cmpI (n * c) (m * d) < 0)) := Lib.hid (by
        show decide (n * c < m * d) = _
        rw [decide_eq_decide]
        constructor
        · exact fun h => cmpI_neg h
        · intro h
          rcases Int.lt_or_le (n * c) (m * d) with h1 | h1
          · exact h1
          · have := cmpI_nonneg (x := n * c) (y := m * d) (by omega)
            omega)
      have HX := Lib.hid hx
      have HZ := Lib.hid hy
      have HK := Lib.hid hq
      have hbw : b < wr.heap.size := Nat.lt_of_lt_of_le hbb hbe.size
      have hrg := cmpI_range (n * c) (m * d)
      clear hcells hx hy hp hp' hq
      generalize cmpI (n * c) (m * d) = R at *
      by_cases hR : R < 0
      · have HT : Hid (lessA (n, d) (m, c) = true) := Lib.hid (by rw [HE.out, decide_eq_true hR])
        go_wp2_with fail
        go_region_with (first | (go_at_call 90; (with_reducible refine (HC.out _).mono ?_); rintro e w1 ⟨rfl, hb1⟩))
        all_goals
          have hB : Below w.heap.size w w1 := belowNext hbe.drew hb1
          clear x0 x1 y0 y1 hb1 hbe
          go_wp2
          go_roundw
          case rel =>
            refine ⟨k + 1, by omega, by omega, by go_num, Lib.hid (fun j x y hj hx hy => ?_), hB⟩
            by_cases hjk : j + 1 = k
            · have hq := HK.out
              obtain rfl : q = j := by omega
              have p1 := HX.out
              have p2 := HZ.out
              rw [← hjk] at p2
              rw [p1] at hx
              rw [p2] at hy
              injection hx with hx
              injection hy with hy
              rw [← hx, ← hy]
              exact HT.out
            · exact HY.out j x y (by omega) hx hy
          case measure => simp [intOf]; omega
      · have HQ : Hid (¬ AscQ l) := Lib.hid (fun h => by
          have p := h q _ _ HX.out (by rw [← HK.out]; exact HZ.out)
          rw [HE.out, decide_eq_false hR] at p
          cases p)
        go_wp2_with fail
        go_region_with (first | (go_at_call 90; (with_reducible refine (HC.out _).mono ?_); rintro e w1 ⟨rfl, hb1⟩))
        all_goals
          have hB : Below w.heap.size w w1 := belowNext hbe.drew hb1
          clear x0 x1 y0 y1 hb1 hbe
          go_wp2
          go_ret
          exact ⟨⟨false, rfl, Lib.hid ⟨fun h => (by cases h), fun h => absurd h HQ.out⟩⟩, hB⟩
    · have HQ : Hid (AscQ l) := Lib.hid (fun j x y hx hy => HY.out j x y (by
        rcases Nat.lt_or_ge (j + 1) l.length with h1 | h1
        · have := HL.out; omega
        · rw [List.getElem?_eq_none h1] at hy; cases hy) hx hy)
      go_wp2
      go_ret
      exact ⟨⟨true, rfl, Lib.hid ⟨fun _ => HQ.out, fun _ => rfl⟩⟩, hbe⟩

end Go.Proofs.Ytlmgpecfbpcgaaa

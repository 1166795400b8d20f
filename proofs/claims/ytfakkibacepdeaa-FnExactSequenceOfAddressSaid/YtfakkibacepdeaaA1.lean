/-
  Contracts: what an address is, on both sides.
-/
import Derived.Test.YtfakkibacepdeaaW17
import Derived.Test.YtfakkibacepdeaaW5
namespace Go.Proofs.Ytfakkibacepdeaa
open Go.RowKit

/-- The first k numbers ascend. -/
def ascTo (l : List Int) (k : Nat) : Bool := (List.range k).all fun i => decide (i = 0) || decide (l.getD (i - 1) 0 < l.getD i 0)
theorem ascTo_succ (l : List Int) (k : Nat) : ascTo l (k + 1) = (ascTo l k && (decide (k = 0) || decide (l.getD (k - 1) 0 < l.getD k 0))) := by
  simp [ascTo, List.range_succ]
theorem ascTo_no {l : List Int} {m k : Nat} (hk : k < m) (h : (decide (k = 0) || decide (l.getD (k - 1) 0 < l.getD k 0)) = false) : ascTo l m = false := by
  unfold ascTo
  rw [Bool.eq_false_iff]
  intro ha
  rw [List.all_eq_true] at ha
  have := ha k (List.mem_range.2 hk)
  rw [h] at this; cases this
def isAddr (l : List Int) : Bool := decide (1 ≤ l.length) && (decide (l.length ≤ 20) && (decide (l.getD 0 0 = 1) && (decide (l.getD (l.length - 1) 0 ≤ 40) && ascTo l l.length)))
theorem row_at {w : World} {B : Nat} {A : Option Addr} {l : List Int} (h : IntRow w B A l) (hl : 0 < l.length) : ∃ b off, A = some ⟨b, off, none⟩ ∧ b < B ∧ ∀ i, i < l.length → w.cell? ⟨b, off + i, none⟩ = some (.int .i64 (l.getD i 0)) := by
  obtain ⟨b, off, e, hb, hc⟩ := h (by intro h; rw [h] at hl; simp at hl)
  exact ⟨b, off, e, hb, fun i hi => hc i _ (by rw [List.getD_eq_getElem?_getD, List.getElem?_eq_getElem hi]; rfl)⟩

set_option maxRecDepth 8000 in
set_option maxHeartbeats 2000000 in
theorem implAsc (A : Option Addr) (n cap : Nat) (l : List Int) (w : World) (hr : IntRow w w.heap.size A l) (hn : l.length = n) (h1 : 1 ≤ n) (hm : n ≤ 1048576) :
    Calls Try.prog 181 #[.slice A n cap, .func (Fn.func 168) #[] #[]] w fun e w' => e = .returned (.bool (ascTo l n)) ∧ Hid (∃ j, w' = w.drewN j) := by
  obtain ⟨b, off, rfl, hb, hc⟩ := row_at hr (by omega)
  rw [hn] at hc
  have HC := Lib.hid hc
  clear hc hr hn
  go_enter Try.func181, Try.ntmps181
  go_wp2
  go_loopw [5] (fun i wr => ∃ k : Nat, 1 ≤ k ∧ k ≤ n ∧ i = .int .i64 k ∧ Hid (ascTo l k = true ∧ ∃ j, wr = w.drewN j)) (fun i _ => n - (intOf i).toNat)
  case atStart => exact ⟨1, by omega, by omega, rfl, Lib.hid ⟨rfl, 0, rfl⟩⟩
  case round =>
    obtain ⟨k, hk1, hk2, rfl, H⟩ := hrel
    obtain ⟨j, hj⟩ := H.out.2
    subst hj
    by_cases hlt : k < n
    · obtain ⟨q, hq⟩ : ∃ q : Nat, k = q + 1 := ⟨k - 1, by omega⟩
      have hq2 : ((k : Int) - 1) = (q : Int) := by omega
      have hw : IntKind.i64.wrap (q : Int) = (q : Int) := IntWalk.i64_in _ (by omega)
      have hql : q < n := by omega
      have hqk : k - 1 = q := by omega
      have e0 := HC.out k hlt
      have e1 := HC.out q hql
      have kz : decide (k = 0) = false := decide_eq_false (by omega)
      have HX := Lib.hid (fun w => cmpInt (l.getD q 0) (l.getD k 0) w)
      have HK := Lib.hid hq
      by_cases ha : l.getD q 0 < l.getD k 0
      · have HA : Hid (ascTo l (k + 1) = true) := Lib.hid (by rw [ascTo_succ, H.out.1, kz, hqk, decide_eq_true ha]; rfl)
        have hR : cmpI (l.getD q 0) (l.getD k 0) < 0 := by have := cmpI_neg ha; omega
        generalize cmpI (l.getD q 0) (l.getD k 0) = R at *
        generalize l.getD k 0 = p at *
        generalize l.getD q 0 = u at *
        clear ha hq hqk
        go_wp2_with fail
        go_region_with (first | (go_at_call 168; (with_reducible refine (HX.out _).mono ?_); rintro e w1 ⟨rfl, rfl⟩))
        all_goals
          go_wp2
          go_roundw
          case rel => exact ⟨k + 1, by omega, by omega, by go_num, Lib.hid ⟨HA.out, _, rfl⟩⟩
          case measure => simp [intOf]; omega
      · have HA : Hid (ascTo l n = false) := Lib.hid (ascTo_no hlt (by rw [kz, hqk, decide_eq_false ha]; rfl))
        have hR : ¬ (cmpI (l.getD q 0) (l.getD k 0) < 0) := by have := cmpI_nonneg ha; omega
        have hR2 : cmpI (l.getD q 0) (l.getD k 0) ≥ 0 := by omega
        generalize cmpI (l.getD q 0) (l.getD k 0) = R at *
        generalize l.getD k 0 = p at *
        generalize l.getD q 0 = u at *
        clear ha hq hqk
        go_wp2_with fail
        go_region_with (first | (go_at_call 168; (with_reducible refine (HX.out _).mono ?_); rintro e w1 ⟨rfl, rfl⟩))
        all_goals
          go_wp2
          go_ret
          exact ⟨by rw [HA.out]; rfl, Lib.hid ⟨_, by first | rfl | exact World.drewN_drewN ..⟩⟩
    · obtain rfl : k = n := by omega
      go_wp2
      go_ret
      exact ⟨by rw [H.out.1]; rfl, Lib.hid ⟨_, rfl⟩⟩

set_option maxHeartbeats 2000000 in
theorem implAddr (A : Option Addr) (cap : Nat) (l : List Int) (w : World) (hr : IntRow w w.heap.size A l) (hm : l.length ≤ 1048576) :
    Calls Try.prog 129 #[.slice A l.length cap] w fun e w' => e = .returned (.bool (isAddr l)) ∧ Hid (∃ n, w' = w.drewN n) := by
  obtain ⟨n, hn⟩ : ∃ n, l.length = n := ⟨_, rfl⟩
  have HD : Hid (isAddr l = (decide (1 ≤ n) && (decide (n ≤ 20) && (decide (l.getD 0 0 = 1) && (decide (l.getD (n - 1) 0 ≤ 40) && ascTo l n))))) := Lib.hid (by unfold isAddr; rw [hn])
  by_cases h1 : 1 ≤ n
  · obtain ⟨b, off, rfl, hb, hc⟩ := row_at hr (by omega)
    rw [hn] at hc hm ⊢
    have d1 : decide ((n : Int) < 1) = false := decide_eq_false (by omega)
    have HC := Lib.hid hc
    by_cases h2 : n ≤ 20
    · have d2 : decide ((20 : Int) < (n : Int)) = false := decide_eq_false (by omega)
      have c0 : w.cell? ⟨b, off, none⟩ = some (.int .i64 (l.getD 0 0)) := by simpa using hc 0 (by omega)
      have c1 := hc (n - 1) (by omega)
      have w1 : IntKind.i64.wrap ((n : Int) - 1) = (n : Int) - 1 := IntWalk.i64_in _ (by omega)
      by_cases h3 : l.getD 0 0 = 1
      · rw [h3] at c0
        by_cases h4 : l.getD (n - 1) 0 ≤ 40
        · have HE : Hid (isAddr l = ascTo l n) := Lib.hid (by rw [HD.out, decide_eq_true h1, decide_eq_true h2, decide_eq_true h3, decide_eq_true h4]; simp)
          have d4 : decide ((40 : Int) < l.getD (n - 1) 0) = false := decide_eq_false (by omega)
          rw [HE.out]
          have HS := Lib.hid (fun (W : World) (j : Nat) (hW : W = w.drewN j) => implAsc (some ⟨b, off, none⟩) n cap l W (by subst hW; exact hr) hn h1 hm)
          generalize l.getD (n - 1) 0 = v at *
          clear HD HE h3 h4 hc hr
          go_enter Try.func129, Try.ntmps129
          go_wp2_with fail
          refine (HS.out _ 0 rfl).mono ?_
          rintro e w1 ⟨rfl, hw1⟩
          obtain ⟨j, rfl⟩ := hw1.out
          go_wp2
          go_ret
          exact ⟨rfl, Lib.hid ⟨_, rfl⟩⟩
        · have HE : Hid (isAddr l = false) := Lib.hid (by rw [HD.out, decide_eq_false h4]; simp)
          have d4 : decide ((40 : Int) < l.getD (n - 1) 0) = true := decide_eq_true (by omega)
          rw [HE.out]
          generalize l.getD (n - 1) 0 = v at *
          clear HD HE h3 h4 hc hr
          go_enter Try.func129, Try.ntmps129
          go_wp2
          go_ret
          exact ⟨rfl, Lib.hid ⟨0, rfl⟩⟩
      · have HE : Hid (isAddr l = false) := Lib.hid (by rw [HD.out, decide_eq_false h3]; simp)
        rw [HE.out]
        generalize l.getD 0 0 = u at *
        have u1 : (u == 1) = false := beq_eq_false_iff_ne.2 h3
        have u2 : (u != 1) = true := by simpa using h3
        have u3 : (u = 1) = False := eq_false h3
        clear HD HE hc hr c1
        go_enter Try.func129, Try.ntmps129
        go_wp2
        go_ret
        exact ⟨rfl, Lib.hid ⟨0, rfl⟩⟩
    · have HE : Hid (isAddr l = false) := Lib.hid (by rw [HD.out, decide_eq_false h2]; simp)
      have d2 : decide ((20 : Int) < (n : Int)) = true := decide_eq_true (by omega)
      rw [HE.out]
      clear HD HE hc hr
      go_enter Try.func129, Try.ntmps129
      go_wp2
      go_ret
      exact ⟨rfl, Lib.hid ⟨0, rfl⟩⟩
  · have HE : Hid (isAddr l = false) := Lib.hid (by rw [HD.out, decide_eq_false h1]; simp)
    have d1 : decide ((n : Int) < 1) = true := decide_eq_true (by omega)
    rw [HE.out, hn]
    clear HD HE hr
    go_enter Try.func129, Try.ntmps129
    go_wp2
    go_ret
    exact ⟨rfl, Lib.hid ⟨0, rfl⟩⟩

set_option maxHeartbeats 2000000 in
theorem specAddr (A : Option Addr) (cap : Nat) (l : List Int) (w : World) (hr : IntRow w w.heap.size A l) (hm : l.length ≤ 1048576) :
    Calls Try.prog 127 #[.slice A l.length cap] w fun e w' => e = .returned (.bool (isAddr l)) ∧ Hid (∃ n, w' = w.drewN n) := by
  obtain ⟨n, hn⟩ : ∃ n, l.length = n := ⟨_, rfl⟩
  have HD : Hid (isAddr l = (decide (1 ≤ n) && (decide (n ≤ 20) && (decide (l.getD 0 0 = 1) && (decide (l.getD (n - 1) 0 ≤ 40) && ascTo l n))))) := Lib.hid (by unfold isAddr; rw [hn])
  by_cases h1 : 1 ≤ n
  · obtain ⟨b, off, rfl, hb, hc⟩ := row_at hr (by omega)
    rw [hn] at hc hm ⊢
    have d1 : decide ((n : Int) < 1) = false := decide_eq_false (by omega)
    have HC := Lib.hid hc
    by_cases h2 : n ≤ 20
    · have d2 : decide ((20 : Int) < (n : Int)) = false := decide_eq_false (by omega)
      have c0 : w.cell? ⟨b, off, none⟩ = some (.int .i64 (l.getD 0 0)) := by simpa using hc 0 (by omega)
      have c1 := hc (n - 1) (by omega)
      have w1 : IntKind.i64.wrap ((n : Int) - 1) = (n : Int) - 1 := IntWalk.i64_in _ (by omega)
      by_cases h3 : l.getD 0 0 = 1
      · rw [h3] at c0
        have HE : Hid (isAddr l = (decide (l.getD (n - 1) 0 ≤ 40) && ascTo l n)) := Lib.hid (by rw [HD.out, decide_eq_true h1, decide_eq_true h2, decide_eq_true h3]; simp)
        have HNo : Hid (ascTo l n = false → isAddr l = false) := Lib.hid (fun h => by rw [HE.out, h, Bool.and_false])
        have HYes : Hid (ascTo l n = true → isAddr l = decide (l.getD (n - 1) 0 ≤ 40)) := Lib.hid (fun h => by rw [HE.out, h, Bool.and_true])
        generalize l.getD (n - 1) 0 = v at *
        clear HD HE h3 hc hr
        go_enter Try.func127, Try.ntmps127
        go_wp2
        go_loopw [3] (fun i wr => ∃ k : Nat, 1 ≤ k ∧ k ≤ n ∧ i = .int .i64 k ∧ Hid (ascTo l k = true ∧ ∃ j, wr = w.drewN j)) (fun i _ => n - (intOf i).toNat)
        case atStart => exact ⟨1, by omega, by omega, rfl, Lib.hid ⟨rfl, 0, rfl⟩⟩
        case round =>
          obtain ⟨k, hk1, hk2, rfl, H⟩ := hrel
          obtain ⟨j, hj⟩ := H.out.2
          subst hj
          by_cases hlt : k < n
          · have e0 := HC.out k hlt
            have e1 := HC.out (k - 1) (by omega)
            have wk : IntKind.i64.wrap ((k : Int) - 1) = (k : Int) - 1 := IntWalk.i64_in _ (by omega)
            have kz : decide (k = 0) = false := decide_eq_false (by omega)
            by_cases ha : l.getD (k - 1) 0 < l.getD k 0
            · have HA : Hid (ascTo l (k + 1) = true) := Lib.hid (by rw [ascTo_succ, H.out.1, kz, decide_eq_true ha]; rfl)
              have d5 : decide (l.getD k 0 ≤ l.getD (k - 1) 0) = false := decide_eq_false (by omega)
              generalize l.getD k 0 = p at *
              generalize l.getD (k - 1) 0 = q at *
              clear ha
              go_wp2_with fail
              go_quiet (fail)
              go_wp2
              go_roundw
              case rel => exact ⟨k + 1, by omega, by omega, by go_num, Lib.hid ⟨HA.out, _, rfl⟩⟩
              case measure => simp [intOf]; omega
            · have HA : Hid (ascTo l n = false) := Lib.hid (ascTo_no hlt (by rw [kz, decide_eq_false ha]; rfl))
              have d5 : decide (l.getD k 0 ≤ l.getD (k - 1) 0) = true := decide_eq_true (by omega)
              generalize l.getD k 0 = p at *
              generalize l.getD (k - 1) 0 = q at *
              clear ha
              go_wp2_with fail
              go_quiet (fail)
              go_wp2
              go_ret
              exact ⟨by rw [HNo.out HA.out]; rfl, Lib.hid ⟨_, by rw [World.drewN_drewN]⟩⟩
          · obtain rfl : k = n := by omega
            have HY2 := Lib.hid (HYes.out H.out.1)
            go_wp2
            go_ret
            exact ⟨by rw [HY2.out]; rfl, Lib.hid ⟨_, rfl⟩⟩
      · have HE : Hid (isAddr l = false) := Lib.hid (by rw [HD.out, decide_eq_false h3]; simp)
        rw [HE.out]
        generalize l.getD 0 0 = u at *
        have u1 : (u == 1) = false := beq_eq_false_iff_ne.2 h3
        have u2 : (u != 1) = true := by simpa using h3
        have u3 : (u = 1) = False := eq_false h3
        clear HD HE hc hr c1
        go_enter Try.func127, Try.ntmps127
        go_wp2
        go_ret
        exact ⟨rfl, Lib.hid ⟨0, rfl⟩⟩
    · have HE : Hid (isAddr l = false) := Lib.hid (by rw [HD.out, decide_eq_false h2]; simp)
      have d2 : decide ((20 : Int) < (n : Int)) = true := decide_eq_true (by omega)
      rw [HE.out]
      clear HD HE hc hr
      go_enter Try.func127, Try.ntmps127
      go_wp2
      go_ret
      exact ⟨rfl, Lib.hid ⟨0, rfl⟩⟩
  · have HE : Hid (isAddr l = false) := Lib.hid (by rw [HD.out, decide_eq_false h1]; simp)
    have d1 : decide ((n : Int) < 1) = true := decide_eq_true (by omega)
    rw [HE.out, hn]
    clear HD HE hr
    go_enter Try.func127, Try.ntmps127
    go_wp2
    go_ret
    exact ⟨rfl, Lib.hid ⟨0, rfl⟩⟩
end Go.Proofs.Ytfakkibacepdeaa

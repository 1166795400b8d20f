/-
  Contracts: IsStarPeriodic, the specification's; both sides; the walk of its law.
-/
import Derived.Test.YtomcmjnhfloeeaaDoorD9
namespace Go.Proofs.YtomcmjnhfloeeaaDoor
open Go.RowKit

theorem num_is {c k : UInt8} (h : (c == k) = true) : (c.toNat : Int) = (k.toNat : Int) := by rw [eq_of_beq h]
theorem num_not {c k : UInt8} (h : (c == k) = false) : ((c.toNat : Int) == (k.toNat : Int)) = false := by rw [byte_eq]; exact h

set_option maxHeartbeats 2000000 in
theorem specStar (x y : Wd) (w : World) (hy : 0 < y.length) (hxy : x.length + y.length ≤ 64) :
    Calls Tryd.prog 48 #[sqV x y] w fun e w' => e = .returned (.bool (starQ x y)) ∧ Below w.heap.size w w' := by
  have hlen := fun W => lenS 9 3 y Tryd.underlying9 W
  obtain ⟨x1, x2, x3, x4⟩ := emp_facts x
  have hx : decide (x.length = 0) = !decide (0 < x.length) := by
    by_cases h : x.length = 0
    · rw [decide_eq_true h, decide_eq_false (show ¬ 0 < x.length by omega)]; rfl
    · rw [decide_eq_false h, decide_eq_true (show 0 < x.length by omega)]; rfl
  have hS : starQ x y = (!decide (0 < x.length) && ((y.getD (y.length - 1) 0 == 42) && (!(decide (1 < y.length) && !(y.getD 0 0 == 49)) && !starIn y (y.length - 1)))) := by
    unfold starQ; rw [hx]
  have i1 := fun W => idxS y (y.length - 1) ((y.length : Int) - 1) (by omega) (by omega) W
  have i2 := fun W => idxS y 0 0 hy rfl W
  have HI : Hid (∀ k, k < y.length → ∀ W, (Instr.index 9 (.string (bs y)) (.int .i64 (k : Int))).run Tryd.prog W = .ok (.int .u8 ((y.getD k 0).toNat : Int)) W) := Lib.hid (fun k hk W => idxS y k (k : Int) hk rfl W)
  have wn : IntKind.i64.wrap ((y.length : Int) - 1) = (y.length : Int) - 1 := IntWalk.i64_in _ (by omega)
  have HN : Hid (∀ k, (y.getD k 0 == 42) = true → k < y.length - 1 → starIn y (y.length - 1) = true) := Lib.hid (fun k h hk => starIn_yes hk h)
  obtain ⟨n, hn⟩ : ∃ n, y.length = n := ⟨_, rfl⟩
  rw [hn] at hlen i1 wn hS HN HI hy hxy
  clear hn
  cases h0 : decide (0 < x.length)
  · rw [h0] at x2 x3 x4 hS
    cases h1 : (y.getD (n - 1) 0 == 42)
    · have v1 := num_not h1
      rw [h1] at hS
      rw [hS]
      generalize ((y.getD (n - 1) 0).toNat : Int) = v at *
      have v1' : (v == 42) = false := v1
      have v2 : (v != 42) = true := by simpa using v1'
      have v3 : (v = 42) = False := by simpa using v1'
      clear hS hx h0 h1 HI HN i2 v1
      go_enter Tryd.func48, Tryd.ntmps48
      go_wp2
      go_ret
      refine ⟨rfl, ?_⟩
      (repeat' (first | (with_reducible exact Below.refl _ _) | (with_reducible assumption) | (with_reducible refine belowNext ?_ (by with_reducible assumption)) | (with_reducible refine belowAlloc ?_ _) | (with_reducible refine Below.drew ?_) | (with_reducible refine below_drewN ?_ _) | (with_reducible refine Below.setCell ?_ ?_ _) | go_size | (with_reducible refine sizeOf' ?_) | (with_reducible refine sizeAdd ?_) | (dsimp only; first | (with_reducible refine sizeOf' ?_) | (with_reducible refine sizeAdd ?_))))
    · have v1 : ((y.getD (n - 1) 0).toNat : Int) = 42 := num_is h1
      simp only [v1] at i1
      rw [h1] at hS
      by_cases h2 : 1 < n ∧ (y.getD 0 0 == 49) = false
      · have d1 : decide ((1 : Int) < (n : Int)) = true := decide_eq_true (by omega)
        have u1 := num_not h2.2
        rw [h2.2, decide_eq_true h2.1] at hS
        rw [hS]
        generalize ((y.getD 0 0).toNat : Int) = u at *
        have u1' : (u == 49) = false := u1
        have u2 : (u != 49) = true := by simpa using u1'
        have u3 : (u = 49) = False := by simpa using u1'
        clear hS hx h0 h1 h2 HI HN u1 v1
        go_enter Tryd.func48, Tryd.ntmps48
        go_wp2
        go_ret
        refine ⟨rfl, ?_⟩
        (repeat' (first | (with_reducible exact Below.refl _ _) | (with_reducible assumption) | (with_reducible refine belowNext ?_ (by with_reducible assumption)) | (with_reducible refine belowAlloc ?_ _) | (with_reducible refine Below.drew ?_) | (with_reducible refine below_drewN ?_ _) | (with_reducible refine Below.setCell ?_ ?_ _) | go_size | (with_reducible refine sizeOf' ?_) | (with_reducible refine sizeAdd ?_) | (dsimp only; first | (with_reducible refine sizeOf' ?_) | (with_reducible refine sizeAdd ?_))))
      · have hS2 : starQ x y = !starIn y (n - 1) := by
          rw [hS]
          by_cases h3 : 1 < n
          · have h4 : (y.getD 0 0 == 49) = true := by
              cases e : (y.getD 0 0 == 49)
              · exact absurd ⟨h3, e⟩ h2
              · rfl
            rw [h4, decide_eq_true h3]; simp
          · rw [decide_eq_false h3]; simp
        have hc : (decide ((1 : Int) < (n : Int)) = false) ∨ (decide ((1 : Int) < (n : Int)) = true ∧ ((y.getD 0 0).toNat : Int) = 49) := by
          by_cases h3 : 1 < n
          · refine .inr ⟨decide_eq_true (by omega), ?_⟩
            cases e : (y.getD 0 0 == 49)
            · exact absurd ⟨h3, e⟩ h2
            · exact num_is e
          · exact .inl (decide_eq_false (by omega))
        rw [hS2]
        clear hS hS2 hx h0 h1 h2 v1
        rcases hc with d1 | ⟨d1, u1⟩
        all_goals
          first | (simp only [u1] at i2) | skip
          go_enter Tryd.func48, Tryd.ntmps48
          go_wp2
          go_loop [4] (fun i => ∃ k : Nat, k ≤ n - 1 ∧ i = .int .i64 k ∧ Hid (starIn y k = false)) (fun i => n - (intOf i).toNat)
          case atStart => exact ⟨0, by omega, rfl, Lib.hid rfl⟩
          case round =>
            obtain ⟨k, hk, rfl, H⟩ := hrel
            by_cases hlt : k < n - 1
            · have d2 : decide ((k : Int) < (n : Int) - 1) = true := decide_eq_true (by omega)
              have i3 := HI.out k (by omega)
              cases e : (y.getD k 0 == 42)
              · have z1 := num_not e
                have HK : Hid (starIn y (k + 1) = false) := Lib.hid (by rw [starIn_succ, H.out, e]; rfl)
                generalize ((y.getD k 0).toNat : Int) = z at *
                have z1' : (z == 42) = false := z1
                have z3 : (z = 42) = False := by simpa using z1'
                clear e z1
                go_wp2
                go_round
                case rel => exact ⟨k + 1, by omega, by go_num, HK⟩
                case measure => simp [intOf]; omega
              · have z1 : ((y.getD k 0).toNat : Int) = 42 := num_is e
                simp only [z1] at i3
                have HK : Hid (starIn y (n - 1) = true) := Lib.hid (HN.out k e hlt)
                clear e z1
                go_wp2
                go_ret
                refine ⟨by rw [HK.out]; rfl, ?_⟩
                (repeat' (first | (with_reducible exact Below.refl _ _) | (with_reducible assumption) | (with_reducible refine belowNext ?_ (by with_reducible assumption)) | (with_reducible refine belowAlloc ?_ _) | (with_reducible refine Below.drew ?_) | (with_reducible refine below_drewN ?_ _) | (with_reducible refine Below.setCell ?_ ?_ _) | go_size | (with_reducible refine sizeOf' ?_) | (with_reducible refine sizeAdd ?_) | (dsimp only; first | (with_reducible refine sizeOf' ?_) | (with_reducible refine sizeAdd ?_))))
            · obtain rfl : k = n - 1 := by omega
              have d2 : decide (((n - 1 : Nat) : Int) < (n : Int) - 1) = false := decide_eq_false (by omega)
              go_wp2
              go_ret
              refine ⟨by rw [H.out]; rfl, ?_⟩
              (repeat' (first | (with_reducible exact Below.refl _ _) | (with_reducible assumption) | (with_reducible refine belowNext ?_ (by with_reducible assumption)) | (with_reducible refine belowAlloc ?_ _) | (with_reducible refine Below.drew ?_) | (with_reducible refine below_drewN ?_ _) | (with_reducible refine Below.setCell ?_ ?_ _) | go_size | (with_reducible refine sizeOf' ?_) | (with_reducible refine sizeAdd ?_) | (dsimp only; first | (with_reducible refine sizeOf' ?_) | (with_reducible refine sizeAdd ?_))))
  · rw [h0] at x2 x3 x4 hS
    rw [hS]
    clear hS hx h0 HI HN i1 i2
    go_enter Tryd.func48, Tryd.ntmps48
    go_wp2
    go_ret
    refine ⟨rfl, ?_⟩
    (repeat' (first | (with_reducible exact Below.refl _ _) | (with_reducible assumption) | (with_reducible refine belowNext ?_ (by with_reducible assumption)) | (with_reducible refine belowAlloc ?_ _) | (with_reducible refine Below.drew ?_) | (with_reducible refine below_drewN ?_ _) | (with_reducible refine Below.setCell ?_ ?_ _) | go_size | (with_reducible refine sizeOf' ?_) | (with_reducible refine sizeAdd ?_) | (dsimp only; first | (with_reducible refine sizeOf' ?_) | (with_reducible refine sizeAdd ?_))))
end Go.Proofs.YtomcmjnhfloeeaaDoor

/-
  Contracts: RotationSet, on the program's side.
-/
import Derived.Test.YtlmgpecfbpcgaaaP2
namespace Go.Proofs.Ytlmgpecfbpcgaaa
open Go.RowKit

theorem ownSuccP {W : World} {e : TypeId} {size : Nat} {v : Value} {n : Nat} {xs : List Value} {lo : Nat} (h : W.ownsRow lo e size v (n + 1) xs) : ∃ g c, v = .slice (some ⟨g, 0, none⟩) (n + 1) c := by
  obtain ⟨g, c, hv, _⟩ := h.form (by omega)
  exact ⟨g, c, hv⟩
theorem rot_flat (q v k : Nat) : flatA [rotA q v k] = [.int .i64 (redN (rDg q v k v : Nat) (2 ^ v - 1 : Nat)), .int .i64 (redD (rDg q v k v : Nat) (2 ^ v - 1 : Nat))] := rfl
theorem shlP {v : Nat} (h2 : 2 ≤ v) (h : v ≤ 13) : ∃ (E1 : Nat) (DD : Int), 2 ^ v - 1 = E1 ∧ wrap64 ((2 : Int) ^ v) = DD ∧ DD - 1 = (E1 : Int) ∧ 3 ≤ E1 ∧ E1 ≤ 8191 := by
  have p1 : 2 ^ v ≤ 2 ^ 13 := Nat.pow_le_pow_right (by omega) h
  have p2 : 2 ^ 2 ≤ 2 ^ v := Nat.pow_le_pow_right (by omega) h2
  have p3 : 2 ^ 13 = 8192 := by decide
  refine ⟨2 ^ v - 1, ((2 ^ v - 1 + 1 : Nat) : Int), rfl, ?_, by omega, by omega, by omega⟩
  rw [show (2 : Int) ^ v = ((2 ^ v : Nat) : Int) from by rw [Int.natCast_pow]; rfl, show 2 ^ v - 1 + 1 = 2 ^ v by omega]
  generalize 2 ^ v = E at *
  exact IntWalk.wrap64_in _ (by omega)

set_option maxRecDepth 100000 in
set_option maxHeartbeats 2000000 in
theorem implRotSet (q v : Int) (w : World) (R : List (Int × Int)) (C : Int) (h : RoIs q v R C) :
    Calls Try.prog 36 #[.int .i64 q, .int .i64 v] w (ResAng w R C) := by
  obtain ⟨i0, hi, hz0, hz1, hz2⟩ := infoAg_parts infoAg
  rcases h with ⟨a, b, rfl, rfl, h2, h13, h1, hq, hg, rfl, rfl⟩ | ⟨h, rfl, rfl⟩
  · have HG := Lib.hid (fun w => implGcd a b w (by omega) (by omega) (by omega) (by omega))
    rw [hg] at HG
    clear hg
    have n1 : ¬ ((b : Int) < 2) := by omega
    have n2 : ¬ ((13 : Int) < (b : Int)) := by omega
    have n3 : ¬ ((a : Int) < 1) := by omega
    have n4 : ¬ ((b : Int) ≤ (a : Int)) := by omega
    have hbn : ¬ (b : Int) = 0 := by omega
    go_enter Try.func36, Try.ntmps36
    go_wp2_with fail
    refine (HG.out _).mono ?_
    rintro e w1 ⟨rfl, nq, rfl⟩
    have HB0 : Hid (Below w.heap.size w (w.drewN nq)) := Lib.hid (by (repeat' (first | (with_reducible exact Below.refl _ _) | (with_reducible assumption) | (with_reducible refine belowNext ?_ (by with_reducible assumption)) | (with_reducible refine belowAlloc ?_ _) | (with_reducible refine Below.drew ?_) | (with_reducible refine below_drewN ?_ _) | (with_reducible refine Below.setCell ?_ ?_ _) | go_size | (with_reducible refine sizeOf' ?_) | (with_reducible refine sizeAdd ?_) | (dsimp only; first | (with_reducible refine sizeOf' ?_) | (with_reducible refine sizeAdd ?_)))))
    have hsz : (w.drewN nq).heap.size = w.heap.size := rfl
    generalize w.drewN nq = wc at *
    go_wp2
    go_loopg [6, 7, 8, 9, 32] b (fun g s6 _ _ _ s32 wr => ∃ (k : Nat) (A : Option Addr) (cap : Nat), k + g = b ∧ s32 = .int .i64 k ∧ s6 = .slice A k cap ∧ Hid (wr.ownsRow w.heap.size 24 2 (.slice A k cap) k (flatA ((rotL a b).take k))) ∧ Hid (Below w.heap.size w wr))
    case atStart => exact ⟨0, none, 0, by omega, rfl, rfl, Lib.hid (World.ownsRow_nil _ _ _ _), HB0⟩
    case round =>
      clear HB0
      obtain ⟨k, A, cap, hkg, rfl, rfl, HW, HB⟩ := hrel
      cases gk with
      | zero =>
        obtain rfl : k = b := by omega
        have e2 : (rotL a k).take k = rotL a k := by rw [List.take_of_length_le]; rw [rotL_len]; exact Nat.le_refl _
        rw [e2] at HW
        have HW2 := Lib.hid (ownA_of (rotL_len a k) HW.out)
        have hl := rotL_len a k
        clear HW e2
        go_wp2
        go_ret2
        exact ⟨A, cap, by rw [rotL_len]; rfl, HW2.out, HB.out⟩
      | succ g =>
        have hlt : k < b := by omega
        have HQ := Lib.hid (rot_at (q := a) hlt)
        go_wp2
        go_loopg [8, 9, 36] b (fun g2 s8 _ s36 wx => ∃ i : Nat, i + g2 = b ∧ s8 = .int .i64 (rDg a b k i : Nat) ∧ s36 = .int .i64 i ∧ wx = wr)
        case atStart => exact ⟨0, by omega, rfl, rfl, rfl⟩
        case round =>
          obtain ⟨i, hig, rfl, rfl, rfl⟩ := hrel
          obtain ⟨hd, hp⟩ := rDg_le (q := a) (v := b) (k := k) (i := i) (by omega)
          cases gk with
          | zero =>
            obtain rfl : i = b := by omega
            obtain ⟨E1, DD, hE1, hs0, hD1, hE3, hE8⟩ := shlP h2 h13
            have HSH := Lib.hid hs0
            have HD1 := Lib.hid hD1
            clear hs0 hD1
            have HR := Lib.hid (fun W => implRed (rDg a i k i : Nat) (E1 : Nat) W (by omega) (by omega) (by omega) (by omega))
            have HE : Hid (flatA ((rotL a i).take k) ++ [.int .i64 (redN (rDg a i k i : Nat) (E1 : Nat)), .int .i64 (redD (rDg a i k i : Nat) (E1 : Nat))] = flatA ((rotL a i).take (k + 1))) := Lib.hid (by
              rw [List.take_add_one, HQ.out, Option.toList_some, flatA_app, rot_flat, hE1])
            generalize redN (rDg a i k i : Nat) (E1 : Nat) = X at *
            generalize redD (rDg a i k i : Nat) (E1 : Nat) = Y at *
            generalize rDg a i k i = D at *
            have hw : IntKind.i64.wrap (DD - 1) = (E1 : Int) := by rw [HD1.out]; exact IntWalk.i64_in _ (by omega)
            have hw2 : wrap64 (DD - 1) = (E1 : Int) := by rw [HD1.out]; exact IntWalk.wrap64_in _ (by omega)
            have HW1 := Lib.hid (fun W (hB : Below wr.heap.size wr W) => ownKeepA HW.out hB)
            have hs := HSH.out
            have HKG := Lib.hid hkg
            clear hE1 HW HQ hp hkg hig HD1 HSH
            go_wp2_with fail
            refine (HR.out _).mono ?_
            rintro e w2 ⟨rfl, hb2⟩
            have B02 : Below wr.heap.size wr w2 := by
              (repeat' (first | (with_reducible exact Below.refl _ _) | (with_reducible assumption) | (with_reducible refine belowNext ?_ (by with_reducible assumption)) | (with_reducible refine belowAlloc ?_ _) | (with_reducible refine Below.drew ?_) | (with_reducible refine below_drewN ?_ _) | (with_reducible refine Below.setCell ?_ ?_ _) | go_size | (with_reducible refine sizeOf' ?_) | (with_reducible refine sizeAdd ?_) | (dsimp only; first | (with_reducible refine sizeOf' ?_) | (with_reducible refine sizeAdd ?_))))
            have B2 := belowNext HB.out B02
            have HO2 := Lib.hid (HW1.out _ B02)
            clear hb2 HW1
            go_wp2_with (at_builtin; refine wpList_append_own _ rfl _ _ 55 rfl w.heap.size 24 i0 (.agg #[.int .i64 0, .int .i64 0]) 2 16 Try.underlying55 hi hz0 hz1 hz2 rfl (by decide) _ _ _ rfl (World.ownsRow.alloc (w := w2) HO2.out _) ⟨w2.heap.size, 0, none⟩ 1 1 [.int .i64 X, .int .i64 Y] rfl rfl ?c1 ?c2 ?c3 ?c4 ?c5 ?_)
            case c1 => exact cell_two_new _ _ _ _
            case c2 => intro u hu; simp at hu; rcases hu with rfl | rfl <;> rfl
            case c3 => unfold maxLen; omega
            case c4 => omega
            case c5 => have := B2.size; simp; omega
            intro v' w3 hown' hgrow _
            rw [HE.out] at hown'
            obtain ⟨gn, capn, rfl⟩ := ownSuccP hown'
            have B3 : Below w.heap.size w w3 := by
              have hb0 : Below w.heap.size w (w2.alloc (.cells #[.int .i64 X, .int .i64 Y] 24)) := belowAlloc B2 _
              refine hb0.grown hgrow hb0.size (fun r e => ?_)
              rcases HO2.out.2 with ⟨hv, _⟩ | ⟨g0, c0, cur, hv, hv2, _⟩
              · rw [hv] at e; simp [Value.ownBlock] at e
              · rw [hv] at e; simp [Value.ownBlock] at e; omega
            have HO3 := Lib.hid hown'
            have HB3 := Lib.hid B3
            clear hown' hgrow HO2 B3 B2 B02 HB HE
            go_wp2
            go_roundg g
            case measure => omega
            case rel => exact ⟨k + 1, _, _, by have := HKG.out; omega, by go_num, rfl, HO3, HB3⟩
          | succ g2 =>
            obtain ⟨M, hM, hm1, hm2, hMv, p0, p1⟩ := rot_mod hq h13 hlt (show i < b by omega)
            have HD : Hid (rDg a b k (i + 1) = 2 * rDg a b k i + (if b - a ≤ M then 1 else 0)) := Lib.hid (by rw [← hM]; rfl)
            generalize rDg a b k i = D at *
            clear hM
            by_cases hc : b - a ≤ M
            · have d1 : decide ((M : Int) ≥ (b : Int) - (a : Int)) = true := decide_eq_true (by omega)
              have d2 : (b : Int) - (a : Int) ≤ (M : Int) := by omega
              rw [if_pos hc] at HD
              go_wp2
              go_roundg g2
              case measure => omega
              case rel => exact ⟨i + 1, by omega, by rw [HD.out]; go_num, by go_num, rfl⟩
            · have d1 : decide ((M : Int) ≥ (b : Int) - (a : Int)) = false := decide_eq_false (by omega)
              have d2 : ¬ ((b : Int) - (a : Int) ≤ (M : Int)) := by omega
              rw [if_neg hc] at HD
              go_wp2
              go_roundg g2
              case measure => omega
              case rel => exact ⟨i + 1, by omega, by rw [HD.out]; go_num, by go_num, rfl⟩
  · have hcase : v < 2 ∨ (¬ v < 2 ∧ 13 < v) ∨ (¬ v < 2 ∧ ¬ 13 < v ∧ q < 1) ∨ (¬ v < 2 ∧ ¬ 13 < v ∧ ¬ q < 1 ∧ v ≤ q) ∨ (¬ v < 2 ∧ ¬ 13 < v ∧ ¬ q < 1 ∧ ¬ v ≤ q ∧ gcdI q v ≠ 1) := by
      rcases h with h | h | h | h | h <;> omega
    clear h
    rcases hcase with h1 | ⟨h1, h2⟩ | ⟨h1, h2, h3⟩ | ⟨h1, h2, h3, h4⟩ | ⟨h1, h2, h3, h4, h5⟩
    · go_enter Try.func36, Try.ntmps36
      go_wp2
      go_ret2
      exact ⟨none, 0, rfl, own_nil, Below.refl _ _⟩
    · go_enter Try.func36, Try.ntmps36
      go_wp2
      go_ret2
      exact ⟨none, 0, rfl, own_nil, Below.refl _ _⟩
    · go_enter Try.func36, Try.ntmps36
      go_wp2
      go_ret2
      exact ⟨none, 0, rfl, own_nil, Below.refl _ _⟩
    · go_enter Try.func36, Try.ntmps36
      go_wp2
      go_ret2
      exact ⟨none, 0, rfl, own_nil, Below.refl _ _⟩
    · have HG := Lib.hid (fun w => implGcd q v w (by omega) (by omega) (by omega) (by omega))
      generalize gcdI q v = G at *
      have hG : (G == 1) = false := beq_eq_false_iff_ne.2 h5
      go_enter Try.func36, Try.ntmps36
      go_wp2_with fail
      refine (HG.out _).mono ?_
      rintro e w1 ⟨rfl, nq, rfl⟩
      go_wp2
      go_ret2
      exact ⟨none, 0, rfl, own_nil, by (repeat' (first | (with_reducible exact Below.refl _ _) | (with_reducible assumption) | (with_reducible refine belowNext ?_ (by with_reducible assumption)) | (with_reducible refine belowAlloc ?_ _) | (with_reducible refine Below.drew ?_) | (with_reducible refine below_drewN ?_ _) | (with_reducible refine Below.setCell ?_ ?_ _) | go_size | (with_reducible refine sizeOf' ?_) | (with_reducible refine sizeAdd ?_) | (dsimp only; first | (with_reducible refine sizeOf' ?_) | (with_reducible refine sizeAdd ?_))))⟩
end Go.Proofs.Ytlmgpecfbpcgaaa

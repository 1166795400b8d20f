/-
  Contracts: the angles of a period, as the model gathers them.
-/
import Derived.Test.YtabddjfgbhnldaaR4
namespace Go.Proofs.Ytabddjfgbhnldaa
open Go.RowKit

set_option maxHeartbeats 1000000 in
theorem specPer (n d : Int) (w : World) (h : Red (n, d)) :
    Calls Try.prog 77 #[ang n d] w fun e w' => e = .returned (.int .i64 (perS (n, d) : Int)) ∧ Below w.heap.size w w' := by
  have HS : Hid (∀ w, Calls Try.prog 84 #[ang n d] w (ResOrb w (n, d))) := Lib.hid (fun w => specOrbit n d w h)
  unfold ResOrb at HS
  cases hf : findOrb (n, d) 65 0 with
  | none =>
    have E : Hid (perS (n, d) = 0) := Lib.hid (by unfold perS; rw [hf])
    rw [hf] at HS
    dsimp only at HS
    clear hf h
    generalize perS (n, d) = R at *
    go_enter Try.func77, Try.ntmps77
    go_wp2_with fail
    refine (HS.out _).mono ?_
    rintro e w1 ⟨rfl, hb1⟩
    go_wp2
    go_ret
    refine ⟨by rw [E.out]; rfl, ?_⟩
    (repeat' (first | (with_reducible exact Below.refl _ _) | (with_reducible assumption) | (with_reducible refine belowNext ?_ (by with_reducible assumption)) | (with_reducible refine belowAlloc ?_ _) | (with_reducible refine Below.drew ?_) | (with_reducible refine below_drewN ?_ _) | (with_reducible refine Below.setCell ?_ ?_ _) | go_size | (with_reducible refine sizeOf' ?_) | (with_reducible refine sizeAdd ?_) | (dsimp only; first | (with_reducible refine sizeOf' ?_) | (with_reducible refine sizeAdd ?_))))
  | some k =>
    have E : Hid (perS (n, d) = if pre (n, d) = 0 then k else 0) := Lib.hid (by unfold perS; rw [hf])
    rw [hf] at HS
    dsimp only at HS
    clear hf h
    generalize perS (n, d) = R at *
    generalize pre (n, d) = P at *
    by_cases hP : P = 0
    · subst hP
      go_enter Try.func77, Try.ntmps77
      go_wp2_with fail
      refine (HS.out _).mono ?_
      rintro e w1 ⟨A, cap, rfl, ho, hb1⟩
      clear ho
      go_wp2
      go_ret
      refine ⟨by rw [E.out]; rfl, ?_⟩
      (repeat' (first | (with_reducible exact Below.refl _ _) | (with_reducible assumption) | (with_reducible refine belowNext ?_ (by with_reducible assumption)) | (with_reducible refine belowAlloc ?_ _) | (with_reducible refine Below.drew ?_) | (with_reducible refine below_drewN ?_ _) | (with_reducible refine Below.setCell ?_ ?_ _) | go_size | (with_reducible refine sizeOf' ?_) | (with_reducible refine sizeAdd ?_) | (dsimp only; first | (with_reducible refine sizeOf' ?_) | (with_reducible refine sizeAdd ?_))))
    · have n1 : (0 : Int) < (P : Int) := by omega
      have E2 : Hid (R = 0) := Lib.hid (by rw [E.out, if_neg hP])
      clear E
      go_enter Try.func77, Try.ntmps77
      go_wp2_with fail
      refine (HS.out _).mono ?_
      rintro e w1 ⟨A, cap, rfl, ho, hb1⟩
      clear ho
      go_wp2
      go_ret
      refine ⟨by rw [E2.out]; rfl, ?_⟩
      (repeat' (first | (with_reducible exact Below.refl _ _) | (with_reducible assumption) | (with_reducible refine belowNext ?_ (by with_reducible assumption)) | (with_reducible refine belowAlloc ?_ _) | (with_reducible refine Below.drew ?_) | (with_reducible refine below_drewN ?_ _) | (with_reducible refine Below.setCell ?_ ?_ _) | go_size | (with_reducible refine sizeOf' ?_) | (with_reducible refine sizeAdd ?_) | (dsimp only; first | (with_reducible refine sizeOf' ?_) | (with_reducible refine sizeAdd ?_))))

set_option maxHeartbeats 1000000 in
theorem inRange (n a b : Int) (w : World) :
    Calls Try.prog 45 #[.int .i64 n, .int .i64 a, .int .i64 b] w fun e w' => e = .returned (.bool (decide (a ≤ n) && decide (n ≤ b))) ∧ w = w' := by
  by_cases h1 : a ≤ n <;> by_cases h2 : n ≤ b
  all_goals
    go_enter Try.func45, Try.ntmps45
    go_wp2
    go_ret
    exact ⟨by simp [h1, h2], rfl⟩

set_option maxRecDepth 100000 in
set_option maxHeartbeats 200000 in
theorem specAoP (N : Nat) (w : World) (h1 : 1 ≤ N) (h8 : N ≤ 8) :
    Calls Try.prog 63 #[.int .i64 N] w fun e w' => ∃ A cap, (angF N (2 ^ N - 1 : Nat) (2 ^ N - 1)).length ≤ cap ∧ e = .returned (.slice A (angF N (2 ^ N - 1 : Nat) (2 ^ N - 1)).length cap) ∧ AngOwn w' w.heap.size A (angF N (2 ^ N - 1 : Nat) (2 ^ N - 1)) ∧ Below w.heap.size w w' := by
  obtain ⟨i0, hi, hz0, hz1, hz2⟩ := info_parts infoA
  have hs := shl_run N h8
  have hp := pow_le8 h8
  have hq := pow_ge1 N
  have hq2 : 2 ≤ 2 ^ N := by
    obtain ⟨m, rfl⟩ : ∃ m, N = m + 1 := ⟨N - 1, by omega⟩
    have := pow_ge1 m
    rw [Nat.pow_succ]; omega
  generalize 2 ^ N = E at *
  obtain ⟨D, rfl⟩ : ∃ D, E = D + 1 := ⟨E - 1, by omega⟩
  have hc : ((N : Int) == (N : Int)) = true := by simp
  rw [show D + 1 - 1 = D by omega]
  obtain ⟨DD, hDD⟩ : ∃ DD : Int, ((D + 1 : Nat) : Int) = DD := ⟨_, rfl⟩
  rw [hDD] at hs
  have hw : DD - 1 = (D : Int) := by omega
  have hw2 : wrap64 (DD - 1) = (D : Int) := by rw [hw]; exact IntWalk.wrap64_in _ (by omega)
  have hw3 : wrap64 (D : Int) = (D : Int) := IntWalk.wrap64_in _ (by omega)
  clear hDD
  go_enter Try.func63, Try.ntmps63
  go_wp2
  rw [hs]
  clear hs hw hw2 hw3
  go_loopw [3, 5] (fun v i wr => ∃ (k len cap : Nat) (A : Option Addr), v = .slice A len cap ∧ i = .int .i64 k ∧ k ≤ D ∧ len ≤ k ∧ Hid ((angF N D k).length = len ∧ wr.ownsRow w.heap.size 25 2 (.slice A len cap) len (flatA (angF N D k)) ∧ Below w.heap.size w wr)) (fun v i _ => D - (intOf i).toNat)
  case atStart => 
    refine ⟨0, 0, 0, some ⟨w.heap.size, 0, none⟩, rfl, rfl, by omega, by omega, Lib.hid ⟨rfl, ⟨rfl, .inr ⟨w.heap.size, 0, #[], rfl, Nat.le_refl _, ?_, by omega, by unfold maxLen; omega, rfl, rfl⟩⟩, ?_⟩⟩
    · exact heap_alloc_new w (.cells #[] 25)
    · (repeat' (first | (with_reducible exact Below.refl _ _) | (with_reducible assumption) | (with_reducible refine belowNext ?_ (by with_reducible assumption)) | (with_reducible refine belowAlloc ?_ _) | (with_reducible refine Below.drew ?_) | (with_reducible refine below_drewN ?_ _) | (with_reducible refine Below.setCell ?_ ?_ _) | go_size | (with_reducible refine sizeOf' ?_) | (with_reducible refine sizeAdd ?_) | (dsimp only; first | (with_reducible refine sizeOf' ?_) | (with_reducible refine sizeAdd ?_))))
  case round =>
    obtain ⟨k, len, cap, A, rfl, rfl, hk, hlk, H⟩ := hrel
    by_cases hlt : k < D
    · obtain ⟨hlen, hown, hB⟩ := H.out
      have HLen := Lib.hid hlen
      have HO := Lib.hid hown
      have HRd := Lib.hid (redRed0 (n := (k : Int)) (m := (D : Int)) (by omega) (by omega))
      have b2 := HRd.out.1
      have b3 := HRd.out.2.1
      have b4 := HRd.out.2.2.1
      have b5 := HRd.out.2.2.2.1
      dsimp only at b2 b3 b4 b5
      have HC := Lib.hid (fun w => specRed (k : Int) (D : Int) w (by omega) (by omega) (by omega) (by omega))
      have HP := Lib.hid (fun w => specPer (redN k D) (redD k D) w HRd.out)
      have HN : Hid (((perS (redN k D, redD k D) : Nat) = N) ↔ shortP (redD k D) = N) := Lib.hid (per_short HRd.out h1 h8)
      have HX : Hid (shortP (redD k D) = N → angStep N D k = [(redN k D, redD k D)]) := Lib.hid angStep_yes
      have HY : Hid (¬ shortP (redD k D) = N → angStep N D k = []) := Lib.hid angStep_no
      clear hlen hown H
      generalize shortP (redD k D) = sp at *
      generalize perS (redN k D, redD k D) = pv at *
      obtain ⟨st, hst⟩ : ∃ st, angStep N D k = st := ⟨_, rfl⟩
      rw [hst] at HX HY
      have HST := Lib.hid hst
      clear hst
      generalize redN k D = X at *
      generalize redD k D = Y at *
      go_wp2_with fail
      refine (HC.out _).mono ?_
      rintro e w1 ⟨rfl, hb1⟩
      have s1 := hb1.size
      try simp at s1
      go_wp2_with fail
      refine (HP.out _).mono ?_
      rintro e w2 ⟨rfl, hb2⟩
      have s2 := hb2.size
      try simp at s2
      have x0 : w2.cell? ⟨w1.heap.size, 0, none⟩ = some (.int .i64 X) := cellThru hb2 (by simp) (by simp [go_sem])
      have x1 : w2.cell? ⟨w1.heap.size, 1, none⟩ = some (.int .i64 Y) := cellThru hb2 (by simp) (by simp [go_sem])
      have B02 : Below wr.heap.size wr w2 := by
        (repeat' (first | (with_reducible exact Below.refl _ _) | (with_reducible assumption) | (with_reducible refine belowNext ?_ (by with_reducible assumption)) | (with_reducible refine belowAlloc ?_ _) | (with_reducible refine Below.drew ?_) | (with_reducible refine below_drewN ?_ _) | (with_reducible refine Below.setCell ?_ ?_ _) | go_size | (with_reducible refine sizeOf' ?_) | (with_reducible refine sizeAdd ?_) | (dsimp only; first | (with_reducible refine sizeOf' ?_) | (with_reducible refine sizeAdd ?_))))
      have B2 := belowNext hB B02
      have HO2 := Lib.hid (ownsKeep HO.out B02)
      clear hb1 hb2 HO
      by_cases hpv : pv = N
      · obtain rfl := HX.out (HN.out.1 hpv)
        subst hpv
        go_wp2_with (at_builtin; refine wpList_append_own _ rfl _ _ 72 rfl w.heap.size 25 i0 (.agg #[.int .i64 0, .int .i64 0]) 2 16 Try.underlying72 hi hz0 hz1 hz2 rfl (by decide) _ _ _ rfl (World.ownsRow.alloc (w := w2) HO2.out _) ⟨w2.heap.size, 0, none⟩ 1 1 [.int .i64 X, .int .i64 Y] rfl rfl ?c1 ?c2 ?c3 ?c4 ?c5 ?_)
        case c1 => exact cell_two_new _ _ _ _
        case c2 => intro u hu; simp at hu; rcases hu with rfl | rfl <;> rfl
        case c3 => exact (small_len (n := len) (by omega)).1
        case c4 => exact (small_len (n := len) (by omega)).2
        case c5 => have := B2.size; simp; omega
        intro v' w3 hown' hgrow _
        obtain ⟨gn, capn, rfl⟩ := ownsRow_succ hown'
        have B3 : Below w.heap.size w w3 := by
          have hb0 : Below w.heap.size w (w2.alloc (.cells #[.int .i64 X, .int .i64 Y] 25)) := belowAlloc B2 _
          refine hb0.grown hgrow hb0.size (fun r e => ?_)
          rcases HO2.out.2 with ⟨hv, _⟩ | ⟨g0, c0, cur, hv, hv2, _⟩
          · rw [hv] at e; simp [Value.ownBlock] at e
          · rw [hv] at e; simp [Value.ownBlock] at e; omega
        have HO3 := Lib.hid hown'
        clear hown' hgrow HO2 x0 x1
        go_wp2
        go_roundw
        case rel =>
          refine ⟨k + 1, len + 1, _, _, rfl, by go_num, by omega, by omega, Lib.hid ⟨?_, ?_, B3⟩⟩
          · simp only [angF, List.length_append, List.length_cons, List.length_nil, HLen.out, HST.out]
          · simp only [angF, flatA_app, HST.out]
            exact HO3.out
        case measure => simp [intOf]; omega
      · obtain HE := HY.out (fun h => hpv (HN.out.2 h))
        have hq3 : ((pv : Int) == (N : Int)) = false := by simp; omega
        go_wp2
        go_roundw
        case rel =>
          refine ⟨k + 1, len, _, _, rfl, by go_num, by omega, by omega, Lib.hid ⟨?_, ?_, B2⟩⟩
          · simp only [angF, List.length_append, HST.out, HE, List.length_nil, Nat.add_zero]; exact HLen.out
          · simp only [angF, HST.out, HE, List.append_nil]
            exact HO2.out
        case measure => simp [intOf]; omega
    · obtain rfl : k = D := by omega
      obtain ⟨hlen, hown, hB⟩ := H.out
      have HO := Lib.hid (ownA_of_row hlen hown)
      have HCap := Lib.hid (ownsCap hown)
      have HLen := Lib.hid hlen
      clear hlen hown H
      go_wp2
      go_ret
      rw [HLen.out]
      refine ⟨A, cap, HCap.out, rfl, HO.out, ?_⟩
      (repeat' (first | (with_reducible exact Below.refl _ _) | (with_reducible assumption) | (with_reducible refine belowNext ?_ (by with_reducible assumption)) | (with_reducible refine belowAlloc ?_ _) | (with_reducible refine Below.drew ?_) | (with_reducible refine below_drewN ?_ _) | (with_reducible refine Below.setCell ?_ ?_ _) | go_size | (with_reducible refine sizeOf' ?_) | (with_reducible refine sizeAdd ?_) | (dsimp only; first | (with_reducible refine sizeOf' ?_) | (with_reducible refine sizeAdd ?_))))

end Go.Proofs.Ytabddjfgbhnldaa

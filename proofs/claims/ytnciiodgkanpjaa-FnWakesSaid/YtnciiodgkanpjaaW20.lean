/-
  Contracts: both halves of an angle, as the program has them; halves.
-/
import Derived.Test.YtnciiodgkanpjaaW10
namespace Go.Proofs.Ytnciiodgkanpjaa
open Go.RowKit

theorem setDrewN (w : World) (n : Nat) (a : Addr) (v : Value) : (w.drewN n).setCell a v = (w.setCell a v).drewN n := rfl
theorem allocDrewN (w : World) (n : Nat) (o : Obj) : (w.drewN n).alloc o = (w.alloc o).drewN n := rfl
attribute [local go_sem] setDrewN allocDrewN

set_option maxHeartbeats 400000 in
theorem implRedX (n d : Int) (w : World) (hd : 1 ≤ d) (hD : d ≤ 4611686018427387904) (hn : -4611686018427387904 ≤ n) (hN : n ≤ 4611686018427387904) :
    Calls Try.prog 57 #[.int .i64 n, .int .i64 d] w fun e w' => e = .returned (ang (redN n d) (redD n d)) ∧ ∃ k, ((w.alloc (.cells #[.int .i64 (redN n d), .int .i64 (redD n d)] 25)).drewN k) = w' := by
  have h1 := Int.emod_nonneg n (b := d) (by omega)
  have h2 := Int.emod_lt_of_pos n (show 0 < d by omega)
  have HN : Hid (redN n d = (n % d) / gcdI (n % d) d) := Lib.hid rfl
  have HD : Hid (redD n d = d / gcdI (n % d) d) := Lib.hid rfl
  generalize redN n d = X at *
  generalize redD n d = Y at *
  have hc : (n.tmod d = n % d) ∨ (n.tmod d = n % d - d ∧ 0 < n % d) := by
    by_cases h0 : 0 ≤ n
    · exact .inl (tmod_nonneg n d h0)
    · by_cases hz : n % d = 0
      · exact .inl ((tmod_neg0 n d (by omega) hz).trans hz.symm)
      · exact .inr ⟨tmod_neg1 n d (by omega) (by omega) (by omega), by omega⟩
  generalize n % d = r at *
  have hg := gcdI_pos r d (by omega)
  have hl := gcdI_le r d (by omega)
  have hdne : (d == 0) = false := beq_eq_false_iff_ne.2 (by omega)
  have hc1 := implGcd r d
  generalize gcdI r d = g at *
  have HC := Lib.hid hc1
  clear hc1
  have hgne : (g == 0) = false := beq_eq_false_iff_ne.2 (by omega)
  rcases hc with he | ⟨he, hr⟩
  all_goals
    go_enter Try.func57, Try.ntmps57
    go_wp2_with fail
    refine (HC.out _ (by omega) (by omega) (by omega) (by omega)).mono ?_
    rintro e w1 ⟨rfl, k, rfl⟩
    go_wp2
    go_region
    all_goals
      go_wp2
      go_returns
      refine ⟨by rw [HN.out, HD.out], k + 1, ?_⟩
      rw [HN.out, HD.out] <;> (first | rfl | (simp [go_sem]; done))

set_option maxHeartbeats 2000000 in
theorem implBoth (n d : Int) (w : World) (h : angOk n d) :
    Calls Try.prog 48 #[ang n d] w fun e w' => e = .returned (.tuple #[ang (redN n (2 * d)) (redD n (2 * d)), ang (redN (n + d) (2 * d)) (redD (n + d) (2 * d))]) ∧ Below w.heap.size w w' := by
  obtain ⟨b1, b2, b3, b4⟩ := h
  have HR := Lib.hid (fun w => implRedX n (2 * d) w (by omega) (by omega) (by omega) (by omega))
  have HR' := Lib.hid (fun w => implRedX (n + d) (2 * d) w (by omega) (by omega) (by omega) (by omega))
  generalize redN n (2 * d) = x at *
  generalize redD n (2 * d) = y at *
  generalize redN (n + d) (2 * d) = x' at *
  generalize redD (n + d) (2 * d) = y' at *
  have wr1 : IntKind.i64.wrap (2 * d) = 2 * d := IntWalk.i64_in _ (by omega)
  have wr2 : IntKind.i64.wrap (n + d) = n + d := IntWalk.i64_in _ (by omega)
  go_enter Try.func48, Try.ntmps48
  go_wp2_with fail
  go_region_held3 (fun w' => w'.cell? ⟨w.heap.size, 0, none⟩ = some (.int .i64 n) ∧ w'.cell? ⟨w.heap.size, 1, none⟩ = some (.int .i64 d))
    (first | (refine ⟨?_, ?_⟩ <;> (simp [go_sem]; done)))
    (first
    | (go_at_call 57; (with_reducible refine (HR.out _).mono ?_); rintro e w1 ⟨rfl, k1, rfl⟩)
    | (go_at_call 57; (with_reducible refine (HR'.out _).mono ?_); rintro e w1 ⟨rfl, k2, rfl⟩))
  all_goals
    go_wp2
    refine bodyPost_ret (v := .tuple #[ang x y, ang x' y']) (by simp [results, Try.results48, go_sem]) rfl ⟨rfl, ?_⟩
    (repeat' (first | (with_reducible exact Below.refl _ _) | (with_reducible assumption) | (with_reducible refine belowNext ?_ (by with_reducible assumption)) | (with_reducible refine belowAlloc ?_ _) | (with_reducible refine Below.drew ?_) | (with_reducible refine below_drewN ?_ _) | (with_reducible refine Below.setCell ?_ ?_ _) | go_size | (with_reducible refine sizeOf' ?_) | (with_reducible refine sizeAdd ?_) | (dsimp only; first | (with_reducible refine sizeOf' ?_) | (with_reducible refine sizeAdd ?_))))

set_option maxHeartbeats 1000000 in
theorem implHalves (n d : Int) (w : World) : Calls Try.prog 7 #[ang n d] w (ResAng w (halL n d) (halC n d)) := by
  have HS := Lib.hid (fun w => implIs n d w)
  rcases hal_cases n d with h1 | ⟨h1, h2, h3⟩ | ⟨h1, h2, h3, h4⟩ | ⟨h1, h2, h3, h4⟩
  · obtain ⟨e1, e2⟩ := hal_no h1
    rw [e1, e2]
    rw [h1] at HS
    clear e1 e2 h1
    go_enter Try.func7, Try.ntmps7
    go_wp2_with fail
    refine (HS.out _).mono ?_
    rintro e w1 ⟨rfl, hb1⟩
    go_wp2
    go_ret2
    refine ⟨none, 0, rfl, own_nil, ?_⟩
    (repeat' (first | (with_reducible exact Below.refl _ _) | (with_reducible assumption) | (with_reducible refine belowNext ?_ (by with_reducible assumption)) | (with_reducible refine belowAlloc ?_ _) | (with_reducible refine Below.drew ?_) | (with_reducible refine below_drewN ?_ _) | (with_reducible refine Below.setCell ?_ ?_ _) | go_size | (with_reducible refine sizeOf' ?_) | (with_reducible refine sizeAdd ?_) | (dsimp only; first | (with_reducible refine sizeOf' ?_) | (with_reducible refine sizeAdd ?_))))
  all_goals
    have HR := Lib.hid (fun w => implBoth n d w (isAng_ok h1))
  · obtain ⟨e1, e2⟩ := hal_far h1 h2
    rw [e1, e2]
    rw [h1] at HS
    clear e1 e2 h1 h2
    generalize redN n (2 * d) = x at *
    generalize redD n (2 * d) = y at *
    generalize redN (n + d) (2 * d) = x' at *
    generalize redD (n + d) (2 * d) = y' at *
    go_enter Try.func7, Try.ntmps7
    go_wp2_with fail
    refine (HS.out _).mono ?_
    rintro e w1 ⟨rfl, hb1⟩
    obtain ⟨hc1, hf1⟩ := bcell hb1
    go_wp2_with fail
    refine (HR.out _).mono ?_
    rintro e w2 ⟨rfl, hb2⟩
    go_wp2
    go_ret2
    refine ⟨none, 0, rfl, own_nil, ?_⟩
    (repeat' (first | (with_reducible exact Below.refl _ _) | (with_reducible assumption) | (with_reducible refine belowNext ?_ (by with_reducible assumption)) | (with_reducible refine belowAlloc ?_ _) | (with_reducible refine Below.drew ?_) | (with_reducible refine below_drewN ?_ _) | (with_reducible refine Below.setCell ?_ ?_ _) | go_size | (with_reducible refine sizeOf' ?_) | (with_reducible refine sizeAdd ?_) | (dsimp only; first | (with_reducible refine sizeOf' ?_) | (with_reducible refine sizeAdd ?_))))
  · obtain ⟨e1, e2⟩ := hal_far h1 h2
    rw [e1, e2]
    rw [h1] at HS
    clear e1 e2 h1 h2
    generalize redN n (2 * d) = x at *
    generalize redD n (2 * d) = y at *
    generalize redN (n + d) (2 * d) = x' at *
    generalize redD (n + d) (2 * d) = y' at *
    go_enter Try.func7, Try.ntmps7
    go_wp2_with fail
    refine (HS.out _).mono ?_
    rintro e w1 ⟨rfl, hb1⟩
    obtain ⟨hc1, hf1⟩ := bcell hb1
    go_wp2_with fail
    refine (HR.out _).mono ?_
    rintro e w2 ⟨rfl, hb2⟩
    go_wp2
    go_ret2
    refine ⟨none, 0, rfl, own_nil, ?_⟩
    (repeat' (first | (with_reducible exact Below.refl _ _) | (with_reducible assumption) | (with_reducible refine belowNext ?_ (by with_reducible assumption)) | (with_reducible refine belowAlloc ?_ _) | (with_reducible refine Below.drew ?_) | (with_reducible refine below_drewN ?_ _) | (with_reducible refine Below.setCell ?_ ?_ _) | go_size | (with_reducible refine sizeOf' ?_) | (with_reducible refine sizeAdd ?_) | (dsimp only; first | (with_reducible refine sizeOf' ?_) | (with_reducible refine sizeAdd ?_))))
  · obtain ⟨e1, e2⟩ := hal_yes h1 h2
    rw [e1, e2]
    rw [h1] at HS
    clear e1 e2 h1 h2
    generalize redN n (2 * d) = x at *
    generalize redD n (2 * d) = y at *
    generalize redN (n + d) (2 * d) = x' at *
    generalize redD (n + d) (2 * d) = y' at *
    go_enter Try.func7, Try.ntmps7
    go_wp2_with fail
    refine (HS.out _).mono ?_
    rintro e w1 ⟨rfl, hb1⟩
    obtain ⟨hc1, hf1⟩ := bcell hb1
    go_wp2_with fail
    refine (HR.out _).mono ?_
    rintro e w2 ⟨rfl, hb2⟩
    go_wp2
    go_ret2
    have hB : Below w.heap.size w ((w2.alloc (.cells #[.int .i64 x, .int .i64 y] 25)).alloc (.cells #[.int .i64 x', .int .i64 y'] 25)) := by
      (repeat' (first | (with_reducible exact Below.refl _ _) | (with_reducible assumption) | (with_reducible refine belowNext ?_ (by with_reducible assumption)) | (with_reducible refine belowAlloc ?_ _) | (with_reducible refine Below.drew ?_) | (with_reducible refine below_drewN ?_ _) | (with_reducible refine Below.setCell ?_ ?_ _) | go_size | (with_reducible refine sizeOf' ?_) | (with_reducible refine sizeAdd ?_) | (dsimp only; first | (with_reducible refine sizeOf' ?_) | (with_reducible refine sizeAdd ?_))))
    exact ⟨some ⟨_, 0, none⟩, 2, rfl, own2 _ hB _ _ _ _ _ _ (by simp), belowAlloc hB _⟩
end Go.Proofs.Ytnciiodgkanpjaa

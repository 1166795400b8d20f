/-
  Contracts: halves, as the model has them.
-/
import Derived.Test.YtnciiodgkanpjaaW9
import Derived.IntWalk
namespace Go.Proofs.Ytnciiodgkanpjaa
open Go.RowKit

set_option maxHeartbeats 400000 in
theorem specRedX (n d : Int) (w : World) (hd : 1 ≤ d) (hD : d ≤ 4611686018427387904) (hn : -4611686018427387904 ≤ n) (hN : n ≤ 4611686018427387904) :
    Calls Try.prog 65 #[.int .i64 n, .int .i64 d] w fun e w' => e = .returned (ang (redN n d) (redD n d)) ∧ ((w.alloc (.cells #[.int .i64 (redN n d), .int .i64 (redD n d)] 25)).drew) = w' := by
  have h1 := Int.emod_nonneg n (b := d) (by omega)
  have h2 := Int.emod_lt_of_pos n (show 0 < d by omega)
  have HN : Hid (redN n d = (n % d) / gcdI (n % d) d) := Lib.hid rfl
  have HD : Hid (redD n d = d / gcdI (n % d) d) := Lib.hid rfl
  generalize redN n d = X at *
  generalize redD n d = Y at *
  have hc : (n.tmod d = n % d) ∨ (n.tmod d = n % d - d ∧ 0 < n % d) := by
    by_cases h0 : 0 ≤ n
    · exact .inl (tmod_nonneg n d h0)
    · by_cases hz : n % d = 0
      · exact .inl ((tmod_neg0 n d (by omega) hz).trans hz.symm)
      · exact .inr ⟨tmod_neg1 n d (by omega) (by omega) (by omega), by omega⟩
  generalize n % d = r at *
  have hg := gcdI_pos r d (by omega)
  have hl := gcdI_le r d (by omega)
  have hdne : (d == 0) = false := beq_eq_false_iff_ne.2 (by omega)
  have hc1 := specGcd r d
  generalize gcdI r d = g at *
  have HC := Lib.hid hc1
  clear hc1
  have hgne : (g == 0) = false := beq_eq_false_iff_ne.2 (by omega)
  have e1 : (r + d) % d = r := by rw [Int.add_emod_right, Int.emod_eq_of_lt h1 h2]
  have e2 : r % d = r := Int.emod_eq_of_lt h1 h2
  rcases hc with he | ⟨he, hr⟩
  all_goals
    go_enter Try.func65, Try.ntmps65
    go_wp2_with fail
    refine (HC.out _ (by omega) (by omega) (by omega) (by omega)).mono ?_
    rintro e w1 ⟨rfl, rfl⟩
    go_wp2
    go_region
    all_goals
      go_wp2
      go_returns
      refine ⟨by rw [HN.out, HD.out], ?_⟩
      rw [HN.out, HD.out]

theorem keepG {W : World} {p : Addr} {v : Value} {g5 g6 : Nat} {x y x' y' : Int} (h5 : p.block ≠ g5) (h6 : p.block ≠ g6)
    (h : W.cell? ⟨g5, 0, none⟩ = some (.int .i64 x) ∧ W.cell? ⟨g5, 1, none⟩ = some (.int .i64 y) ∧ W.cell? ⟨g6, 0, none⟩ = some (.int .i64 x') ∧ W.cell? ⟨g6, 1, none⟩ = some (.int .i64 y')) :
    (W.setCell p v).cell? ⟨g5, 0, none⟩ = some (.int .i64 x) ∧ (W.setCell p v).cell? ⟨g5, 1, none⟩ = some (.int .i64 y) ∧ (W.setCell p v).cell? ⟨g6, 0, none⟩ = some (.int .i64 x') ∧ (W.setCell p v).cell? ⟨g6, 1, none⟩ = some (.int .i64 y') := by
  refine ⟨?_, ?_, ?_, ?_⟩
  · rw [World.cell?_setCell_other _ _ _ _ (fun e => by subst e; exact h5 rfl)]; exact h.1
  · rw [World.cell?_setCell_other _ _ _ _ (fun e => by subst e; exact h5 rfl)]; exact h.2.1
  · rw [World.cell?_setCell_other _ _ _ _ (fun e => by subst e; exact h6 rfl)]; exact h.2.2.1
  · rw [World.cell?_setCell_other _ _ _ _ (fun e => by subst e; exact h6 rfl)]; exact h.2.2.2

theorem keepGd {W : World} {g5 g6 : Nat} {x y x' y' : Int}
    (h : W.cell? ⟨g5, 0, none⟩ = some (.int .i64 x) ∧ W.cell? ⟨g5, 1, none⟩ = some (.int .i64 y) ∧ W.cell? ⟨g6, 0, none⟩ = some (.int .i64 x') ∧ W.cell? ⟨g6, 1, none⟩ = some (.int .i64 y')) :
    W.drew.cell? ⟨g5, 0, none⟩ = some (.int .i64 x) ∧ W.drew.cell? ⟨g5, 1, none⟩ = some (.int .i64 y) ∧ W.drew.cell? ⟨g6, 0, none⟩ = some (.int .i64 x') ∧ W.drew.cell? ⟨g6, 1, none⟩ = some (.int .i64 y') := h

set_option maxHeartbeats 2000000 in
theorem specHal3 (n d : Int) (w : World) (h : angOk n d) :
    Calls Try.prog 50 #[ang n d] w fun e w' => e = .returned (.tuple #[ang (redN n (2 * d)) (redD n (2 * d)), ang (redN (n + d) (2 * d)) (redD (n + d) (2 * d)), .bool (halOk n d)]) ∧ Below w.heap.size w w' := by
  obtain ⟨b1, b2, b3, b4⟩ := h
  have HR := Lib.hid (fun w => specRedX n (2 * d) w (by omega) (by omega) (by omega) (by omega))
  have HR' := Lib.hid (fun w => specRedX (n + d) (2 * d) w (by omega) (by omega) (by omega) (by omega))
  have HO : Hid (halOk n d = decide (redD n (2 * d) ≤ 8191 ∧ redD (n + d) (2 * d) ≤ 8191)) := Lib.hid rfl
  generalize halOk n d = ok at *
  generalize redN n (2 * d) = x at *
  generalize redD n (2 * d) = y at *
  generalize redN (n + d) (2 * d) = x' at *
  generalize redD (n + d) (2 * d) = y' at *
  have wr1 : IntKind.i64.wrap (2 * d) = 2 * d := IntWalk.i64_in _ (by omega)
  have wr2 : IntKind.i64.wrap (n + d) = n + d := IntWalk.i64_in _ (by omega)
  go_enter Try.func50, Try.ntmps50
  go_upto_region 1 with fail
  go_cut [5, 6] (fun s5 s6 wx => ∃ g5 g6 : Nat, s5 = .pointer (some ⟨g5, 0, none⟩) ∧ s6 = .pointer (some ⟨g6, 0, none⟩) ∧ w.heap.size + 2 < g5 ∧ w.heap.size + 2 < g6 ∧ (wx.cell? ⟨g5, 0, none⟩ = some (.int .i64 x) ∧ wx.cell? ⟨g5, 1, none⟩ = some (.int .i64 y) ∧ wx.cell? ⟨g6, 0, none⟩ = some (.int .i64 x') ∧ wx.cell? ⟨g6, 1, none⟩ = some (.int .i64 y')) ∧
    (wx.cell? ⟨w.heap.size + 1, 0, none⟩ = some (.int .i64 0) ∧ wx.cell? ⟨w.heap.size + 1, 1, none⟩ = some (.int .i64 0) ∧ wx.cell? ⟨w.heap.size + 1 + 1, 0, none⟩ = some (.int .i64 0) ∧ wx.cell? ⟨w.heap.size + 1 + 1, 1, none⟩ = some (.int .i64 0)) ∧
    (wx.frozen? ⟨w.heap.size + 1, 0, none⟩ = false ∧ wx.frozen? ⟨w.heap.size + 1, 1, none⟩ = false ∧ wx.frozen? ⟨w.heap.size + 1 + 1, 0, none⟩ = false ∧ wx.frozen? ⟨w.heap.size + 1 + 1, 1, none⟩ = false) ∧ Below w.heap.size w wx)
  case first =>
    go_region_held3 (fun w' => w'.cell? ⟨w.heap.size, 0, none⟩ = some (.int .i64 n) ∧ w'.cell? ⟨w.heap.size, 1, none⟩ = some (.int .i64 d))
      (first | (refine ⟨?_, ?_⟩ <;> (simp [go_sem]; done)))
      (first
      | (go_at_call 65; (with_reducible refine (HR.out _).mono ?_); rintro e w1 ⟨rfl, rfl⟩)
      | (go_at_call 65; (with_reducible refine (HR'.out _).mono ?_); rintro e w1 ⟨rfl, rfl⟩))
    all_goals
      go_wp2_with fail
      go_meet
      refine ⟨_, _, rfl, rfl, ?_, ?_, ⟨?_, ?_, ?_, ?_⟩, ⟨?_, ?_, ?_, ?_⟩, ⟨?_, ?_, ?_, ?_⟩, ?_⟩
      all_goals first | omega | (go_simp; done) | (simp; omega) | (repeat' (first | (with_reducible exact Below.refl _ _) | (with_reducible assumption) | (with_reducible refine belowNext ?_ (by with_reducible assumption)) | (with_reducible refine belowAlloc ?_ _) | (with_reducible refine Below.drew ?_) | (with_reducible refine below_drewN ?_ _) | (with_reducible refine Below.setCell ?_ ?_ _) | go_size | (with_reducible refine sizeOf' ?_) | (with_reducible refine sizeAdd ?_) | (dsimp only; first | (with_reducible refine sizeOf' ?_) | (with_reducible refine sizeAdd ?_))))
  case rest =>
    obtain ⟨g5, g6, rfl, rfl, hg5, hg6, hG, ⟨r0, r1, r2, r3⟩, ⟨f0, f1, f2, f3⟩, hB⟩ := hcut
    have hOk : ok = (decide (y ≤ 8191) && decide (y' ≤ 8191)) := by rw [HO.out]; simp
    have HK := Lib.hid hOk
    clear hOk
    cases d1 : decide (y ≤ 8191)
    all_goals
      cases d2 : decide (y' ≤ 8191)
      all_goals
        rw [d1, d2] at HK
        have p1 : (y ≤ 8191) = (decide (y ≤ 8191) = true) := by simp
        rw [d1] at p1
        have p2 : (y' ≤ 8191) = (decide (y' ≤ 8191) = true) := by simp
        rw [d2] at p2
        go_wp2_with fail
        obtain ⟨q0, q1, q2, q3⟩ := hG
        go_region
        all_goals
          go_wp2
          refine bodyPost_ret (v := .tuple #[ang x y, ang x' y', .bool ok]) (by rw [HK.out]; simp [results, Try.results50, go_sem, r0, r1, r2, r3]) rfl ⟨rfl, ?_⟩
          (repeat' (first | (with_reducible exact Below.refl _ _) | (with_reducible assumption) | (with_reducible refine belowNext ?_ (by with_reducible assumption)) | (with_reducible refine belowAlloc ?_ _) | (with_reducible refine Below.drew ?_) | (with_reducible refine below_drewN ?_ _) | (with_reducible refine Below.setCell ?_ ?_ _) | go_size | (with_reducible refine sizeOf' ?_) | (with_reducible refine sizeAdd ?_) | (dsimp only; first | (with_reducible refine sizeOf' ?_) | (with_reducible refine sizeAdd ?_))))
end Go.Proofs.Ytnciiodgkanpjaa

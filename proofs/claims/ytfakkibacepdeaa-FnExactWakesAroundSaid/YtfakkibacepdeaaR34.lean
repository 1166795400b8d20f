/-
  Contracts: the wakes around an angle on both sides; the law's walk.
-/
import Derived.Test.YtfakkibacepdeaaR32
import Derived.Test.YtfakkibacepdeaaR33
namespace Go.Proofs.Ytfakkibacepdeaa
open Go.RowKit

/-- What WakesAround answers. -/
def waL (n d m : Int) : List Lf4 := if isAng n d then (if 2 ≤ m ∧ m ≤ 8 then wkL (n, d) (m.toNat - 1) else []) else []
def waC (n d m : Int) : Int := if isAng n d then (if 2 ≤ m ∧ m ≤ 8 then 0 else 2) else 1
theorem wa_yes {n d : Int} {N : Nat} (h : isAng n d = true) (h1 : 2 ≤ N) (h8 : N ≤ 8) : waL n d (N : Int) = wkL (n, d) (N - 1) ∧ waC n d (N : Int) = 0 := by
  have h' : (2 : Int) ≤ (N : Int) ∧ (N : Int) ≤ 8 := by omega
  unfold waL waC
  rw [h, if_pos rfl, if_pos rfl, if_pos h', if_pos h']
  exact ⟨rfl, rfl⟩
theorem wa_range {n d m : Int} (h : isAng n d = true) (h1 : ¬ (2 ≤ m ∧ m ≤ 8)) : waL n d m = [] ∧ waC n d m = 2 := by
  unfold waL waC
  rw [h, if_neg h1, if_neg h1]
  exact ⟨rfl, rfl⟩
theorem wa_no {n d : Int} (m : Int) (h : isAng n d = false) : waL n d m = [] ∧ waC n d m = 1 := by
  unfold waL waC
  rw [h]
  exact ⟨rfl, rfl⟩
theorem waL_len (n d m : Int) : (waL n d m).length ≤ 1000000000000 := by
  unfold waL
  split
  · split
    · next h => have := (wkL_facts (n, d) (m := m.toNat - 1) (by omega)).2.2.2.2; omega
    · simp
  · simp

set_option maxHeartbeats 1000000 in
theorem implWakesOf (n d m : Int) (w : World) : Calls Try.prog 43 #[ang n d, .int .i64 m] w (ResRp w (waL n d m) (waC n d m)) := by
  have HI := Lib.hid (fun w => implIs n d w)
  have HPP := Lib.hid (fun w => implIsPP m w)
  cases ha : isAng n d
  · rw [(wa_no m ha).1, (wa_no m ha).2]
    rw [ha] at HI
    clear ha
    go_enter Try.func43, Try.ntmps43
    go_wp2_with fail
    refine (HI.out _).mono ?_
    rintro e w1 ⟨rfl, hb1⟩
    obtain ⟨hc1, hf1⟩ := bcell hb1
    have hz1_0 : w.heap.size < w1.heap.size := by have := hb1.size; first | omega | (simp at this; omega)
    go_wp2
    go_ret2
    exact ⟨none, 0, rfl, lfOwn_nil, by
      (repeat' (first | (with_reducible exact Below.refl _ _) | (with_reducible assumption) | (with_reducible refine belowNext ?_ (by with_reducible assumption)) | (with_reducible refine belowAlloc ?_ _) | (with_reducible refine Below.drew ?_) | (with_reducible refine below_drewN ?_ _) | (with_reducible refine Below.setCell ?_ ?_ _) | go_size | (with_reducible refine sizeOf' ?_) | (with_reducible refine sizeAdd ?_) | (dsimp only; first | (with_reducible refine sizeOf' ?_) | (with_reducible refine sizeAdd ?_))))⟩
  · rw [ha] at HI
    by_cases h : 2 ≤ m ∧ m ≤ 8
    · obtain ⟨N, rfl⟩ : ∃ N : Nat, m = (N : Int) := ⟨m.toNat, by omega⟩
      rw [(wa_yes ha (by omega) (by omega)).1, (wa_yes ha (by omega) (by omega)).2]
      have HW := Lib.hid (fun w => implWakes n d N w ha (by omega) (by omega))
      generalize wkL (n, d) (N - 1) = K at *
      have t : (decide ((2 : Int) ≤ (N : Int)) && decide ((N : Int) ≤ 8)) = true := by simp; omega
      rw [t] at HPP
      generalize (N : Int) = I at *
      clear ha t
      go_enter Try.func43, Try.ntmps43
      go_wp2_with fail
      refine (HI.out _).mono ?_
      rintro e w1 ⟨rfl, hb1⟩
      obtain ⟨hc1, hf1⟩ := bcell hb1
      have hz1_0 : w.heap.size < w1.heap.size := by have := hb1.size; first | omega | (simp at this; omega)
      have q1_0_0 : w1.cell? ⟨w.heap.size, 0, none⟩ = some (.int .i64 n) := cellThru hb1 (by simp <;> omega) (by simp [go_sem])
      have q1_0_1 : w1.cell? ⟨w.heap.size, 1, none⟩ = some (.int .i64 d) := cellThru hb1 (by simp <;> omega) (by simp [go_sem])
      go_wp2_with fail
      refine (HPP.out _).mono ?_
      rintro e w3 ⟨rfl, rfl⟩
      have B1 : Below w.heap.size w w1 := by
        (repeat' (first | (with_reducible exact Below.refl _ _) | (with_reducible assumption) | (with_reducible refine belowNext ?_ (by with_reducible assumption)) | (with_reducible refine belowAlloc ?_ _) | (with_reducible refine Below.drew ?_) | (with_reducible refine below_drewN ?_ _) | (with_reducible refine Below.setCell ?_ ?_ _) | go_size | (with_reducible refine sizeOf' ?_) | (with_reducible refine sizeAdd ?_) | (dsimp only; first | (with_reducible refine sizeOf' ?_) | (with_reducible refine sizeAdd ?_))))
      clear hc1 hf1 hb1
      go_wp2_with fail
      refine (HW.out _).mono ?_
      rintro e w4 ⟨A, cap, rfl, ho, hb4⟩
      have HO := Lib.hid (ownP_of rfl (ownMono ho B1.size))
      clear ho
      go_wp2
      go_ret2
      exact ⟨A, cap, rfl, HO.out, belowNext B1 hb4⟩
    · rw [(wa_range ha h).1, (wa_range ha h).2]
      have t : (decide ((2 : Int) ≤ m) && decide (m ≤ 8)) = false := by simp; omega
      rw [t] at HPP
      clear ha t
      go_enter Try.func43, Try.ntmps43
      go_wp2_with fail
      refine (HI.out _).mono ?_
      rintro e w1 ⟨rfl, hb1⟩
      obtain ⟨hc1, hf1⟩ := bcell hb1
      have hz1_0 : w.heap.size < w1.heap.size := by have := hb1.size; first | omega | (simp at this; omega)
      go_wp2_with fail
      refine (HPP.out _).mono ?_
      rintro e w3 ⟨rfl, rfl⟩
      go_wp2
      go_ret2
      exact ⟨none, 0, rfl, lfOwn_nil, by
        (repeat' (first | (with_reducible exact Below.refl _ _) | (with_reducible assumption) | (with_reducible refine belowNext ?_ (by with_reducible assumption)) | (with_reducible refine belowAlloc ?_ _) | (with_reducible refine Below.drew ?_) | (with_reducible refine below_drewN ?_ _) | (with_reducible refine Below.setCell ?_ ?_ _) | go_size | (with_reducible refine sizeOf' ?_) | (with_reducible refine sizeAdd ?_) | (dsimp only; first | (with_reducible refine sizeOf' ?_) | (with_reducible refine sizeAdd ?_))))⟩

set_option maxRecDepth 8000 in
set_option maxHeartbeats 1000000 in
theorem specWakesOf (n d m : Int) (w : World) : Calls Try.prog 44 #[ang n d, .int .i64 m] w (ResRp w (waL n d m) (waC n d m)) := by
  have HI := Lib.hid (fun w => specIs1 n d w)
  have HPP := Lib.hid (fun w => inRange m 2 8 w)
  cases ha : isAng n d
  · rw [(wa_no m ha).1, (wa_no m ha).2]
    rw [ha] at HI
    clear ha
    go_enter Try.func44, Try.ntmps44
    go_wp2_with fail
    refine (HI.out _).mono ?_
    rintro e w1 ⟨rfl, hb1⟩
    obtain ⟨hc1, hf1⟩ := bcell hb1
    have hz1_0 : w.heap.size < w1.heap.size := by have := hb1.size; first | omega | (simp at this; omega)
    go_wp2
    go_ret2
    exact ⟨none, 0, rfl, lfOwn_nil, by
      (repeat' (first | (with_reducible exact Below.refl _ _) | (with_reducible assumption) | (with_reducible refine belowNext ?_ (by with_reducible assumption)) | (with_reducible refine belowAlloc ?_ _) | (with_reducible refine Below.drew ?_) | (with_reducible refine below_drewN ?_ _) | (with_reducible refine Below.setCell ?_ ?_ _) | go_size | (with_reducible refine sizeOf' ?_) | (with_reducible refine sizeAdd ?_) | (dsimp only; first | (with_reducible refine sizeOf' ?_) | (with_reducible refine sizeAdd ?_))))⟩
  · rw [ha] at HI
    by_cases h : 2 ≤ m ∧ m ≤ 8
    · obtain ⟨N, rfl⟩ : ∃ N : Nat, m = (N : Int) := ⟨m.toNat, by omega⟩
      rw [(wa_yes ha (by omega) (by omega)).1, (wa_yes ha (by omega) (by omega)).2]
      have HU := Lib.hid (fun w => specPairs N w (by omega) (by omega))
      have HL : Hid (wkOf (n, d) [] ((upK (N - 1)).map (·.1)) = wkL (n, d) (N - 1)) := Lib.hid rfl
      have hll := upK_len (N - 1) (by omega)
      have HS := Lib.hid (fun (A : Option Addr) (len cap : Nat) (w : World) (hr : LfRow w w.heap.size A ((upK (N - 1)).map (·.1))) (hl : ((upK (N - 1)).map (·.1)).length = len) (hm : len ≤ 2000) => specSorted n d A len cap ((upK (N - 1)).map (·.1)) w (isAng_ok ha) (fun p hp => mapOk (m := N - 1) (by omega) p hp) hr hl hm)
      rw [HL.out] at HS
      generalize wkL (n, d) (N - 1) = K at *
      have hll2 : (upK (N - 1)).length ≤ 2000 := by omega
      generalize upK (N - 1) = l at *
      have t : (decide ((2 : Int) ≤ (N : Int)) && decide ((N : Int) ≤ 8)) = true := by simp; omega
      rw [t] at HPP
      generalize (N : Int) = I at *
      clear ha t hll HL
      go_enter Try.func44, Try.ntmps44
      go_wp2_with fail
      refine (HI.out _).mono ?_
      rintro e w1 ⟨rfl, hb1⟩
      obtain ⟨hc1, hf1⟩ := bcell hb1
      have hz1_0 : w.heap.size < w1.heap.size := by have := hb1.size; first | omega | (simp at this; omega)
      have q1_0_0 : w1.cell? ⟨w.heap.size, 0, none⟩ = some (.int .i64 n) := cellThru hb1 (by simp <;> omega) (by simp [go_sem])
      have q1_0_1 : w1.cell? ⟨w.heap.size, 1, none⟩ = some (.int .i64 d) := cellThru hb1 (by simp <;> omega) (by simp [go_sem])
      go_wp2_with fail
      refine (HPP.out _).mono ?_
      rintro e w3 ⟨rfl, rfl⟩
      have B1 : Below w.heap.size w w1 := by
        (repeat' (first | (with_reducible exact Below.refl _ _) | (with_reducible assumption) | (with_reducible refine belowNext ?_ (by with_reducible assumption)) | (with_reducible refine belowAlloc ?_ _) | (with_reducible refine Below.drew ?_) | (with_reducible refine below_drewN ?_ _) | (with_reducible refine Below.setCell ?_ ?_ _) | go_size | (with_reducible refine sizeOf' ?_) | (with_reducible refine sizeAdd ?_) | (dsimp only; first | (with_reducible refine sizeOf' ?_) | (with_reducible refine sizeAdd ?_))))
      have b0 : w.heap.size < w1.drew.heap.size := hz1_0
      clear hc1 hf1 hb1
      go_wp2_with fail
      refine wp_region_any (by kernel_rfl) ?_
      try (change wpAny _ _ _ _ _ _ _ (World.drew _))
      refine wpAny_take (i := 1) (v := ?_) rfl (by kernel_rfl) (by kernel_rfl) (by kernel_rfl) (fun _ _ _ h => h) (Or.inl ⟨by kernel_rfl, ?_⟩) ?_
      rotate_left
      · intro w; first | (go_simp; done) | (go_simp; with_reducible rfl)
      refine wpAny_ready (rs := [0, 2]) (by kernel_rfl) (by simp) ?_
      refine AllReady.cons rfl (fun K hK => ?_) (AllReady.cons rfl (fun K hK => ?_) AllReady.nil)
      · go_simp
        refine hK _ _ ?_
        clear hK K
        refine wpAny_ready (rs := [2]) (by kernel_rfl) (by simp) ?_
        refine AllReady.cons rfl (fun K hK => ?_) AllReady.nil
        go_simp
        go_wp2_with (go_at_call 118; (with_reducible refine (HU.out _).mono ?_); rintro e w4 ⟨A, cap, rfl, ho4, hb4⟩)
        have b4 : w.heap.size < w4.heap.size := Nat.lt_of_lt_of_le b0 hb4.size
        refine wpAny_ready (rs := [3]) (by kernel_rfl) (by simp) ?_
        refine AllReady.cons rfl (fun K hK => ?_) AllReady.nil
        go_simp
        go_wp2_with (go_at_call 117; (with_reducible refine (HS.out A _ cap _ (rowP_of (List.length_map _) ho4) (List.length_map _) hll2).mono ?_); rintro e w5 ⟨A5, cap5, rfl, ho5, hb5⟩)
        refine wpAny_take (i := 4) (v := ?_) rfl (by kernel_rfl) (by kernel_rfl) (by kernel_rfl) (fun _ _ _ h => h) (Or.inl ⟨by kernel_rfl, ?_⟩) ?_
        rotate_left
        · intro w; first | (go_simp; done) | (go_simp; with_reducible rfl)
        refine wpAny_take (i := 5) (v := ?_) rfl (by kernel_rfl) (by kernel_rfl) (by kernel_rfl) (fun _ _ _ h => h) (Or.inl ⟨by kernel_rfl, ?_⟩) ?_
        rotate_left
        · intro w; first | (go_simp; done) | (go_simp; with_reducible rfl)
        refine wpAny_done (by kernel_rfl) ?_ _
        go_wp2_with fail
        go_ret2
        exact ⟨A5, cap5, rfl, ownP_of rfl (ownMono ho5 (Nat.le_of_lt b4)), belowNext (belowNext B1.drew hb4) hb5⟩
      · go_simp
        go_wp2_with (go_at_call 118; (with_reducible refine (HU.out _).mono ?_); rintro e w4 ⟨A, cap, rfl, ho4, hb4⟩)
        have b4 : w.heap.size < w4.heap.size := Nat.lt_of_lt_of_le b0 hb4.size
        have y0 := cellThru hb4 b0 (show w1.drew.cell? ⟨w.heap.size, 0, none⟩ = _ from q1_0_0)
        have y1 := cellThru hb4 b0 (show w1.drew.cell? ⟨w.heap.size, 1, none⟩ = _ from q1_0_1)
        refine wpAny_ready (rs := [0]) (by kernel_rfl) (by simp) ?_
        refine AllReady.cons rfl (fun K hK => ?_) AllReady.nil
        go_simp
        refine hK _ _ ?_
        clear hK K
        refine wpAny_ready (rs := [3]) (by kernel_rfl) (by simp) ?_
        refine AllReady.cons rfl (fun K hK => ?_) AllReady.nil
        go_simp
        go_wp2_with (go_at_call 117; (with_reducible refine (HS.out A _ cap _ (rowP_of (List.length_map _) ho4) (List.length_map _) hll2).mono ?_); rintro e w5 ⟨A5, cap5, rfl, ho5, hb5⟩)
        refine wpAny_take (i := 4) (v := ?_) rfl (by kernel_rfl) (by kernel_rfl) (by kernel_rfl) (fun _ _ _ h => h) (Or.inl ⟨by kernel_rfl, ?_⟩) ?_
        rotate_left
        · intro w; first | (go_simp; done) | (go_simp; with_reducible rfl)
        refine wpAny_take (i := 5) (v := ?_) rfl (by kernel_rfl) (by kernel_rfl) (by kernel_rfl) (fun _ _ _ h => h) (Or.inl ⟨by kernel_rfl, ?_⟩) ?_
        rotate_left
        · intro w; first | (go_simp; done) | (go_simp; with_reducible rfl)
        refine wpAny_done (by kernel_rfl) ?_ _
        go_wp2_with fail
        go_ret2
        exact ⟨A5, cap5, rfl, ownP_of rfl (ownMono ho5 (Nat.le_of_lt b4)), belowNext (belowNext B1.drew hb4) hb5⟩
    · rw [(wa_range ha h).1, (wa_range ha h).2]
      have t : (decide ((2 : Int) ≤ m) && decide (m ≤ 8)) = false := by simp; omega
      rw [t] at HPP
      clear ha t
      go_enter Try.func44, Try.ntmps44
      go_wp2_with fail
      refine (HI.out _).mono ?_
      rintro e w1 ⟨rfl, hb1⟩
      obtain ⟨hc1, hf1⟩ := bcell hb1
      have hz1_0 : w.heap.size < w1.heap.size := by have := hb1.size; first | omega | (simp at this; omega)
      go_wp2_with fail
      refine (HPP.out _).mono ?_
      rintro e w3 ⟨rfl, rfl⟩
      go_wp2
      go_ret2
      exact ⟨none, 0, rfl, lfOwn_nil, by
        (repeat' (first | (with_reducible exact Below.refl _ _) | (with_reducible assumption) | (with_reducible refine belowNext ?_ (by with_reducible assumption)) | (with_reducible refine belowAlloc ?_ _) | (with_reducible refine Below.drew ?_) | (with_reducible refine below_drewN ?_ _) | (with_reducible refine Below.setCell ?_ ?_ _) | go_size | (with_reducible refine sizeOf' ?_) | (with_reducible refine sizeAdd ?_) | (dsimp only; first | (with_reducible refine sizeOf' ?_) | (with_reducible refine sizeAdd ?_))))⟩

set_option maxHeartbeats 2000000 in
theorem lawWakesAround (n d : Int) (_ : (Lit.int .i64 n).wf = true) (_ : (Lit.int .i64 d).wf = true) (m : Int) (_ : (Lit.int .i64 m).wf = true) (w : World) :
    Calls Try.prog 11 #[ang n d, .int .i64 m] w fun e w' => e = .returned (.bool true) ∧ Below w.heap.size w w' := by
  have HA := Lib.hid (fun w => specWakesOf n d m w)
  have HB := Lib.hid (fun w => implWakesOf n d m w)
  have hlen : (waL n d m).length ≤ 1000000000000 := waL_len n d m
  generalize waL n d m = l at *
  generalize waC n d m = C at *
  obtain ⟨len, hl⟩ : ∃ len, l.length = len := ⟨_, rfl⟩
  rw [hl] at hlen
  have HL := Lib.hid hl
  clear hl
  go_enter Try.func11, Try.ntmps11
  go_wp2_with fail
  refine (toAngX _ _ _).mono ?_
  rintro e w1 ⟨rfl, rfl⟩
  go_wp2_with fail
  refine (HA.out _).mono ?_
  rintro e w2 ⟨A, cap, rfl, ha, hb2⟩
  rw [HL.out]
  have hc2 := bcell hb2
  have c0 : w2.cell? ⟨w.heap.size, 0, none⟩ = some (.int .i64 n) := cellThru hb2 (by simp <;> omega) (by simp [go_sem])
  have c1 : w2.cell? ⟨w.heap.size, 1, none⟩ = some (.int .i64 d) := cellThru hb2 (by simp <;> omega) (by simp [go_sem])
  have z2 : w.heap.size < w2.heap.size := by have := hb2.size; simp at this; omega
  have B2 : Below w.heap.size w w2 := by
    (repeat' (first | (with_reducible exact Below.refl _ _) | (with_reducible assumption) | (with_reducible refine belowNext ?_ (by with_reducible assumption)) | (with_reducible refine belowAlloc ?_ _) | (with_reducible refine Below.drew ?_) | (with_reducible refine below_drewN ?_ _) | (with_reducible refine Below.setCell ?_ ?_ _) | go_size | (with_reducible refine sizeOf' ?_) | (with_reducible refine sizeAdd ?_) | (dsimp only; first | (with_reducible refine sizeOf' ?_) | (with_reducible refine sizeAdd ?_))))
  clear hc2 hb2
  have R := Lib.hid ha.row
  clear ha
  go_wp2_with fail
  refine (toAngX _ _ _).mono ?_
  rintro e w3 ⟨rfl, rfl⟩
  go_wp2_with fail
  refine (HB.out _).mono ?_
  rintro e w4 ⟨A', cap', rfl, ha', hb4⟩
  rw [HL.out]
  have s4 := hb4.size
  simp at s4
  have z4 : w.heap.size < w4.heap.size := by omega
  have B24 : Below w2.heap.size w2 w4 := by
    (repeat' (first | (with_reducible exact Below.refl _ _) | (with_reducible assumption) | (with_reducible refine belowNext ?_ (by with_reducible assumption)) | (with_reducible refine belowAlloc ?_ _) | (with_reducible refine Below.drew ?_) | (with_reducible refine below_drewN ?_ _) | (with_reducible refine Below.setCell ?_ ?_ _) | go_size | (with_reducible refine sizeOf' ?_) | (with_reducible refine sizeAdd ?_) | (dsimp only; first | (with_reducible refine sizeOf' ?_) | (with_reducible refine sizeAdd ?_))))
  have c0 : w4.cell? ⟨w.heap.size, 0, none⟩ = some (.int .i64 n) := cellThru B24 z2 c0
  have c1 : w4.cell? ⟨w.heap.size, 1, none⟩ = some (.int .i64 d) := cellThru B24 z2 c1
  have R4 := Lib.hid (R.out.below B24)
  have Rs4 := Lib.hid (R4.out.more B24.size)
  have Q4 := Lib.hid ha'
  clear ha' hb4
  go_wp2_with fail
  refine (eqRpS _ _ _ _ _ l _ Q4.out.row Rs4.out HL.out (by omega)).mono ?_
  rintro e w5 ⟨rfl, hb5⟩
  have c0 : w5.cell? ⟨w.heap.size, 0, none⟩ = some (.int .i64 n) := cellThru hb5 z4 c0
  have c1 : w5.cell? ⟨w.heap.size, 1, none⟩ = some (.int .i64 d) := cellThru hb5 z4 c1
  have z5 : w.heap.size < w5.heap.size := by have := hb5.size; omega
  have R5 := Lib.hid (R4.out.below (hb5.mono B24.size))
  have Q5 := Lib.hid (Q4.out.next hb5)
  have B25 : Below w2.heap.size w2 w5 := belowNext B24 hb5
  go_wp2_with fail
  refine (markRp _ _ _ l _ _ _ Q5.out HL.out (by omega) (by omega) hlen).mono ?_
  rintro e w6 ⟨rfl, H6⟩
  simp only [World.size_alloc] at H6
  have b6 := H6.out.2.mono (show w2.heap.size ≤ w2.heap.size + 1 + 1 + 1 by omega)
  have c0 : w6.cell? ⟨w.heap.size, 0, none⟩ = some (.int .i64 n) := (b6.cell (p := ⟨w.heap.size, 0, none⟩) z2).trans c0
  have c1 : w6.cell? ⟨w.heap.size, 1, none⟩ = some (.int .i64 d) := (b6.cell (p := ⟨w.heap.size, 1, none⟩) z2).trans c1
  have z6 : w.heap.size < w6.heap.size := by have := b6.size; omega
  have R6 := Lib.hid (R5.out.below b6)
  have Q6 := Lib.hid H6.out.1
  have B26 : Below w2.heap.size w2 w6 := B25.trans b6
  have nn : (1 + 4 * (len : Int) < 0) = False := by simp; omega
  clear b6 H6 hb5
  go_wp2_with fail
  refine (heldRp _ _ _ _ _ Q6.out.row (by omega) (by omega) hlen).mono ?_
  rintro e w7 ⟨rfl, rfl⟩
  go_wp2_with fail
  refine (toAngX _ _ _).mono ?_
  rintro e w8 ⟨rfl, rfl⟩
  go_wp2_with fail
  refine (HB.out _).mono ?_
  rintro e w9 ⟨A'', cap'', rfl, ha'', hb9⟩
  rw [HL.out]
  have s9 := hb9.size
  simp at s9
  have B69 : Below w6.heap.size w6 w9 := by
    (repeat' (first | (with_reducible exact Below.refl _ _) | (with_reducible assumption) | (with_reducible refine belowNext ?_ (by with_reducible assumption)) | (with_reducible refine belowAlloc ?_ _) | (with_reducible refine Below.drew ?_) | (with_reducible refine below_drewN ?_ _) | (with_reducible refine Below.setCell ?_ ?_ _) | go_size | (with_reducible refine sizeOf' ?_) | (with_reducible refine sizeAdd ?_) | (dsimp only; first | (with_reducible refine sizeOf' ?_) | (with_reducible refine sizeAdd ?_))))
  have B29 : Below w2.heap.size w2 w9 := belowNext B26 B69
  have R9 := Lib.hid ((R6.out.below (B69.mono B26.size)).more B29.size)
  have Q9 := Lib.hid (Q6.out.next B69)
  have P9 := Lib.hid ha''.row
  clear ha'' hb9
  go_wp2_with fail
  refine (eqRpS _ _ _ _ _ l _ P9.out R9.out HL.out (by omega)).mono ?_
  rintro e w10 ⟨rfl, hb10⟩
  have Q10 := Lib.hid (Q9.out.next hb10)
  go_wp2_with fail
  refine (heldRp _ _ _ _ _ Q10.out.row (by omega) (by omega) hlen).mono ?_
  rintro e w11 ⟨rfl, rfl⟩
  go_wp2
  go_ret
  exact ⟨rfl, belowNext (belowNext B2 B29) hb10⟩
end Go.Proofs.Ytfakkibacepdeaa

/-
  The walk of the exact law of halves.
-/
import Derived.Test.YtbdedljhdjjlaaaW20
namespace Go.Proofs.Ytbdedljhdjjlaaa
open Go.RowKit

set_option maxHeartbeats 1000000 in
theorem specHalves (n d : Int) (w : World) : Calls Try.prog 17 #[ang n d] w (ResAng w (halL n d) (halC n d)) := by
  have HS := Lib.hid (fun w => specIs1 n d w)
  cases h1 : isAng n d
  · obtain ⟨e1, e2⟩ := hal_no h1
    rw [e1, e2]
    rw [h1] at HS
    clear e1 e2 h1
    go_enter Try.func17, Try.ntmps17
    go_wp2_with fail
    refine (HS.out _).mono ?_
    rintro e w1 ⟨rfl, hb1⟩
    go_wp2
    go_ret2
    refine ⟨none, 0, rfl, own_nil, ?_⟩
    (repeat' (first | (with_reducible exact Below.refl _ _) | (with_reducible assumption) | (with_reducible refine belowNext ?_ (by with_reducible assumption)) | (with_reducible refine belowAlloc ?_ _) | (with_reducible refine Below.drew ?_) | (with_reducible refine below_drewN ?_ _) | (with_reducible refine Below.setCell ?_ ?_ _) | go_size | (with_reducible refine sizeOf' ?_) | (with_reducible refine sizeAdd ?_) | (dsimp only; first | (with_reducible refine sizeOf' ?_) | (with_reducible refine sizeAdd ?_))))
  · have HH := Lib.hid (fun w => specHal3 n d w (isAng_ok h1))
    rw [h1] at HS
    cases h2 : halOk n d
    · obtain ⟨e1, e2⟩ := hal_far h1 h2
      rw [e1, e2]
      rw [h2] at HH
      clear e1 e2 h1 h2
      generalize redN n (2 * d) = x at *
      generalize redD n (2 * d) = y at *
      generalize redN (n + d) (2 * d) = x' at *
      generalize redD (n + d) (2 * d) = y' at *
      go_enter Try.func17, Try.ntmps17
      go_wp2_with fail
      refine (HS.out _).mono ?_
      rintro e w1 ⟨rfl, hb1⟩
      have hz1 : w.heap.size < w1.heap.size := by have := hb1.size; simp at this; omega
      obtain ⟨hc1, hf1⟩ := bcell hb1
      go_wp2_with fail
      refine (HH.out _).mono ?_
      rintro e w2 ⟨rfl, hb2⟩
      go_wp2
      try go_region
      all_goals
        go_wp2
        go_ret2
        refine ⟨none, 0, rfl, own_nil, ?_⟩
        (repeat' (first | (with_reducible exact Below.refl _ _) | (with_reducible assumption) | (with_reducible refine belowNext ?_ (by with_reducible assumption)) | (with_reducible refine belowAlloc ?_ _) | (with_reducible refine Below.drew ?_) | (with_reducible refine below_drewN ?_ _) | (with_reducible refine Below.setCell ?_ ?_ _) | go_size | (with_reducible refine sizeOf' ?_) | (with_reducible refine sizeAdd ?_) | (dsimp only; first | (with_reducible refine sizeOf' ?_) | (with_reducible refine sizeAdd ?_))))
    · obtain ⟨e1, e2⟩ := hal_yes h1 h2
      rw [e1, e2]
      rw [h2] at HH
      clear e1 e2 h1 h2
      generalize redN n (2 * d) = x at *
      generalize redD n (2 * d) = y at *
      generalize redN (n + d) (2 * d) = x' at *
      generalize redD (n + d) (2 * d) = y' at *
      go_enter Try.func17, Try.ntmps17
      go_wp2_with fail
      refine (HS.out _).mono ?_
      rintro e w1 ⟨rfl, hb1⟩
      have hz1 : w.heap.size < w1.heap.size := by have := hb1.size; simp at this; omega
      obtain ⟨hc1, hf1⟩ := bcell hb1
      go_wp2_with fail
      refine (HH.out _).mono ?_
      rintro e w2 ⟨rfl, hb2⟩
      go_wp2
      try go_region
      all_goals
        go_wp2
        go_ret2
        refine ⟨some ⟨_, 0, none⟩, 2, rfl, own2 _ ?_ _ _ _ _ _ _ ?_, ?_⟩
        · (repeat' (first | (with_reducible exact Below.refl _ _) | (with_reducible assumption) | (with_reducible refine belowNext ?_ (by with_reducible assumption)) | (with_reducible refine belowAlloc ?_ _) | (with_reducible refine Below.drew ?_) | (with_reducible refine below_drewN ?_ _) | (with_reducible refine Below.setCell ?_ ?_ _) | go_size | (with_reducible refine sizeOf' ?_) | (with_reducible refine sizeAdd ?_) | (dsimp only; first | (with_reducible refine sizeOf' ?_) | (with_reducible refine sizeAdd ?_))))
        · simp
        · (repeat' (first | (with_reducible exact Below.refl _ _) | (with_reducible assumption) | (with_reducible refine belowNext ?_ (by with_reducible assumption)) | (with_reducible refine belowAlloc ?_ _) | (with_reducible refine Below.drew ?_) | (with_reducible refine below_drewN ?_ _) | (with_reducible refine Below.setCell ?_ ?_ _) | go_size | (with_reducible refine sizeOf' ?_) | (with_reducible refine sizeAdd ?_) | (dsimp only; first | (with_reducible refine sizeOf' ?_) | (with_reducible refine sizeAdd ?_))))

theorem halL_len (n d : Int) : (halL n d).length ≤ 1000000000000 := by
  unfold halL; split <;> simp

set_option maxHeartbeats 2000000 in
theorem lawHalvesOf (n d : Int) (_ : (Lit.int .i64 n).wf = true) (_ : (Lit.int .i64 d).wf = true) (w : World) :
    Calls Try.prog 6 #[ang n d] w fun e w' => e = .returned (.bool true) ∧ Below w.heap.size w w' := by
  have HA := Lib.hid (fun w => specHalves n d w)
  have HB := Lib.hid (fun w => implHalves n d w)
  have hlen : (halL n d).length ≤ 1000000000000 := halL_len n d
  generalize halL n d = l at *
  generalize halC n d = C at *
  obtain ⟨len, hl⟩ : ∃ len, l.length = len := ⟨_, rfl⟩
  rw [hl] at hlen
  have HL := Lib.hid hl
  clear hl
  go_enter Try.func6, Try.ntmps6
  go_wp2_with fail
  refine (toAngX _ _ _).mono ?_
  rintro e w1 ⟨rfl, rfl⟩
  go_wp2_with fail
  refine (HA.out _).mono ?_
  rintro e w2 ⟨A, cap, rfl, ha, hb2⟩
  rw [HL.out]
  have hc2 := bcell hb2
  have c0 : w2.cell? ⟨w.heap.size, 0, none⟩ = some (.int .i64 n) := cellThru hb2 (by simp <;> omega) (by simp [go_sem])
  have c1 : w2.cell? ⟨w.heap.size, 1, none⟩ = some (.int .i64 d) := cellThru hb2 (by simp <;> omega) (by simp [go_sem])
  have z2 : w.heap.size < w2.heap.size := by have := hb2.size; simp at this; omega
  have B2 : Below w.heap.size w w2 := by
    (repeat' (first | (with_reducible exact Below.refl _ _) | (with_reducible assumption) | (with_reducible refine belowNext ?_ (by with_reducible assumption)) | (with_reducible refine belowAlloc ?_ _) | (with_reducible refine Below.drew ?_) | (with_reducible refine below_drewN ?_ _) | (with_reducible refine Below.setCell ?_ ?_ _) | go_size | (with_reducible refine sizeOf' ?_) | (with_reducible refine sizeAdd ?_) | (dsimp only; first | (with_reducible refine sizeOf' ?_) | (with_reducible refine sizeAdd ?_))))
  clear hc2 hb2
  have R := Lib.hid ha.row
  clear ha
  go_wp2_with fail
  refine (toAngX _ _ _).mono ?_
  rintro e w3 ⟨rfl, rfl⟩
  go_wp2_with fail
  refine (HB.out _).mono ?_
  rintro e w4 ⟨A', cap', rfl, ha', hb4⟩
  rw [HL.out]
  have s4 := hb4.size
  simp at s4
  have z4 : w.heap.size < w4.heap.size := by omega
  have B24 : Below w2.heap.size w2 w4 := by
    (repeat' (first | (with_reducible exact Below.refl _ _) | (with_reducible assumption) | (with_reducible refine belowNext ?_ (by with_reducible assumption)) | (with_reducible refine belowAlloc ?_ _) | (with_reducible refine Below.drew ?_) | (with_reducible refine below_drewN ?_ _) | (with_reducible refine Below.setCell ?_ ?_ _) | go_size | (with_reducible refine sizeOf' ?_) | (with_reducible refine sizeAdd ?_) | (dsimp only; first | (with_reducible refine sizeOf' ?_) | (with_reducible refine sizeAdd ?_))))
  have c0 : w4.cell? ⟨w.heap.size, 0, none⟩ = some (.int .i64 n) := cellThru B24 z2 c0
  have c1 : w4.cell? ⟨w.heap.size, 1, none⟩ = some (.int .i64 d) := cellThru B24 z2 c1
  have R4 := Lib.hid (R.out.below B24)
  have Rs4 := Lib.hid (R4.out.more B24.size)
  have Q4 := Lib.hid ha'
  clear ha' hb4
  go_wp2_with fail
  refine (eqAngS _ _ _ _ _ l _ Q4.out.row Rs4.out HL.out (by omega)).mono ?_
  rintro e w5 ⟨rfl, hb5⟩
  have c0 : w5.cell? ⟨w.heap.size, 0, none⟩ = some (.int .i64 n) := cellThru hb5 z4 c0
  have c1 : w5.cell? ⟨w.heap.size, 1, none⟩ = some (.int .i64 d) := cellThru hb5 z4 c1
  have z5 : w.heap.size < w5.heap.size := by have := hb5.size; omega
  have R5 := Lib.hid (R4.out.below (hb5.mono B24.size))
  have Q5 := Lib.hid (Q4.out.next hb5)
  have B25 : Below w2.heap.size w2 w5 := belowNext B24 hb5
  go_wp2_with fail
  refine (markAng _ _ _ l _ _ _ Q5.out HL.out (by omega) (by omega) hlen).mono ?_
  rintro e w6 ⟨rfl, H6⟩
  simp only [World.size_alloc] at H6
  have b6 := H6.out.2.mono (show w2.heap.size ≤ w2.heap.size + 1 + 1 + 1 by omega)
  have c0 : w6.cell? ⟨w.heap.size, 0, none⟩ = some (.int .i64 n) := (b6.cell (p := ⟨w.heap.size, 0, none⟩) z2).trans c0
  have c1 : w6.cell? ⟨w.heap.size, 1, none⟩ = some (.int .i64 d) := (b6.cell (p := ⟨w.heap.size, 1, none⟩) z2).trans c1
  have z6 : w.heap.size < w6.heap.size := by have := b6.size; omega
  have R6 := Lib.hid (R5.out.below b6)
  have Q6 := Lib.hid H6.out.1
  have B26 : Below w2.heap.size w2 w6 := B25.trans b6
  have nn : (1 + 2 * (len : Int) < 0) = False := by simp; omega
  clear b6 H6 hb5
  go_wp2_with fail
  refine (heldAng _ _ _ _ _ Q6.out.row (by omega) (by omega) hlen).mono ?_
  rintro e w7 ⟨rfl, rfl⟩
  go_wp2_with fail
  refine (toAngX _ _ _).mono ?_
  rintro e w8 ⟨rfl, rfl⟩
  go_wp2_with fail
  refine (HB.out _).mono ?_
  rintro e w9 ⟨A'', cap'', rfl, ha'', hb9⟩
  rw [HL.out]
  have s9 := hb9.size
  simp at s9
  have B69 : Below w6.heap.size w6 w9 := by
    (repeat' (first | (with_reducible exact Below.refl _ _) | (with_reducible assumption) | (with_reducible refine belowNext ?_ (by with_reducible assumption)) | (with_reducible refine belowAlloc ?_ _) | (with_reducible refine Below.drew ?_) | (with_reducible refine below_drewN ?_ _) | (with_reducible refine Below.setCell ?_ ?_ _) | go_size | (with_reducible refine sizeOf' ?_) | (with_reducible refine sizeAdd ?_) | (dsimp only; first | (with_reducible refine sizeOf' ?_) | (with_reducible refine sizeAdd ?_))))
  have B29 : Below w2.heap.size w2 w9 := belowNext B26 B69
  have R9 := Lib.hid ((R6.out.below (B69.mono B26.size)).more B29.size)
  have Q9 := Lib.hid (Q6.out.next B69)
  have P9 := Lib.hid ha''.row
  clear ha'' hb9
  go_wp2_with fail
  refine (eqAngS _ _ _ _ _ l _ P9.out R9.out HL.out (by omega)).mono ?_
  rintro e w10 ⟨rfl, hb10⟩
  have Q10 := Lib.hid (Q9.out.next hb10)
  go_wp2_with fail
  refine (heldAng _ _ _ _ _ Q10.out.row (by omega) (by omega) hlen).mono ?_
  rintro e w11 ⟨rfl, rfl⟩
  go_wp2
  go_ret
  exact ⟨rfl, belowNext (belowNext B2 B29) hb10⟩

end Go.Proofs.Ytbdedljhdjjlaaa

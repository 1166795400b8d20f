/-
  The walk of the law of RotationSet.
-/
import Derived.Test.YtlmgpecfbpcgaaaP3
namespace Go.Proofs.Ytlmgpecfbpcgaaa
open Go.RowKit

set_option maxHeartbeats 2000000 in
theorem lawRotationSet (q : Int) (_ : (Lit.int .i64 q).wf = true) (v : Int) (_ : (Lit.int .i64 v).wf = true) (w : World) :
    Calls Try.prog 10 #[.int .i64 q, .int .i64 v] w fun e w' => e = .returned (.bool true) ∧ Below w.heap.size w w' := by
  obtain ⟨l, C, hIs⟩ := ro_ex q v
  have HA := Lib.hid (fun w => specRotSet q v w l C hIs)
  have HB := Lib.hid (fun w => implRotSet q v w l C hIs)
  have hlen : l.length ≤ 1000000000000 := Nat.le_trans (ro_len hIs) (by omega)
  clear hIs
  obtain ⟨len, hl⟩ : ∃ len, l.length = len := ⟨_, rfl⟩
  rw [hl] at hlen
  have HL := Lib.hid hl
  clear hl
  go_enter Try.func10, Try.ntmps10
  go_wp2_with fail
  refine (HA.out _).mono ?_
  rintro e w2 ⟨A, cap, rfl, ha, hb2⟩
  rw [HL.out]
  have B2 : Below w.heap.size w w2 := by
    (repeat' (first | (with_reducible exact Below.refl _ _) | (with_reducible assumption) | (with_reducible refine belowNext ?_ (by with_reducible assumption)) | (with_reducible refine belowAlloc ?_ _) | (with_reducible refine Below.drew ?_) | (with_reducible refine below_drewN ?_ _) | (with_reducible refine Below.setCell ?_ ?_ _) | go_size | (with_reducible refine sizeOf' ?_) | (with_reducible refine sizeAdd ?_) | (dsimp only; first | (with_reducible refine sizeOf' ?_) | (with_reducible refine sizeAdd ?_))))
  clear hb2
  have R := Lib.hid ha.row
  clear ha
  go_wp2_with fail
  refine (HB.out _).mono ?_
  rintro e w4 ⟨A', cap', rfl, ha', hb4⟩
  rw [HL.out]
  have s4 := hb4.size
  try simp at s4
  have B24 : Below w2.heap.size w2 w4 := by
    (repeat' (first | (with_reducible exact Below.refl _ _) | (with_reducible assumption) | (with_reducible refine belowNext ?_ (by with_reducible assumption)) | (with_reducible refine belowAlloc ?_ _) | (with_reducible refine Below.drew ?_) | (with_reducible refine below_drewN ?_ _) | (with_reducible refine Below.setCell ?_ ?_ _) | go_size | (with_reducible refine sizeOf' ?_) | (with_reducible refine sizeAdd ?_) | (dsimp only; first | (with_reducible refine sizeOf' ?_) | (with_reducible refine sizeAdd ?_))))
  have R4 := Lib.hid (R.out.below B24)
  have Rs4 := Lib.hid (R4.out.more B24.size)
  have Q4 := Lib.hid ha'
  clear ha' hb4
  go_wp2_with fail
  refine (eqAngS _ _ _ _ _ l _ Q4.out.row Rs4.out HL.out (by omega)).mono ?_
  rintro e w5 ⟨rfl, hb5⟩
  have R5 := Lib.hid (R4.out.below (hb5.mono B24.size))
  have Q5 := Lib.hid (Q4.out.next hb5)
  have B25 : Below w2.heap.size w2 w5 := belowNext B24 hb5
  go_wp2_with fail
  refine (markAng _ _ _ l _ _ _ Q5.out HL.out (by omega) (by omega) hlen).mono ?_
  rintro e w6 ⟨rfl, H6⟩
  try simp only [World.size_alloc] at H6
  have b6 : Below w2.heap.size w5 w6 := by first | exact H6.out.2 | exact H6.out.2.mono (by omega)
  have R6 := Lib.hid (R5.out.below b6)
  have Q6 := Lib.hid H6.out.1
  have B26 : Below w2.heap.size w2 w6 := B25.trans b6
  have nn : (1 + 2 * (len : Int) < 0) = False := by simp; omega
  clear b6 H6 hb5
  go_wp2_with fail
  refine (heldAng _ _ _ _ _ Q6.out.row (by omega) (by omega) hlen).mono ?_
  rintro e w7 ⟨rfl, rfl⟩
  go_wp2_with fail
  refine (HB.out _).mono ?_
  rintro e w9 ⟨A'', cap'', rfl, ha'', hb9⟩
  rw [HL.out]
  have s9 := hb9.size
  try simp at s9
  have B69 : Below w6.heap.size w6 w9 := by
    (repeat' (first | (with_reducible exact Below.refl _ _) | (with_reducible assumption) | (with_reducible refine belowNext ?_ (by with_reducible assumption)) | (with_reducible refine belowAlloc ?_ _) | (with_reducible refine Below.drew ?_) | (with_reducible refine below_drewN ?_ _) | (with_reducible refine Below.setCell ?_ ?_ _) | go_size | (with_reducible refine sizeOf' ?_) | (with_reducible refine sizeAdd ?_) | (dsimp only; first | (with_reducible refine sizeOf' ?_) | (with_reducible refine sizeAdd ?_))))
  have B29 : Below w2.heap.size w2 w9 := belowNext B26 B69
  have R9 := Lib.hid ((R6.out.below (B69.mono B26.size)).more B29.size)
  have Q9 := Lib.hid (Q6.out.next B69)
  have P9 := Lib.hid ha''.row
  clear ha'' hb9
  go_wp2_with fail
  refine (eqAngS _ _ _ _ _ l _ P9.out R9.out HL.out (by omega)).mono ?_
  rintro e w10 ⟨rfl, hb10⟩
  have Q10 := Lib.hid (Q9.out.next hb10)
  go_wp2_with fail
  refine (heldAng _ _ _ _ _ Q10.out.row (by omega) (by omega) hlen).mono ?_
  rintro e w11 ⟨rfl, rfl⟩
  go_wp2
  go_ret
  exact ⟨rfl, belowNext (belowNext B2 B29) hb10⟩

end Go.Proofs.Ytlmgpecfbpcgaaa

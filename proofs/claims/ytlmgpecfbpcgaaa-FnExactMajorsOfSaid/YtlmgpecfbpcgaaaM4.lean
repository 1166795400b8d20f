/-
  The walk of the law of MajorsOf: one leaf, the answer a list of leaves.
-/
import Derived.Test.YtlmgpecfbpcgaaaM9
import Derived.Test.YtlmgpecfbpcgaaaVL13
namespace Go.Proofs.Ytlmgpecfbpcgaaa
open Go.RowKit

set_option maxHeartbeats 2000000 in
theorem lawMajorsOf (a b c d : Int) (_ : (Lit.int .i64 a).wf = true) (_ : (Lit.int .i64 b).wf = true) (_ : (Lit.int .i64 c).wf = true) (_ : (Lit.int .i64 d).wf = true) (w : World) :
    Calls Try.prog 6 #[leafV a b c d] w fun e w' => e = .returned (.bool true) ∧ Below w.heap.size w w' := by
  have HA := Lib.hid (fun w => specMaj a b c d w)
  have HB := Lib.hid (fun w => implMaj a b c d w)
  have hlen := mj_len a b c d
  generalize mjL a b c d = l at *
  generalize mjC a b c d = C at *
  obtain ⟨len, hl⟩ : ∃ len, l.length = len := ⟨_, rfl⟩
  rw [hl] at hlen
  have HL := Lib.hid hl
  clear hl
  go_enter Try.func6, Try.ntmps6
  go_wp2_with fail
  refine (toLf _ _ _ _ _).mono ?_
  rintro e w1 ⟨rfl, hb1⟩
  have K1 : Box4 w w1 a b c d := (⟨by simp, by simp [go_sem], by simp [go_sem], by simp [go_sem], by simp [go_sem]⟩ : Box4 w (w.alloc (.cells #[.int .i64 a, .int .i64 b, .int .i64 c, .int .i64 d] 31)) a b c d).on hb1
  have B1 : Below w.heap.size w w1 := by
    (repeat' (first | (with_reducible exact Below.refl _ _) | (with_reducible assumption) | (with_reducible refine belowNext ?_ (by with_reducible assumption)) | (with_reducible refine belowAlloc ?_ _) | (with_reducible refine Below.drew ?_) | (with_reducible refine below_drewN ?_ _) | (with_reducible refine Below.setCell ?_ ?_ _) | go_size | (with_reducible refine sizeOf' ?_) | (with_reducible refine sizeAdd ?_) | (dsimp only; first | (with_reducible refine sizeOf' ?_) | (with_reducible refine sizeAdd ?_))))
  clear hb1
  go_wp2_with fail
  refine (HA.out _).mono ?_
  rintro e w2 ⟨A, cap, rfl, ha, hb2⟩
  rw [HL.out]
  have K2 := K1.on hb2
  have B2 : Below w.heap.size w w2 := belowNext B1 hb2
  have R := Lib.hid ha.row
  clear hb2 ha K1 B1
  obtain ⟨z2, c0, c1, c2, c3⟩ := id K2
  go_wp2_with fail
  refine (toLf _ _ _ _ _).mono ?_
  rintro e w3 ⟨rfl, hb3⟩
  have K3 := K2.on hb3
  clear z2 c0 c1 c2 c3
  go_wp2_with fail
  refine (HB.out _).mono ?_
  rintro e w4 ⟨A', cap', rfl, ha', hb4⟩
  rw [HL.out]
  have K4 := K3.on hb4
  have B24 : Below w2.heap.size w2 w4 := belowNext hb3 hb4
  have z23 : w2.heap.size ≤ w3.heap.size := hb3.size
  have R4 := Lib.hid (R.out.below B24)
  have Rs4 := Lib.hid (R4.out.more B24.size)
  have Q4 := Lib.hid ha'
  clear ha' hb4 hb3
  go_wp2_with fail
  refine (eqLfS _ _ _ _ _ l _ Q4.out.row Rs4.out HL.out (by omega)).mono ?_
  rintro e w5 ⟨rfl, hb5⟩
  have K5 := K4.on hb5
  have R5 := Lib.hid (R4.out.below (hb5.mono B24.size))
  have Q5 := Lib.hid (Q4.out.next hb5)
  have B25 : Below w2.heap.size w2 w5 := belowNext B24 hb5
  clear hb5
  go_wp2_with fail
  refine (markLf _ _ _ l _ _ _ Q5.out HL.out (by omega) (by omega) hlen).mono ?_
  rintro e w6 ⟨rfl, H6⟩
  have b6 := H6.out.2.mono z23
  have s6 := H6.out.2.size
  have K6 := K5.next b6 K2.z s6
  have R6 := Lib.hid (R5.out.below b6)
  have Q6 := Lib.hid H6.out.1
  have B26 : Below w2.heap.size w2 w6 := B25.trans b6
  have nn : (1 + 4 * (len : Int) < 0) = False := by simp; omega
  clear b6 H6 K5 K4 K3
  obtain ⟨z6, c0, c1, c2, c3⟩ := id K6
  go_wp2_with fail
  refine (heldLf _ _ _ _ _ Q6.out.row (by omega) (by omega) hlen).mono ?_
  rintro e w7 ⟨rfl, rfl⟩
  go_wp2_with fail
  refine (toLf _ _ _ _ _).mono ?_
  rintro e w8 ⟨rfl, hb8⟩
  go_wp2_with fail
  refine (HB.out _).mono ?_
  rintro e w9 ⟨A'', cap'', rfl, ha9, hb9⟩
  rw [HL.out]
  have B69 : Below w6.heap.size w6 w9 := belowNext hb8 hb9
  have R9 := Lib.hid ((R6.out.below (B69.mono B26.size)).more (B26.trans (B69.mono B26.size)).size)
  have Q9 := Lib.hid ha9
  have Q69 := Lib.hid (Q6.out.next B69)
  have B29 : Below w2.heap.size w2 w9 := B26.trans (B69.mono B26.size)
  clear ha9 hb9 hb8
  go_wp2_with fail
  refine (eqLfS _ _ _ _ _ l _ Q9.out.row R9.out HL.out (by omega)).mono ?_
  rintro e w10 ⟨rfl, hb10⟩
  have Q10 := Lib.hid (Q69.out.next hb10)
  have B210 : Below w2.heap.size w2 w10 := belowNext B29 hb10
  have B10 : Below w.heap.size w w10 := B2.trans (B210.mono B2.size)
  clear hb10
  go_wp2_with fail
  refine (heldLf _ _ _ _ _ Q10.out.row (by omega) (by omega) hlen).mono ?_
  rintro e w11 ⟨rfl, rfl⟩
  go_wp2
  go_ret
  exact ⟨rfl, B10⟩
end Go.Proofs.Ytlmgpecfbpcgaaa

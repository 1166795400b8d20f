/-
  The walk of the exact law of AdmissibleWords.
-/
import Derived.Test.YtdemgialagjomaaAX
namespace Go.Proofs.Ytdemgialagjomaa
open Go.RowKit

set_option maxHeartbeats 2000000 in
theorem lawAdmissibleWords (n : Int) (_ : (Lit.int .i64 n).wf = true) (w : World) :
    Calls Try.prog 3 #[.int .i64 n] w fun e w' => e = .returned (.bool true) ∧ Below w.heap.size w w' := by
  have HA := Lib.hid (fun w => specAdm n w)
  have HB := Lib.hid (fun w => implAdm n w)
  have hlen : (admL n).length ≤ 256 := adm_len n
  generalize admL n = l at *
  generalize admC n = C at *
  obtain ⟨len, hl⟩ : ∃ len, l.length = len := ⟨_, rfl⟩
  rw [hl] at hlen
  have HL := Lib.hid hl
  clear hl
  go_enter Try.func3, Try.ntmps3
  go_wp2_with fail
  refine (HA.out _).mono ?_
  rintro e w2 ⟨A, cap, rfl, ha, hb2⟩
  rw [HL.out]
  have B2 := hb2
  have R := Lib.hid ha.row
  clear ha
  go_wp2_with fail
  refine (HB.out _).mono ?_
  rintro e w4 ⟨A', cap', rfl, ha', hb4⟩
  rw [HL.out]
  have B24 := hb4
  have R4 := Lib.hid (R.out.below B24)
  have Rs4 := Lib.hid (R4.out.more B24.size)
  have Q4 := Lib.hid ha'
  clear ha'
  go_wp2_with fail
  refine (eqStrS _ _ _ _ _ l _ Q4.out.row Rs4.out HL.out (by omega)).mono ?_
  rintro e w5 ⟨rfl, hb5⟩
  have hb5 : Below w4.heap.size w4 w5 := by obtain ⟨nq, e⟩ := hb5.out; rw [e]; exact below_drewN (Below.refl _ _) nq
  have R5 := Lib.hid (R4.out.below (hb5.mono B24.size))
  have Q5 := Lib.hid (Q4.out.next hb5)
  have B25 : Below w2.heap.size w2 w5 := belowNext B24 hb5
  go_wp2_with fail
  refine (markStr1 _ _ _ l _ _ Q5.out HL.out (by omega)).mono ?_
  rintro e w6 ⟨rfl, H6⟩
  try simp only [World.size_alloc] at H6
  have b6 := H6.out.2.1.mono (show w2.heap.size ≤ _ by simp <;> omega)
  have R6 := Lib.hid (R5.out.below b6)
  have Q6 := Lib.hid H6.out.1
  have B26 : Below w2.heap.size w2 w6 := B25.trans b6
  have nn : (1 + (len : Int) < 0) = False := by simp; omega
  clear b6 H6
  go_wp2_with fail
  refine (heldStr1 _ _ _ _ Q6.out.row (by omega)).mono ?_
  rintro e w7 ⟨rfl, hb7⟩
  have R6 := Lib.hid (R6.out.below (hb7.mono B26.size))
  have Q6 := Lib.hid (Q6.out.next hb7)
  have B26 : Below w2.heap.size w2 w7 := belowNext B26 hb7
  clear hb7
  go_wp2_with fail
  refine (HB.out _).mono ?_
  rintro e w9 ⟨A'', cap'', rfl, ha'', hb9⟩
  rw [HL.out]
  have B69 := hb9
  have B29 : Below w2.heap.size w2 w9 := belowNext B26 B69
  have R9 := Lib.hid ((R6.out.below (B69.mono B26.size)).more B29.size)
  have Q9 := Lib.hid (Q6.out.next B69)
  have P9 := Lib.hid ha''.row
  clear ha''
  go_wp2_with fail
  refine (eqStrS _ _ _ _ _ l _ P9.out R9.out HL.out (by omega)).mono ?_
  rintro e w10 ⟨rfl, hb10⟩
  have hb10 : Below w9.heap.size w9 w10 := by obtain ⟨nq, e⟩ := hb10.out; rw [e]; exact below_drewN (Below.refl _ _) nq
  have Q10 := Lib.hid (Q9.out.next hb10)
  go_wp2_with fail
  refine (heldStr1 _ _ _ _ Q10.out.row (by omega)).mono ?_
  rintro e w11 ⟨rfl, hb11⟩
  go_wp2
  go_ret
  exact ⟨rfl, belowNext (belowNext (belowNext B2 B29) hb10) hb11⟩
end Go.Proofs.Ytdemgialagjomaa

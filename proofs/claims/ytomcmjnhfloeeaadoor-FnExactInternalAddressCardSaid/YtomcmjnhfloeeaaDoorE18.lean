/-
  The walk of the law of InternalAddress; written by genE18.py.
-/
import Derived.Test.YtomcmjnhfloeeaaDoorE17
namespace Go.Proofs.YtomcmjnhfloeeaaDoor
open Go.RowKit

theorem cnt_ex (x y : Wd) (f : Nat) : ∀ most, ∃ c, CntIs x y f most c
  | 0 => ⟨0, Nat.le_refl _, fun j hj => absurd hj (by omega), .inl rfl⟩
  | most + 1 => by
    obtain ⟨c, h1, h2, h3⟩ := cnt_ex x y f most
    by_cases hz : seqR x y f c = 0
    · exact ⟨c, by omega, h2, .inr hz⟩
    · have hc : c = most := h3.resolve_right hz
      refine ⟨c + 1, by omega, fun j hj => ?_, .inl (by omega)⟩
      rcases Nat.lt_or_ge j c with h4 | h4
      · exact h2 j h4
      · rw [show j = c by omega]; exact hz
/-- What InternalAddress answers. -/
def IaIs (x y : Wd) (l : List Int) (C : Int) : Prop :=
  (isSeq x y = false ∧ l = [] ∧ C = 1) ∨ (isSeq x y = true ∧ (∃ c, CntIs x y 1 20 c ∧ l = numsI (firstR x y 1 c)) ∧ C = 0)
theorem ia_ex (x y : Wd) : ∃ l C, IaIs x y l C := by
  cases h : isSeq x y
  · exact ⟨[], 1, .inl ⟨h, rfl, rfl⟩⟩
  · obtain ⟨c, hc⟩ := cnt_ex x y 1 20
    exact ⟨_, 0, .inr ⟨h, ⟨c, hc, rfl⟩, rfl⟩⟩
theorem ia_len {x y : Wd} {l : List Int} {C : Int} (h : IaIs x y l C) : l.length ≤ 20 := by
  rcases h with ⟨-, rfl, -⟩ | ⟨-, ⟨c, hc, rfl⟩, -⟩
  · simp
  · rw [numsI_len, firstR_len]; exact hc.1
/-- A list of integers and a code. -/
def ResIa (w : World) (l : List Int) (C : Int) (e : Ending) (w' : World) : Prop :=
  ∃ A cap, e = .returned (.tuple #[.slice A l.length cap, .int .i64 C]) ∧ IntOwn w' w.heap.size A l ∧ Below w.heap.size w w'
theorem ia_none {w w' : World} {C : Int} {e : Ending} (h : e = .returned (.tuple #[.slice none 0 0, .int .i64 C]) ∧ Below w.heap.size w w') : ResIa w [] C e w' :=
  ⟨none, 0, h.1, fun hl => absurd rfl hl, h.2⟩
theorem ia_some {w w' : World} {x y : Wd} {e : Ending} {c : Nat} (hc : CntIs x y 1 20 c) (h : AddrOf w x y e w') : ResIa w (numsI (firstR x y 1 c)) 0 e w' := by
  obtain ⟨c', A, cap, rfl, hc', ho, hb⟩ := h
  obtain rfl := cnt_one hc'.out hc
  exact ⟨A, cap, by rw [numsI_len, firstR_len], ownI_of ho, hb⟩
theorem implIA (x y : Wd) (w : World) (hxy : x.length + y.length ≤ 1048576) (l : List Int) (C : Int) (hd : IaIs x y l C) : Calls Tryd.prog 25 #[sqV x y] w (ResIa w l C) := by
  rcases hd with ⟨h, rfl, rfl⟩ | ⟨h, ⟨c, hc, rfl⟩, rfl⟩
  · exact (implIA0 x y w hxy h).mono fun e w' h => ia_none h
  · exact (implIA1 x y w hxy h).mono fun e w' h => ia_some hc h
theorem specIA (x y : Wd) (w : World) (hxy : x.length + y.length ≤ 1048576) (l : List Int) (C : Int) (hd : IaIs x y l C) : Calls Tryd.prog 24 #[sqV x y] w (ResIa w l C) := by
  rcases hd with ⟨h, rfl, rfl⟩ | ⟨h, ⟨c, hc, rfl⟩, rfl⟩
  · exact (specIA0 x y w hxy h).mono fun e w' h => ia_none h
  · exact (specIA1 x y w hxy h).mono fun e w' h => ia_some hc h

set_option maxHeartbeats 2000000 in
theorem lawInternalAddress (x y : Wd) (hx : x.length ≤ maxLen) (hy : y.length ≤ maxLen) (w : World) :
    Calls Tryd.prog 8 #[sqV x y] w fun e w' => e = .returned (.bool true) ∧ Below w.heap.size w w' := by
  have HZ := Lib.hid (fun w => szSeq x y w (by unfold maxLen at hx; omega) (by unfold maxLen at hy; omega))
  have HT := Lib.hid (fun w => toSeq x y w)
  have S0 := sqs0 w x y 23
  rcases szQ_cases x y with h | ⟨h, hxy⟩
  · rw [h] at HZ
    clear h hx hy
    go_enter Tryd.func8, Tryd.ntmps8
    go_wp2_with fail
    refine (HZ.out _).mono ?_
    rintro e w2 ⟨rfl, hb2⟩
    have S2 := S0.on hb2
    go_wp2
    go_ret
    exact ⟨rfl, S2.B⟩
  · obtain ⟨l, C, hd⟩ := ia_ex x y
    have HA := Lib.hid (fun w => specIA x y w hxy l C hd)
    have HB := Lib.hid (fun w => implIA x y w hxy l C hd)
    have hlen0 := ia_len hd
    clear hd
    obtain ⟨len, hl⟩ : ∃ len, l.length = len := ⟨_, rfl⟩
    rw [hl] at hlen0
    have hlen : len ≤ 1000000000000 := by omega
    have HL := Lib.hid hl
    have hlt : decide (szQ x y < 0) = false := by simp; omega
    generalize szQ x y = z at *
    clear h hx hy hxy hl
    go_enter Tryd.func8, Tryd.ntmps8
    go_wp2_with fail
    refine (HZ.out _).mono ?_
    rintro e w2 ⟨rfl, hb2⟩
    have S2 := S0.on hb2
    clear S0 hb2
    obtain ⟨u1, u2, u3, u4⟩ := id S2
    go_wp2_with fail
    refine (HT.out _).mono ?_
    rintro e w3 ⟨rfl, hb3⟩
    have S3 := S2.on hb3
    clear S2 hb3 u1 u2 u3 u4
    obtain ⟨u1, u2, u3, u4⟩ := id S3
    go_wp2_with fail
    refine (HA.out _).mono ?_
    rintro e w4 ⟨A, cap, rfl, ha, hb4⟩
    rw [HL.out]
    have S4 := S3.on hb4
    have R4 := Lib.hid ha.row
    clear S3 hb4 ha u1 u2 u3 u4
    obtain ⟨u1, u2, u3, u4⟩ := id S4
    go_wp2_with fail
    refine (HT.out _).mono ?_
    rintro e w5 ⟨rfl, hb5⟩
    have S5 := S4.on hb5
    have B45 := hb5
    clear hb5 u1 u2 u3 u4
    obtain ⟨u1, u2, u3, u4⟩ := id S5
    go_wp2_with fail
    refine (HB.out _).mono ?_
    rintro e w6 ⟨A', cap', rfl, ha', hb6⟩
    rw [HL.out]
    have B46 := belowNext B45 hb6
    have S6 := S4.on B46
    have R6 := Lib.hid ((R4.out.below B46).more B46.size)
    have Q6 := Lib.hid ha'
    clear S5 hb6 ha' u1 u2 u3 u4
    obtain ⟨u1, u2, u3, u4⟩ := id S6
    go_wp2_with fail
    refine (eqIntS _ _ _ _ _ l _ Q6.out.row R6.out HL.out (by omega)).mono ?_
    rintro e w7 ⟨rfl, hb7⟩
    have hb7 : Below w6.heap.size w6 w7 := by obtain ⟨nq, e⟩ := hb7.out; rw [e]; exact below_drewN (Below.refl _ _) nq
    have B47 := belowNext B46 hb7
    have S7 := S4.on B47
    have Q7 := Lib.hid (Q6.out.next hb7)
    clear S6 hb7 u1 u2 u3 u4
    obtain ⟨u1, u2, u3, u4⟩ := id S7
    go_wp2_with fail
    refine (markInt _ _ _ l _ _ _ Q7.out HL.out (by omega) (by omega) hlen).mono ?_
    rintro e w8 ⟨rfl, H8⟩
    have B48 := B47.trans (H8.out.2.mono B45.size)
    have S8 := S4.on B48
    have Q8 := Lib.hid H8.out.1
    have nn : (1 + (len : Int) < 0) = False := by simp; omega
    clear S7 H8 u1 u2 u3 u4
    obtain ⟨u1, u2, u3, u4⟩ := id S8
    go_wp2_with fail
    refine (heldInt _ _ _ _ _ Q8.out.row (by omega) (by omega) hlen).mono ?_
    rintro e w9 ⟨rfl, rfl⟩
    go_wp2_with fail
    refine (HT.out _).mono ?_
    rintro e w10 ⟨rfl, hb10⟩
    have B410 := belowNext B48 hb10
    have S10 := S4.on B410
    clear S8 u1 u2 u3 u4
    obtain ⟨u1, u2, u3, u4⟩ := id S10
    go_wp2_with fail
    refine (HB.out _).mono ?_
    rintro e w11 ⟨A'', cap'', rfl, ha'', hb11⟩
    rw [HL.out]
    have B411 := belowNext B410 hb11
    have S11 := S4.on B411
    have R11 := Lib.hid ((R4.out.below B411).more B411.size)
    have Q11 := Lib.hid (Q8.out.next (belowNext hb10 hb11))
    have P11 := Lib.hid ha''.row
    clear S10 hb10 hb11 ha'' u1 u2 u3 u4
    obtain ⟨u1, u2, u3, u4⟩ := id S11
    go_wp2_with fail
    refine (eqIntS _ _ _ _ _ l _ P11.out R11.out HL.out (by omega)).mono ?_
    rintro e w12 ⟨rfl, hb12⟩
    have hb12 : Below w11.heap.size w11 w12 := by obtain ⟨nq, e⟩ := hb12.out; rw [e]; exact below_drewN (Below.refl _ _) nq
    have S12 := S11.on hb12
    have Q12 := Lib.hid (Q11.out.next hb12)
    clear S11 hb12 u1 u2 u3 u4
    go_wp2_with fail
    refine (heldInt _ _ _ _ _ Q12.out.row (by omega) (by omega) hlen).mono ?_
    rintro e w13 ⟨rfl, rfl⟩
    go_wp2
    go_ret
    exact ⟨rfl, S12.B⟩
end Go.Proofs.YtomcmjnhfloeeaaDoor

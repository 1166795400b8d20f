/-
  OrbitPoints: what both sides answer; the walk of the law; written by genE25.py.
-/
import Derived.Test.YtomcmjnhfloeeaaDoorE24
namespace Go.Proofs.YtomcmjnhfloeeaaDoor
open Go.RowKit

/-- What OrbitPoints answers. -/
def OpIs (x y : Wd) (l : List (Wd × Wd)) (C : Int) : Prop :=
  (CpIs x y C ∧ C ≠ 0 ∧ l = []) ∨ (isSeq x y = true ∧ starQ x y = true ∧ l = ptsK y y.length ∧ C = 0)
theorem op_ex (x y : Wd) : ∃ l C, OpIs x y l C := by
  cases h1 : isSeq x y
  · exact ⟨[], 1, .inl ⟨.inl ⟨h1, rfl⟩, by omega, rfl⟩⟩
  · cases h2 : starQ x y
    · exact ⟨[], 5, .inl ⟨.inr (.inl ⟨h1, h2, rfl⟩), by omega, rfl⟩⟩
    · exact ⟨_, 0, .inr ⟨h1, h2, rfl, rfl⟩⟩
theorem op_len {x y : Wd} {l : List (Wd × Wd)} {C : Int} (h : OpIs x y l C) : l.length ≤ 64 := by
  rcases h with ⟨-, -, rfl⟩ | ⟨h1, -, rfl, -⟩
  · simp
  · rw [ptsK_len]
    obtain ⟨-, -, -, h64, -⟩ := isSeq_yes h1
    omega
theorem star_nil {x y : Wd} (h : starQ x y = true) : x = [] := by
  unfold starQ at h
  simp only [Bool.and_eq_true, decide_eq_true_eq] at h
  exact List.eq_nil_of_length_eq_zero h.1
/-- A list of sequences and a code. -/
def ResQ (w : World) (l : List (Wd × Wd)) (C : Int) (e : Ending) (w' : World) : Prop :=
  ∃ A cap, e = .returned (.tuple #[.slice A l.length cap, .int .i64 C]) ∧ SeqOwn w' w.heap.size A l ∧ Below w.heap.size w w'

set_option maxHeartbeats 1000000 in
theorem implOP0 (x y : Wd) (w : World) (hxy : x.length + y.length ≤ 1048576) (C : Int) (hd : CpIs x y C) (hC : C ≠ 0) :
    Calls Tryd.prog 32 #[sqV x y] w fun e w' => e = .returned (.tuple #[.slice none 0 0, .int .i64 C]) ∧ Below w.heap.size w w' := by
  have HP := Lib.hid (fun w => implCp x y w hxy C hd)
  have hb : (C == 0) = false := beq_eq_false_iff_ne.2 hC
  have S0 := sqs0 w x y 25
  clear hd hxy
  go_enter Tryd.func32, Tryd.ntmps32
  go_wp2_with fail
  refine (HP.out _).mono ?_
  rintro e w2 ⟨rfl, hb2⟩
  have S2 := S0.on hb2
  go_wp2
  go_ret2
  exact ⟨rfl, S2.B⟩
set_option maxHeartbeats 1000000 in
theorem specOP0 (x y : Wd) (w : World) (hxy : x.length + y.length ≤ 1048576) (C : Int) (hd : CpIs x y C) (hC : C ≠ 0) :
    Calls Tryd.prog 31 #[sqV x y] w fun e w' => e = .returned (.tuple #[.slice none 0 0, .int .i64 C]) ∧ Below w.heap.size w w' := by
  have HP := Lib.hid (fun w => specCp x y w hxy C hd)
  have hb : (C == 0) = false := beq_eq_false_iff_ne.2 hC
  have S0 := sqs0 w x y 25
  clear hd hxy
  go_enter Tryd.func31, Tryd.ntmps31
  go_wp2_with fail
  refine (HP.out _).mono ?_
  rintro e w2 ⟨rfl, hb2⟩
  have S2 := S0.on hb2
  go_wp2
  go_ret2
  exact ⟨rfl, S2.B⟩
set_option maxHeartbeats 1000000 in
theorem specOP1 (y : Wd) (w : World) (hxy : y.length ≤ 1048576) (h : isSeq [] y = true) (hs : starQ [] y = true) :
    Calls Tryd.prog 31 #[sqV [] y] w fun e w' => (∃ A cap, e = .returned (.tuple #[.slice A (ptsK y y.length).length cap, .int .i64 0]) ∧ SeqOwn w' w.heap.size A (ptsK y y.length)) ∧ Below w.heap.size w w' := by
  have HP := Lib.hid (fun w => specCp [] y w (by simpa using hxy) 0 (.inr (.inr ⟨h, hs, rfl⟩)))
  have HO := Lib.hid (fun w => specOrb y w h)
  have S0 := sqs0 w [] y 25
  clear h hs hxy
  generalize ptsK y y.length = l at *
  go_enter Tryd.func31, Tryd.ntmps31
  go_wp2_with fail
  refine (HP.out _).mono ?_
  rintro e w2 ⟨rfl, hb2⟩
  have S2 := S0.on hb2
  obtain ⟨bb, zz, c0, c1⟩ := id S2
  clear S0 hb2
  go_wp2_with fail
  refine (HO.out _).mono ?_
  rintro e w3 ⟨⟨A, cap, rfl, ho⟩, hb3⟩
  have S3 := S2.on hb3
  have HQ : Hid (SeqOwn w3 w.heap.size A l) := Lib.hid (fun hl => by
    obtain ⟨b, off, e, h1, h2, h3⟩ := ho hl
    exact ⟨b, off, e, by omega, h2, h3⟩)
  clear S2 hb3 bb zz c0 c1 ho
  go_wp2
  go_ret2
  exact ⟨⟨A, cap, rfl, HQ.out⟩, S3.B⟩
theorem implOP (x y : Wd) (w : World) (hxy : x.length + y.length ≤ 1048576) (l : List (Wd × Wd)) (C : Int) (hd : OpIs x y l C) : Calls Tryd.prog 32 #[sqV x y] w (ResQ w l C) := by
  rcases hd with ⟨h, hC, rfl⟩ | ⟨h, hs, rfl, rfl⟩
  · exact (implOP0 x y w hxy C h hC).mono fun e w' h => ⟨none, 0, h.1, fun hl => absurd rfl hl, h.2⟩
  · obtain rfl := star_nil hs
    exact (implOP1 y w (by simpa using hxy) h hs).mono fun e w' ⟨⟨A, cap, he, ho⟩, hb⟩ => ⟨A, cap, he, ho, hb⟩
theorem specOP (x y : Wd) (w : World) (hxy : x.length + y.length ≤ 1048576) (l : List (Wd × Wd)) (C : Int) (hd : OpIs x y l C) : Calls Tryd.prog 31 #[sqV x y] w (ResQ w l C) := by
  rcases hd with ⟨h, hC, rfl⟩ | ⟨h, hs, rfl, rfl⟩
  · exact (specOP0 x y w hxy C h hC).mono fun e w' h => ⟨none, 0, h.1, fun hl => absurd rfl hl, h.2⟩
  · obtain rfl := star_nil hs
    exact (specOP1 y w (by simpa using hxy) h hs).mono fun e w' ⟨⟨A, cap, he, ho⟩, hb⟩ => ⟨A, cap, he, ho, hb⟩

set_option maxHeartbeats 2000000 in
theorem lawOrbitPoints (x y : Wd) (hx : x.length ≤ maxLen) (hy : y.length ≤ maxLen) (w : World) :
    Calls Tryd.prog 10 #[sqV x y] w fun e w' => e = .returned (.bool true) ∧ Below w.heap.size w w' := by
  have HZ := Lib.hid (fun w => szSeq x y w (by unfold maxLen at hx; omega) (by unfold maxLen at hy; omega))
  have HT := Lib.hid (fun w => toSeq x y w)
  have S0 := sqs0 w x y 23
  rcases szQ_cases x y with h | ⟨h, hxy⟩
  · rw [h] at HZ
    clear h hx hy
    go_enter Tryd.func10, Tryd.ntmps10
    go_wp2_with fail
    refine (HZ.out _).mono ?_
    rintro e w2 ⟨rfl, hb2⟩
    have S2 := S0.on hb2
    go_wp2
    go_ret
    exact ⟨rfl, S2.B⟩
  · obtain ⟨l, C, hd⟩ := op_ex x y
    have HA := Lib.hid (fun w => specOP x y w hxy l C hd)
    have HB := Lib.hid (fun w => implOP x y w hxy l C hd)
    have hlen0 := op_len hd
    clear hd
    obtain ⟨len, hl⟩ : ∃ len, l.length = len := ⟨_, rfl⟩
    rw [hl] at hlen0
    have hlen : len ≤ 400000 := by omega
    have HL := Lib.hid hl
    have hlt : decide (szQ x y < 0) = false := by simp; omega
    generalize szQ x y = z at *
    clear h hx hy hxy hl
    go_enter Tryd.func10, Tryd.ntmps10
    go_wp2_with fail
    refine (HZ.out _).mono ?_
    rintro e w2 ⟨rfl, hb2⟩
    have S2 := S0.on hb2
    clear S0 hb2
    obtain ⟨u1, u2, u3, u4⟩ := id S2
    go_wp2_with fail
    refine (HT.out _).mono ?_
    rintro e w3 ⟨rfl, hb3⟩
    have S3 := S2.on hb3
    clear S2 hb3 u1 u2 u3 u4
    obtain ⟨u1, u2, u3, u4⟩ := id S3
    go_wp2_with fail
    refine (HA.out _).mono ?_
    rintro e w4 ⟨A, cap, rfl, ha, hb4⟩
    rw [HL.out]
    have S4 := S3.on hb4
    have R4 := Lib.hid ha.row
    clear S3 hb4 ha u1 u2 u3 u4
    obtain ⟨u1, u2, u3, u4⟩ := id S4
    go_wp2_with fail
    refine (HT.out _).mono ?_
    rintro e w5 ⟨rfl, hb5⟩
    have S5 := S4.on hb5
    have B45 := hb5
    clear hb5 u1 u2 u3 u4
    obtain ⟨u1, u2, u3, u4⟩ := id S5
    go_wp2_with fail
    refine (HB.out _).mono ?_
    rintro e w6 ⟨A', cap', rfl, ha', hb6⟩
    rw [HL.out]
    have B46 := belowNext B45 hb6
    have hq6 := hb6.size
    have S6 := S4.on B46
    have R6 := Lib.hid ((R4.out.below B46).more B46.size)
    have Q6 := Lib.hid ha'
    clear S5 hb6 ha' u1 u2 u3 u4
    obtain ⟨u1, u2, u3, u4⟩ := id S6
    go_wp2_with fail
    refine (eqSeqS _ _ _ _ _ l _ Q6.out.row R6.out HL.out (by omega)).mono ?_
    rintro e w7 ⟨rfl, hb7⟩
    have B47 := belowNext B46 hb7
    have hq7 := hb7.size
    have S7 := S4.on B47
    have Q7 := Lib.hid (Q6.out.next hb7)
    clear S6 hb7 u1 u2 u3 u4
    obtain ⟨u1, u2, u3, u4⟩ := id S7
    go_wp2_with fail
    refine (markSeq _ _ _ l _ _ Q7.out (by omega) HL.out hlen).mono ?_
    rintro e w8 ⟨rfl, H8⟩
    have B48 := B47.trans (H8.out.2.mono B45.size)
    have S8 := S4.on B48
    have Q8 := Lib.hid H8.out.1
    obtain ⟨J, hJ⟩ : ∃ J : Int, ((2 * len + 1 : Nat) : Int) = J := ⟨_, rfl⟩
    have nn : (J < 0) = False := by simp; omega
    have HH := Lib.hid (fun A cap w hr => heldSeq A len cap w hr hlen)
    rw [hJ] at HH ⊢
    clear S7 H8 u1 u2 u3 u4
    obtain ⟨u1, u2, u3, u4⟩ := id S8
    go_wp2_with fail
    refine (HH.out _ _ _ Q8.out.row).mono ?_
    rintro e w9 ⟨rfl, hb9⟩
    have S9 := S8.on hb9
    have B49 := belowNext B48 hb9
    have Q9 := Lib.hid (Q8.out.next hb9)
    clear S8 hb9 u1 u2 u3 u4
    obtain ⟨u1, u2, u3, u4⟩ := id S9
    go_wp2_with fail
    refine (HT.out _).mono ?_
    rintro e w10 ⟨rfl, hb10⟩
    have B410 := belowNext B49 hb10
    have S10 := S4.on B410
    clear S9 u1 u2 u3 u4
    obtain ⟨u1, u2, u3, u4⟩ := id S10
    go_wp2_with fail
    refine (HB.out _).mono ?_
    rintro e w11 ⟨A'', cap'', rfl, ha'', hb11⟩
    rw [HL.out]
    have B411 := belowNext B410 hb11
    have S11 := S4.on B411
    have R11 := Lib.hid ((R4.out.below B411).more B411.size)
    have Q11 := Lib.hid (Q9.out.next (belowNext hb10 hb11))
    have P11 := Lib.hid ha''.row
    clear S10 hb10 hb11 ha'' u1 u2 u3 u4
    obtain ⟨u1, u2, u3, u4⟩ := id S11
    go_wp2_with fail
    refine (eqSeqS _ _ _ _ _ l _ P11.out R11.out HL.out (by omega)).mono ?_
    rintro e w12 ⟨rfl, hb12⟩
    have S12 := S11.on hb12
    have Q12 := Lib.hid (Q11.out.next hb12)
    clear S11 hb12 u1 u2 u3 u4
    go_wp2_with fail
    refine (HH.out _ _ _ Q12.out.row).mono ?_
    rintro e w13 ⟨rfl, hb13⟩
    have S13 := S12.on hb13
    go_wp2
    go_ret
    exact ⟨rfl, S13.B⟩
end Go.Proofs.YtomcmjnhfloeeaaDoor

/-
  The walk of the law of PolygonOf: a list of angles, the answer a list of leaves and a code.
-/
import Derived.Test.YtkpgfafmaoaefaaY8
import Derived.Test.YtkpgfafmaoaefaaV34
namespace Go.Proofs.Ytkpgfafmaoaefaa
open Go.RowKit

set_option maxRecDepth 100000 in
set_option maxHeartbeats 2000000 in
theorem lawPolygonOf (A : Option Addr) (len cap : Nat) (l : List (Int × Int)) (w : World) (hr : AngRow w w.heap.size A l) (hl : l.length = len) (hm : len ≤ 9223372036854775807) :
    Calls Try.prog 13 #[.slice A len cap] w fun e w' => e = .returned (.bool true) ∧ Below w.heap.size w w' := by
  subst hl
  have HZ := Lib.hid (fun w => szAng A l.length cap 1048576 w (by omega) (by omega) hm)
  by_cases h : (1048576 : Int) < (l.length : Int)
  · rw [if_pos h] at HZ
    clear hr h
    go_enter Try.func13, Try.ntmps13
    go_wp2_with fail
    refine (HZ.out _).mono ?_
    rintro e w1 ⟨rfl, rfl⟩
    go_wp2
    go_ret
    exact ⟨rfl, Below.refl _ _⟩
  · rw [if_neg h] at HZ
    have hlt : l.length ≤ 1048576 := by omega
    have nn : ¬ ((1048576 : Int) - (l.length : Int) < 0) := by omega
    obtain ⟨R, C, hIs⟩ := po_ex l
    have hRl : R.length ≤ 1048576 := by
      rcases hIs with ⟨_, h1, _⟩ | ⟨_, _, h1, _⟩ | ⟨h0, h2, h3, h4, h1, _⟩
      · rw [h1]; simp
      · rw [h1]; simp
      · rw [h1]
        have := (insAllL_all (poly_lf h0 h4 h2)).2.2.2
        rw [poly_len] at this
        omega
    have HT : Hid (∀ W, Below w.heap.size w W → Calls Try.prog 44 #[.slice A l.length cap] W fun e w' => e = .returned (.slice (some ⟨W.heap.size, 0, none⟩) l.length l.length) ∧ AngOwn w' W.heap.size (some ⟨W.heap.size, 0, none⟩) l ∧ Below W.heap.size W w' ∧ W.heap.size < w'.heap.size) :=
      Lib.hid (fun W hB => toAngSX A l.length cap l W ((hr.below hB).more hB.size) rfl hlt)
    have HSp := Lib.hid (fun (g : Nat) (W : World) (hr' : AngRow W W.heap.size (some ⟨g, 0, none⟩) l) => specPolygon (some ⟨g, 0, none⟩) l.length l.length l W hr' rfl (by omega) R C hIs)
    have HIm := Lib.hid (fun (g : Nat) (W : World) (hr' : AngRow W W.heap.size (some ⟨g, 0, none⟩) l) => implPolygon (some ⟨g, 0, none⟩) l.length l.length l W hr' rfl (Nat.le_refl _) (by omega) R C hIs)
    clear hr h hIs
    generalize hleft : (1048576 : Int) - (l.length : Int) = left at *
    clear hleft
    go_enter Try.func13, Try.ntmps13
    go_wp2_with fail
    refine (HZ.out _).mono ?_
    rintro e w1 ⟨rfl, rfl⟩
    go_wp2_with fail
    refine (HT.out _ (Below.refl _ _)).mono ?_
    rintro e w2 ⟨rfl, ho2, hb2, _⟩
    have R2 := Lib.hid ho2.row
    clear ho2
    go_wp2_with fail
    refine (HSp.out _ _ R2.out).mono ?_
    rintro e w3 ⟨Aw, cw, rfl, how, hb3⟩
    have K3 : Below w.heap.size w w3 := belowNext hb2 hb3
    obtain ⟨G, hG⟩ : ∃ G, w3.heap.size = G := ⟨_, rfl⟩
    have RwG : Hid (LfRow w3 G Aw R) := Lib.hid (by rw [← hG]; exact how.row)
    have hwG : w.heap.size ≤ G := by rw [← hG]; exact K3.size
    clear how hb2 hb3 R2
    go_wp2_with fail
    refine (HT.out _ K3).mono ?_
    rintro e w4 ⟨rfl, ho4, hb4, z4⟩
    rw [hG] at ho4 z4
    try rw [hG]
    have BG4 : Below G w3 w4 := by rw [← hG]; exact hb4
    have X4 := Lib.hid ho4
    have K4 : Below w.heap.size w w4 := K3.trans (BG4.mono hwG)
    clear ho4 hb4 hG
    go_wp2_with fail
    refine (HIm.out _ _ X4.out.row).mono ?_
    rintro e w6 ⟨Ag, cg, rfl, hog, hb6⟩
    obtain ⟨L5, hL5⟩ : ∃ L, w4.heap.size = L := ⟨_, rfl⟩
    have X6 := Lib.hid (X4.out.next hb6)
    have BG6 : Below G w3 w6 := BG4.trans (hb6.mono (Nat.le_of_lt z4))
    have Q6 : Hid (LfOwn w6 L5 Ag R) := Lib.hid (by rw [← hL5]; exact hog)
    have zG5 : G < L5 := by rw [← hL5]; exact z4
    have zL6 : L5 ≤ w6.heap.size := by rw [← hL5]; exact hb6.size
    have zG6 : G ≤ w6.heap.size := by omega
    clear hb6 hog X4 BG4 z4 hL5
    go_wp2_with fail
    refine (eqLfS _ _ _ _ _ R _ Q6.out.row ((RwG.out.below BG6).more zG6) rfl (by omega)).mono ?_
    rintro e w7 ⟨rfl, hb7⟩
    have X7 := Lib.hid (X6.out.next hb7)
    have Q7 := Lib.hid (Q6.out.next hb7)
    have BG7 : Below G w3 w7 := BG6.trans (hb7.mono zG6)
    have zG7 : G ≤ w7.heap.size := Nat.le_trans zG6 hb7.size
    have zL7 : L5 ≤ w7.heap.size := Nat.le_trans zL6 hb7.size
    have K7 : Below w.heap.size w w7 := K3.trans (BG7.mono hwG)
    clear hb7 X6 Q6 BG6 zG6 zL6 K4
    go_wp2_with fail
    refine (HT.out _ K7).mono ?_
    rintro e w8 ⟨rfl, ho8, hb8, _⟩
    have X8 := Lib.hid (X7.out.next hb8)
    have Q8 := Lib.hid (Q7.out.next hb8)
    have BG8 : Below G w3 w8 := BG7.trans (hb8.mono zG7)
    have zG8 : G ≤ w8.heap.size := Nat.le_trans zG7 hb8.size
    have zL8 : L5 ≤ w8.heap.size := Nat.le_trans zL7 hb8.size
    have Y8 := Lib.hid ho8.row
    clear hb8 X7 Q7 BG7 zG7 ho8 zL7 K7
    go_wp2_with fail
    refine (eqAngS _ _ _ _ _ l _ X8.out.row Y8.out rfl (by omega)).mono ?_
    rintro e w9 ⟨rfl, hb9⟩
    have X9 := Lib.hid (X8.out.next hb9)
    have Q9 := Lib.hid (Q8.out.next hb9)
    have BG9 : Below G w3 w9 := BG8.trans (hb9.mono zG8)
    have zG9 : G ≤ w9.heap.size := Nat.le_trans zG8 hb9.size
    have zL9 : L5 ≤ w9.heap.size := Nat.le_trans zL8 hb9.size
    clear hb9 X8 Q8 BG8 zG8 Y8 zL8
    go_wp2_with fail
    refine (markAngX G 0 _ _ l 1 _ X9.out rfl (by omega) (by omega) (by omega)).mono ?_
    rintro e w10 ⟨rfl, H10⟩
    have hs10 : w10.heap.size = w9.heap.size := H10.out.1.1
    have Q10 := Lib.hid (LfOwn.only H10.out.1 Q9.out zG5)
    have BG10 : Below G w3 w10 := BG9.trans H10.out.2
    have zG10 : G ≤ w10.heap.size := by rw [hs10]; exact zG9
    have zL10 : L5 ≤ w10.heap.size := by rw [hs10]; exact zL9
    have nk : (1 + 2 * (l.length : Int) < 0) = False := by simp; omega
    clear H10 X9 Q9 BG9 zG9 hs10 zL9
    go_wp2_with fail
    refine (eqLfS _ _ _ _ _ R _ Q10.out.row ((RwG.out.below BG10).more zG10) rfl (by omega)).mono ?_
    rintro e w11 ⟨rfl, hb11⟩
    have Q11 := Lib.hid (Q10.out.next hb11)
    have BG11 : Below G w3 w11 := BG10.trans (hb11.mono zG10)
    have zL11 : L5 ≤ w11.heap.size := Nat.le_trans zL10 hb11.size
    clear hb11 Q10 BG10 zG10 zL10
    go_wp2_with fail
    refine (markLf _ _ _ R L5 1 _ Q11.out rfl (by omega) (by omega) (by omega)).mono ?_
    rintro e w12 ⟨rfl, H12⟩
    have s12 : w11.heap.size ≤ w12.heap.size := H12.out.2.size
    have Q12 := Lib.hid H12.out.1
    have BG12 : Below G w3 w12 := BG11.trans (H12.out.2.mono (Nat.le_of_lt zG5))
    have R12 : Hid (LfRow w12 G Aw R) := Lib.hid (RwG.out.below BG12)
    have K12 : Below w.heap.size w w12 := K3.trans (BG12.mono hwG)
    have nq : (1 + 4 * (R.length : Int) < 0) = False := by simp; omega
    have zG12 : G ≤ w12.heap.size := Nat.le_trans (Nat.le_of_lt zG5) (Nat.le_trans zL11 s12)
    clear H12 Q11 BG11 RwG zL11 s12 BG12
    go_wp2_with fail
    refine (heldLf _ _ _ _ _ Q12.out.row (by omega) (by omega) (by omega)).mono ?_
    rintro e w13 ⟨rfl, rfl⟩
    go_wp2_with fail
    refine (HT.out _ K12).mono ?_
    rintro e w14 ⟨rfl, ho14, hb14, _⟩
    have R14 := Lib.hid ho14.row
    clear ho14
    go_wp2_with fail
    refine (HIm.out _ _ R14.out).mono ?_
    rintro e w15 ⟨Ah, ch, rfl, hoh, hb15⟩
    have B15 : Below w12.heap.size w12 w15 := belowNext hb14 hb15
    have RH := Lib.hid hoh.row
    have R15 := Lib.hid ((R12.out.more zG12).next B15)
    have Q15 := Lib.hid (Q12.out.next B15)
    have K15 : Below w.heap.size w w15 := belowNext K12 B15
    clear hb14 hb15 hoh R14 R12 Q12 K12 B15
    go_wp2_with fail
    refine (eqLfS _ _ _ _ _ R _ RH.out R15.out rfl (by omega)).mono ?_
    rintro e w16 ⟨rfl, hb16⟩
    have Q16 := Lib.hid (Q15.out.next hb16)
    have K16 : Below w.heap.size w w16 := belowNext K15 hb16
    clear Q15 R15 RH hb16 K15
    go_wp2_with fail
    refine (heldLf _ _ _ _ _ Q16.out.row (by omega) (by omega) (by omega)).mono ?_
    rintro e w17 ⟨rfl, rfl⟩
    go_wp2
    go_ret
    exact ⟨rfl, K16⟩
end Go.Proofs.Ytkpgfafmaoaefaa

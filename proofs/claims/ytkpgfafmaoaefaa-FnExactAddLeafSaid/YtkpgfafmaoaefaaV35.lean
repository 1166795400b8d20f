/-
  The walk of the law of AddLeaf: a list and a leaf, the answer a list and a code.
-/
import Derived.Test.YtkpgfafmaoaefaaV33
import Derived.Test.YtkpgfafmaoaefaaV34
namespace Go.Proofs.Ytkpgfafmaoaefaa
open Go.RowKit

theorem BoxL.past {w W w1 : World} {a b c d : Int} {B : Nat} (H : BoxL w W a b c d) (hb : Below B W w1) (hB : w.heap.size < B) (hs : W.heap.size ≤ w1.heap.size) : BoxL w w1 a b c d :=
  ⟨H.B.trans (hb.mono (Nat.le_of_lt hB)), Nat.lt_of_lt_of_le H.z hs, (hb.cell (p := ⟨_, _, none⟩) hB).trans H.c0, (hb.cell (p := ⟨_, _, none⟩) hB).trans H.c1, (hb.cell (p := ⟨_, _, none⟩) hB).trans H.c2, (hb.cell (p := ⟨_, _, none⟩) hB).trans H.c3⟩
theorem BoxL.startW (w : World) (a b c d : Int) : BoxL w (w.alloc (.cells #[.int .i64 a, .int .i64 b, .int .i64 c, .int .i64 d] 25)) a b c d :=
  ⟨belowAlloc (Below.refl _ _) _, by simp, by simp [go_sem], by simp [go_sem], by simp [go_sem], by simp [go_sem]⟩

set_option maxRecDepth 100000 in
set_option maxHeartbeats 2000000 in
theorem lawAddLeaf (A : Option Addr) (len cap : Nat) (l : List Lf4) (w : World) (hr : LfRow w w.heap.size A l) (hl : l.length = len) (hm : len ≤ 9223372036854775807) (p1 p2 p3 p4 : Int) (_ : (Lit.int .i64 p1).wf = true) (_ : (Lit.int .i64 p2).wf = true) (_ : (Lit.int .i64 p3).wf = true) (_ : (Lit.int .i64 p4).wf = true) :
    Calls Try.prog 11 #[.slice A len cap, leafV p1 p2 p3 p4] w fun e w' => e = .returned (.bool true) ∧ Below w.heap.size w w' := by
  subst hl
  have HZ := Lib.hid (fun w => szLf A l.length cap 1048576 w (by omega) (by omega) hm)
  by_cases h : (1048576 : Int) < (l.length : Int)
  · rw [if_pos h] at HZ
    clear hr h
    go_enter Try.func11, Try.ntmps11
    go_wp2_with fail
    refine (HZ.out _).mono ?_
    rintro e w1 ⟨rfl, rfl⟩
    go_wp2
    go_ret
    exact ⟨rfl, belowAlloc (Below.refl _ _) _⟩
  · rw [if_neg h] at HZ
    have hlt : l.length ≤ 1048576 := by omega
    have nn : ¬ ((1048576 : Int) - (l.length : Int) < 0) := by omega
    obtain ⟨R, C, hAd⟩ := addIs_ex l p1 p2 p3 p4
    have hRl : R.length ≤ 1048577 := by
      rcases hAd with ⟨_, h1, _⟩ | ⟨_, _, h1, _⟩ | ⟨_, _, _, h1, _⟩ | ⟨_, _, _, _, h1, _⟩ | ⟨_, h2, _, _, h1, _⟩
      · rw [h1]; simp
      · rw [h1]; omega
      · rw [h1]; simp
      · rw [h1]; simp
      · rw [h1, insL_len h2]; omega
    have HT : Hid (∀ W, Below w.heap.size w W → Calls Try.prog 25 #[.slice A l.length cap] W fun e w' => e = .returned (.slice (some ⟨W.heap.size, 0, none⟩) l.length l.length) ∧ LfOwn w' W.heap.size (some ⟨W.heap.size, 0, none⟩) l ∧ Below W.heap.size W w' ∧ W.heap.size < w'.heap.size) :=
      Lib.hid (fun W hB => toLfSX A l.length cap l W ((hr.below hB).more hB.size) rfl hlt)
    have HL2 := Lib.hid (fun W => toLf p1 p2 p3 p4 W)
    have HSp := Lib.hid (fun (g : Nat) (W : World) (hr' : LfRow W W.heap.size (some ⟨g, 0, none⟩) l) => specAddLf g 0 l.length l R C p1 p2 p3 p4 W hr' hlt hAd)
    have HIm := Lib.hid (fun (g : Nat) (W : World) (hr' : LfRow W W.heap.size (some ⟨g, 0, none⟩) l) => implAddLf g 0 l.length l.length l R C p1 p2 p3 p4 W hr' rfl hlt (Nat.le_refl _) hAd)
    clear hr h hAd
    generalize hleft : (1048576 : Int) - (l.length : Int) = left at *
    clear hleft
    go_enter Try.func11, Try.ntmps11
    go_wp2_with fail
    have K0 := BoxL.startW w p1 p2 p3 p4
    refine (HZ.out _).mono ?_
    rintro e w1 ⟨rfl, hw1⟩
    rw [← hw1]
    clear hw1 w1
    generalize w.alloc (.cells #[.int .i64 p1, .int .i64 p2, .int .i64 p3, .int .i64 p4] 25) = w1 at *
    go_upto_region 5 with fail
    go_cut [6, 7] (fun sa sb wy => ∃ A cap, sa = .slice A R.length cap ∧ sb = .int .i64 C ∧ Hid (LfRow wy wy.heap.size A R) ∧ Hid (Below w1.heap.size w1 wy))
    case first =>
      refine wp_region_any (by kernel_rfl) ?_
      try (change wpAny _ _ _ _ _ _ _ (World.drew _))
      have K20 : BoxL w w1.drew p1 p2 p3 p4 := K0.on (Below.refl _ _).drew
      have B20 : Below w1.heap.size w1 w1.drew := (Below.refl _ _).drew
      generalize w1.drew = w20 at *
      obtain ⟨_, zz20, c0, c1, c2, c3⟩ := id K20
      refine wpAny_take (i := 0) (v := ?_) rfl (by kernel_rfl) (by kernel_rfl) (by kernel_rfl) (fun _ _ _ h => h) (Or.inl ⟨by kernel_rfl, ?_⟩) ?_
      rotate_left
      · intro w; first | (go_simp; done) | (go_simp; with_reducible rfl)
      refine wpAny_ready (rs := [1, 2]) (by kernel_rfl) (by simp) ?_
      refine AllReady.cons rfl (fun K hK => ?_) (AllReady.cons rfl (fun K hK => ?_) (AllReady.nil))
      · obtain ⟨G20, hG20⟩ : ∃ G, w20.heap.size = G := ⟨_, rfl⟩
        go_simp
        go_wp2_with (go_at_call 25; (with_reducible refine (HT.out _ K20.B).mono ?_); rintro e w21 ⟨rfl, ho21, hb21, _⟩)
        rw [hG20] at ho21
        try rw [hG20]
        have R21 := Lib.hid ho21.row
        clear ho21
        have K21 := K20.on hb21
        have B21 := belowNext B20 hb21
        obtain ⟨_, zz21, c0, c1, c2, c3⟩ := id K21
        refine wpAny_ready (rs := [2]) (by kernel_rfl) (by simp) ?_
        refine AllReady.cons rfl (fun K hK => ?_) (AllReady.nil)
        go_simp
        refine hK _ _ ?_
        clear hK K
        refine wpAny_ready (rs := [3]) (by kernel_rfl) (by simp) ?_
        refine AllReady.cons rfl (fun K hK => ?_) (AllReady.nil)
        go_simp
        go_wp2_with (go_at_call 16; (with_reducible refine (HL2.out _).mono ?_); rintro e w22 ⟨rfl, hb22⟩)
        have K22 := K21.on hb22
        have B22 := belowNext B21 hb22
        have R22 := Lib.hid (R21.out.next hb22)
        refine wpAny_ready (rs := [4]) (by kernel_rfl) (by simp) ?_
        refine AllReady.cons rfl (fun K hK => ?_) (AllReady.nil)
        go_simp
        go_wp2_with (go_at_call 40; (with_reducible refine (HSp.out _ _ R22.out).mono ?_); rintro e w23 ⟨Aw, cw, rfl, how, hb23⟩)
        refine wpAny_take (i := 5) (v := ?_) rfl (by kernel_rfl) (by kernel_rfl) (by kernel_rfl) (fun _ _ _ h => h) (Or.inl ⟨by kernel_rfl, ?_⟩) ?_
        rotate_left
        · intro w; first | (go_simp; done) | (go_simp; with_reducible rfl)
        refine wpAny_take (i := 6) (v := ?_) rfl (by kernel_rfl) (by kernel_rfl) (by kernel_rfl) (fun _ _ _ h => h) (Or.inl ⟨by kernel_rfl, ?_⟩) ?_
        rotate_left
        · intro w; first | (go_simp; done) | (go_simp; with_reducible rfl)
        refine wpAny_take (i := 7) (v := ?_) rfl (by kernel_rfl) (by kernel_rfl) (by kernel_rfl) (fun _ _ _ h => h) (Or.inl ⟨by kernel_rfl, ?_⟩) ?_
        rotate_left
        · intro w; first | (go_simp; done) | (go_simp; with_reducible rfl)
        refine wpAny_take (i := 8) (v := ?_) rfl (by kernel_rfl) (by kernel_rfl) (by kernel_rfl) (fun _ _ _ h => h) (Or.inl ⟨by kernel_rfl, ?_⟩) ?_
        rotate_left
        · intro w; first | (go_simp; done) | (go_simp; with_reducible rfl)
        refine wpAny_take (i := 9) (v := ?_) rfl (by kernel_rfl) (by kernel_rfl) (by kernel_rfl) (fun _ _ _ h => h) (Or.inl ⟨by kernel_rfl, ?_⟩) ?_
        rotate_left
        · intro w; first | (go_simp; done) | (go_simp; with_reducible rfl)
        refine wpAny_done (by kernel_rfl) ?_ _
        go_wp2_with fail
        go_meet
        exact ⟨Aw, cw, rfl, rfl, Lib.hid how.row, Lib.hid (belowNext B22 hb23)⟩
      · go_simp
        refine hK _ _ ?_
        clear hK K
        refine wpAny_ready (rs := [1]) (by kernel_rfl) (by simp) ?_
        refine AllReady.cons rfl (fun K hK => ?_) (AllReady.nil)
        obtain ⟨G20, hG20⟩ : ∃ G, w20.heap.size = G := ⟨_, rfl⟩
        go_simp
        go_wp2_with (go_at_call 25; (with_reducible refine (HT.out _ K20.B).mono ?_); rintro e w21 ⟨rfl, ho21, hb21, _⟩)
        rw [hG20] at ho21
        try rw [hG20]
        have R21 := Lib.hid ho21.row
        clear ho21
        have K21 := K20.on hb21
        have B21 := belowNext B20 hb21
        refine wpAny_ready (rs := [3]) (by kernel_rfl) (by simp) ?_
        refine AllReady.cons rfl (fun K hK => ?_) (AllReady.nil)
        go_simp
        go_wp2_with (go_at_call 16; (with_reducible refine (HL2.out _).mono ?_); rintro e w22 ⟨rfl, hb22⟩)
        have K22 := K21.on hb22
        have B22 := belowNext B21 hb22
        have R22 := Lib.hid (R21.out.next hb22)
        refine wpAny_ready (rs := [4]) (by kernel_rfl) (by simp) ?_
        refine AllReady.cons rfl (fun K hK => ?_) (AllReady.nil)
        go_simp
        go_wp2_with (go_at_call 40; (with_reducible refine (HSp.out _ _ R22.out).mono ?_); rintro e w23 ⟨Aw, cw, rfl, how, hb23⟩)
        refine wpAny_take (i := 5) (v := ?_) rfl (by kernel_rfl) (by kernel_rfl) (by kernel_rfl) (fun _ _ _ h => h) (Or.inl ⟨by kernel_rfl, ?_⟩) ?_
        rotate_left
        · intro w; first | (go_simp; done) | (go_simp; with_reducible rfl)
        refine wpAny_take (i := 6) (v := ?_) rfl (by kernel_rfl) (by kernel_rfl) (by kernel_rfl) (fun _ _ _ h => h) (Or.inl ⟨by kernel_rfl, ?_⟩) ?_
        rotate_left
        · intro w; first | (go_simp; done) | (go_simp; with_reducible rfl)
        refine wpAny_take (i := 7) (v := ?_) rfl (by kernel_rfl) (by kernel_rfl) (by kernel_rfl) (fun _ _ _ h => h) (Or.inl ⟨by kernel_rfl, ?_⟩) ?_
        rotate_left
        · intro w; first | (go_simp; done) | (go_simp; with_reducible rfl)
        refine wpAny_take (i := 8) (v := ?_) rfl (by kernel_rfl) (by kernel_rfl) (by kernel_rfl) (fun _ _ _ h => h) (Or.inl ⟨by kernel_rfl, ?_⟩) ?_
        rotate_left
        · intro w; first | (go_simp; done) | (go_simp; with_reducible rfl)
        refine wpAny_take (i := 9) (v := ?_) rfl (by kernel_rfl) (by kernel_rfl) (by kernel_rfl) (fun _ _ _ h => h) (Or.inl ⟨by kernel_rfl, ?_⟩) ?_
        rotate_left
        · intro w; first | (go_simp; done) | (go_simp; with_reducible rfl)
        refine wpAny_done (by kernel_rfl) ?_ _
        go_wp2_with fail
        go_meet
        exact ⟨Aw, cw, rfl, rfl, Lib.hid how.row, Lib.hid (belowNext B22 hb23)⟩
    case rest =>
      obtain ⟨Aw, cw, rfl, rfl, HRw, HB3⟩ := hcut
      have K3 := K0.on HB3.out
      obtain ⟨G, hG⟩ : ∃ G, wc.heap.size = G := ⟨_, rfl⟩
      have RwG : Hid (LfRow wc G Aw R) := Lib.hid (by rw [← hG]; exact HRw.out)
      have hwG : w.heap.size < G := by rw [← hG]; exact K3.z
      clear HRw HB3 K0
      go_wp2_with fail
      refine (HT.out _ K3.B).mono ?_
      rintro e w4 ⟨rfl, ho4, hb4, z4⟩
      have K4 := K3.on hb4
      rw [hG] at ho4 z4
      try rw [hG]
      have BG4 : Below G wc w4 := by rw [← hG]; exact hb4
      have X4 := Lib.hid ho4
      have hG4 : G ≤ w4.heap.size := Nat.le_of_lt z4
      clear ho4 hb4 K3 hG
      obtain ⟨_, zz4, c0, c1, c2, c3⟩ := id K4
      go_wp2_with fail
      refine (HL2.out _).mono ?_
      rintro e w5 ⟨rfl, hb5⟩
      have K5 := K4.on hb5
      have X5 := Lib.hid (X4.out.next hb5)
      have BG5 : Below G wc w5 := BG4.trans (hb5.mono hG4)
      have zG : G < w5.heap.size := Nat.lt_of_lt_of_le z4 hb5.size
      clear hb5 X4 BG4 zz4 c0 c1 c2 c3 K4 z4 hG4
      go_wp2_with fail
      refine (HIm.out _ _ X5.out.row).mono ?_
      rintro e w6 ⟨Ag, cg, rfl, hog, hb6⟩
      obtain ⟨L5, hL5⟩ : ∃ L, w5.heap.size = L := ⟨_, rfl⟩
      have K6 := K5.on hb6
      have X6 := Lib.hid (X5.out.next hb6)
      have BG6 : Below G wc w6 := BG5.trans (hb6.mono (Nat.le_of_lt zG))
      have Q6 : Hid (LfOwn w6 L5 Ag R) := Lib.hid (by rw [← hL5]; exact hog)
      have zG5 : G < L5 := by rw [← hL5]; exact zG
      have zL6 : L5 ≤ w6.heap.size := by rw [← hL5]; exact hb6.size
      have zG6 : G ≤ w6.heap.size := by omega
      clear hb6 hog X5 BG5 K5 zG hL5
      go_wp2_with fail
      refine (eqLfS _ _ _ _ _ R _ Q6.out.row ((RwG.out.below BG6).more zG6) rfl (by omega)).mono ?_
      rintro e w7 ⟨rfl, hb7⟩
      have K7 := K6.on hb7
      have X7 := Lib.hid (X6.out.next hb7)
      have Q7 := Lib.hid (Q6.out.next hb7)
      have BG7 : Below G wc w7 := BG6.trans (hb7.mono zG6)
      have zG7 : G ≤ w7.heap.size := Nat.le_trans zG6 hb7.size
      have zL7 : L5 ≤ w7.heap.size := Nat.le_trans zL6 hb7.size
      clear hb7 X6 Q6 BG6 zG6 K6 zL6
      go_wp2_with fail
      refine (HT.out _ K7.B).mono ?_
      rintro e w8 ⟨rfl, ho8, hb8, _⟩
      have K8 := K7.on hb8
      have X8 := Lib.hid (X7.out.next hb8)
      have Q8 := Lib.hid (Q7.out.next hb8)
      have BG8 : Below G wc w8 := BG7.trans (hb8.mono zG7)
      have zG8 : G ≤ w8.heap.size := Nat.le_trans zG7 hb8.size
      have zL8 : L5 ≤ w8.heap.size := Nat.le_trans zL7 hb8.size
      have Y8 := Lib.hid ho8.row
      clear hb8 X7 Q7 BG7 zG7 K7 ho8 zL7
      go_wp2_with fail
      refine (eqLfS _ _ _ _ _ l _ X8.out.row Y8.out rfl (by omega)).mono ?_
      rintro e w9 ⟨rfl, hb9⟩
      have K9 := K8.on hb9
      have X9 := Lib.hid (X8.out.next hb9)
      have Q9 := Lib.hid (Q8.out.next hb9)
      have BG9 : Below G wc w9 := BG8.trans (hb9.mono zG8)
      have zG9 : G ≤ w9.heap.size := Nat.le_trans zG8 hb9.size
      have zL9 : L5 ≤ w9.heap.size := Nat.le_trans zL8 hb9.size
      clear hb9 X8 Q8 BG8 zG8 K8 Y8 zL8
      go_wp2_with fail
      refine (markLfX G 0 _ _ l 1 _ X9.out rfl (by omega) (by omega) (by omega)).mono ?_
      rintro e w10 ⟨rfl, H10⟩
      have hs10 : w10.heap.size = w9.heap.size := H10.out.1.1
      have K10 := K9.past H10.out.2 hwG (by rw [hs10]; exact Nat.le_refl _)
      have Q10 := Lib.hid (LfOwn.only H10.out.1 Q9.out zG5)
      have BG10 : Below G wc w10 := BG9.trans H10.out.2
      have zG10 : G ≤ w10.heap.size := by rw [hs10]; exact zG9
      have zL10 : L5 ≤ w10.heap.size := by rw [hs10]; exact zL9
      have nk : (1 + 4 * (l.length : Int) < 0) = False := by simp; omega
      clear H10 X9 Q9 BG9 zG9 K9 hs10 zL9
      go_wp2_with fail
      refine (eqLfS _ _ _ _ _ R _ Q10.out.row ((RwG.out.below BG10).more zG10) rfl (by omega)).mono ?_
      rintro e w11 ⟨rfl, hb11⟩
      have K11 := K10.on hb11
      have Q11 := Lib.hid (Q10.out.next hb11)
      have BG11 : Below G wc w11 := BG10.trans (hb11.mono zG10)
      have zL11 : L5 ≤ w11.heap.size := Nat.le_trans zL10 hb11.size
      clear hb11 Q10 BG10 zG10 K10 zL10
      go_wp2_with fail
      refine (markLf _ _ _ R L5 1 _ Q11.out rfl (by omega) (by omega) (by omega)).mono ?_
      rintro e w12 ⟨rfl, H12⟩
      have s12 : w11.heap.size ≤ w12.heap.size := H12.out.2.size
      have K12 := K11.past H12.out.2 (Nat.lt_trans hwG zG5) s12
      have Q12 := Lib.hid H12.out.1
      have R12 : Hid (LfRow w12 G Aw R) := Lib.hid (RwG.out.below (BG11.trans (H12.out.2.mono (Nat.le_of_lt zG5))))
      have nq : (1 + 4 * (R.length : Int) < 0) = False := by simp; omega
      have zG12 : G ≤ w12.heap.size := Nat.le_trans (Nat.le_of_lt zG5) (Nat.le_trans zL11 s12)
      clear H12 Q11 BG11 K11 RwG zL11 s12
      go_wp2_with fail
      refine (heldLf _ _ _ _ _ Q12.out.row (by omega) (by omega) (by omega)).mono ?_
      rintro e w13 ⟨rfl, rfl⟩
      go_upto_region 24 with fail
      go_cut [14, 15] (fun sa sb wy => ∃ A cap, sa = .slice A R.length cap ∧ sb = .int .i64 C ∧ Hid (LfRow wy wy.heap.size A R) ∧ Hid (Below w12.heap.size w12 wy))
      case first =>
        refine wp_region_any (by kernel_rfl) ?_
        try (change wpAny _ _ _ _ _ _ _ (World.drew _))
        have K20 : BoxL w w12.drew p1 p2 p3 p4 := K12.on (Below.refl _ _).drew
        have B20 : Below w12.heap.size w12 w12.drew := (Below.refl _ _).drew
        generalize w12.drew = w20 at *
        obtain ⟨_, zz20, c0, c1, c2, c3⟩ := id K20
        refine wpAny_take (i := 0) (v := ?_) rfl (by kernel_rfl) (by kernel_rfl) (by kernel_rfl) (fun _ _ _ h => h) (Or.inl ⟨by kernel_rfl, ?_⟩) ?_
        rotate_left
        · intro w; first | (go_simp; done) | (go_simp; with_reducible rfl)
        refine wpAny_ready (rs := [1, 2]) (by kernel_rfl) (by simp) ?_
        refine AllReady.cons rfl (fun K hK => ?_) (AllReady.cons rfl (fun K hK => ?_) (AllReady.nil))
        · obtain ⟨G20, hG20⟩ : ∃ G, w20.heap.size = G := ⟨_, rfl⟩
          go_simp
          go_wp2_with (go_at_call 25; (with_reducible refine (HT.out _ K20.B).mono ?_); rintro e w21 ⟨rfl, ho21, hb21, _⟩)
          rw [hG20] at ho21
          try rw [hG20]
          have R21 := Lib.hid ho21.row
          clear ho21
          have K21 := K20.on hb21
          have B21 := belowNext B20 hb21
          obtain ⟨_, zz21, c0, c1, c2, c3⟩ := id K21
          refine wpAny_ready (rs := [2]) (by kernel_rfl) (by simp) ?_
          refine AllReady.cons rfl (fun K hK => ?_) (AllReady.nil)
          go_simp
          refine hK _ _ ?_
          clear hK K
          refine wpAny_ready (rs := [3]) (by kernel_rfl) (by simp) ?_
          refine AllReady.cons rfl (fun K hK => ?_) (AllReady.nil)
          go_simp
          go_wp2_with (go_at_call 16; (with_reducible refine (HL2.out _).mono ?_); rintro e w22 ⟨rfl, hb22⟩)
          have K22 := K21.on hb22
          have B22 := belowNext B21 hb22
          have R22 := Lib.hid (R21.out.next hb22)
          refine wpAny_ready (rs := [4]) (by kernel_rfl) (by simp) ?_
          refine AllReady.cons rfl (fun K hK => ?_) (AllReady.nil)
          go_simp
          go_wp2_with (go_at_call 41; (with_reducible refine (HIm.out _ _ R22.out).mono ?_); rintro e w23 ⟨Aw, cw, rfl, how, hb23⟩)
          refine wpAny_take (i := 5) (v := ?_) rfl (by kernel_rfl) (by kernel_rfl) (by kernel_rfl) (fun _ _ _ h => h) (Or.inl ⟨by kernel_rfl, ?_⟩) ?_
          rotate_left
          · intro w; first | (go_simp; done) | (go_simp; with_reducible rfl)
          refine wpAny_take (i := 6) (v := ?_) rfl (by kernel_rfl) (by kernel_rfl) (by kernel_rfl) (fun _ _ _ h => h) (Or.inl ⟨by kernel_rfl, ?_⟩) ?_
          rotate_left
          · intro w; first | (go_simp; done) | (go_simp; with_reducible rfl)
          refine wpAny_take (i := 7) (v := ?_) rfl (by kernel_rfl) (by kernel_rfl) (by kernel_rfl) (fun _ _ _ h => h) (Or.inl ⟨by kernel_rfl, ?_⟩) ?_
          rotate_left
          · intro w; first | (go_simp; done) | (go_simp; with_reducible rfl)
          refine wpAny_take (i := 8) (v := ?_) rfl (by kernel_rfl) (by kernel_rfl) (by kernel_rfl) (fun _ _ _ h => h) (Or.inl ⟨by kernel_rfl, ?_⟩) ?_
          rotate_left
          · intro w; first | (go_simp; done) | (go_simp; with_reducible rfl)
          refine wpAny_take (i := 9) (v := ?_) rfl (by kernel_rfl) (by kernel_rfl) (by kernel_rfl) (fun _ _ _ h => h) (Or.inl ⟨by kernel_rfl, ?_⟩) ?_
          rotate_left
          · intro w; first | (go_simp; done) | (go_simp; with_reducible rfl)
          refine wpAny_done (by kernel_rfl) ?_ _
          go_wp2_with fail
          go_meet
          exact ⟨Aw, cw, rfl, rfl, Lib.hid how.row, Lib.hid (belowNext B22 hb23)⟩
        · go_simp
          refine hK _ _ ?_
          clear hK K
          refine wpAny_ready (rs := [1]) (by kernel_rfl) (by simp) ?_
          refine AllReady.cons rfl (fun K hK => ?_) (AllReady.nil)
          obtain ⟨G20, hG20⟩ : ∃ G, w20.heap.size = G := ⟨_, rfl⟩
          go_simp
          go_wp2_with (go_at_call 25; (with_reducible refine (HT.out _ K20.B).mono ?_); rintro e w21 ⟨rfl, ho21, hb21, _⟩)
          rw [hG20] at ho21
          try rw [hG20]
          have R21 := Lib.hid ho21.row
          clear ho21
          have K21 := K20.on hb21
          have B21 := belowNext B20 hb21
          refine wpAny_ready (rs := [3]) (by kernel_rfl) (by simp) ?_
          refine AllReady.cons rfl (fun K hK => ?_) (AllReady.nil)
          go_simp
          go_wp2_with (go_at_call 16; (with_reducible refine (HL2.out _).mono ?_); rintro e w22 ⟨rfl, hb22⟩)
          have K22 := K21.on hb22
          have B22 := belowNext B21 hb22
          have R22 := Lib.hid (R21.out.next hb22)
          refine wpAny_ready (rs := [4]) (by kernel_rfl) (by simp) ?_
          refine AllReady.cons rfl (fun K hK => ?_) (AllReady.nil)
          go_simp
          go_wp2_with (go_at_call 41; (with_reducible refine (HIm.out _ _ R22.out).mono ?_); rintro e w23 ⟨Aw, cw, rfl, how, hb23⟩)
          refine wpAny_take (i := 5) (v := ?_) rfl (by kernel_rfl) (by kernel_rfl) (by kernel_rfl) (fun _ _ _ h => h) (Or.inl ⟨by kernel_rfl, ?_⟩) ?_
          rotate_left
          · intro w; first | (go_simp; done) | (go_simp; with_reducible rfl)
          refine wpAny_take (i := 6) (v := ?_) rfl (by kernel_rfl) (by kernel_rfl) (by kernel_rfl) (fun _ _ _ h => h) (Or.inl ⟨by kernel_rfl, ?_⟩) ?_
          rotate_left
          · intro w; first | (go_simp; done) | (go_simp; with_reducible rfl)
          refine wpAny_take (i := 7) (v := ?_) rfl (by kernel_rfl) (by kernel_rfl) (by kernel_rfl) (fun _ _ _ h => h) (Or.inl ⟨by kernel_rfl, ?_⟩) ?_
          rotate_left
          · intro w; first | (go_simp; done) | (go_simp; with_reducible rfl)
          refine wpAny_take (i := 8) (v := ?_) rfl (by kernel_rfl) (by kernel_rfl) (by kernel_rfl) (fun _ _ _ h => h) (Or.inl ⟨by kernel_rfl, ?_⟩) ?_
          rotate_left
          · intro w; first | (go_simp; done) | (go_simp; with_reducible rfl)
          refine wpAny_take (i := 9) (v := ?_) rfl (by kernel_rfl) (by kernel_rfl) (by kernel_rfl) (fun _ _ _ h => h) (Or.inl ⟨by kernel_rfl, ?_⟩) ?_
          rotate_left
          · intro w; first | (go_simp; done) | (go_simp; with_reducible rfl)
          refine wpAny_done (by kernel_rfl) ?_ _
          go_wp2_with fail
          go_meet
          exact ⟨Aw, cw, rfl, rfl, Lib.hid how.row, Lib.hid (belowNext B22 hb23)⟩
      case rest =>
        obtain ⟨Ah, ch, rfl, rfl, HRh, HB15⟩ := hcut
        have K15 := K12.on HB15.out
        have Q15 := Lib.hid (Q12.out.next HB15.out)
        have R15 := Lib.hid ((R12.out.more zG12).next HB15.out)
        clear K12 Q12 R12 HB15
        go_wp2_with fail
        refine (eqLfS _ _ _ _ _ R _ HRh.out R15.out rfl (by omega)).mono ?_
        rintro e w16 ⟨rfl, hb16⟩
        have K16 := K15.on hb16
        have Q16 := Lib.hid (Q15.out.next hb16)
        clear K15 Q15 R15 HRh hb16
        go_wp2_with fail
        refine (heldLf _ _ _ _ _ Q16.out.row (by omega) (by omega) (by omega)).mono ?_
        rintro e w17 ⟨rfl, rfl⟩
        go_wp2
        go_ret
        exact ⟨rfl, K16.B⟩
end Go.Proofs.Ytkpgfafmaoaefaa

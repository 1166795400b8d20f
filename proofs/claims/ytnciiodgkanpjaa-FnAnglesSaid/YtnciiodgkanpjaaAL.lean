/-
  The walk of the law of angles: its code is drawn from; written by genAL.py.
-/
import Derived.Test.YtnciiodgkanpjaaAM
import Derived.Test.YtnciiodgkanpjaaBX
import Derived.Test.YtnciiodgkanpjaaDW
import Derived.Test.YtnciiodgkanpjaaW14
import Derived.Test.YtnciiodgkanpjaaL4
namespace Go.Proofs.Ytnciiodgkanpjaa
open Go.RowKit

theorem IntRow.next {w w' : World} {A : Option Addr} {l : List Int} (h : IntRow w w.heap.size A l) (hb : Below w.heap.size w w') : IntRow w' w'.heap.size A l := (h.below hb).more hb.size
theorem eqlAngSame (a b : Int) (W : World) : (binOp .eql 25 (ang a b) (ang a b)).run Try.prog W = .ok (.bool true) W := by simp [go_sem]
theorem orbList_get (p : Int × Int) {m i : Nat} (h : i < m) : (orbList p m)[i]? = some (orb p i) := by
  unfold orbList
  rw [List.getElem?_map, List.getElem?_range h]
  rfl
theorem halL_len2 (n d : Int) : (halL n d).length ≤ 2 := by unfold halL; split <;> simp
set_option maxRecDepth 8000 in
set_option maxHeartbeats 8000000 in
theorem lawAngles (A : Option Addr) (n cap : Nat) (w : World) (h : CodeRow w w.heap.size A n) :
    Calls Try.prog 3 #[.slice A n cap] w fun e w' => e = .returned (.bool true) ∧ Below w.heap.size w w' := by
  have HG := Lib.hid (lawBig A n cap w)
  by_cases hn : 4096 < n
  · have dn : decide (4096 < n) = true := decide_eq_true hn
    rw [dn] at HG
    clear h
    go_enter Try.func3, Try.ntmps3
    go_wp2_with fail
    refine HG.out.mono ?_
    rintro e w1 ⟨rfl, rfl⟩
    go_wp2
    go_ret
    exact ⟨rfl, Below.refl _ _⟩
  have dn : decide (4096 < n) = false := decide_eq_false hn
  rw [dn] at HG
  clear dn
  have HB : Hid (Below w.heap.size w w) := Lib.hid (Below.refl _ _)
  have HR := Lib.hid h
  have hn' : n ≤ 4096 := by omega
  have HD1 := Lib.hid (drawHalves A n cap w h hn')
  have HD2 := Lib.hid (fun W (hB : Below w.heap.size w W) => drawOrbit A n cap W (codeOn HR.out hB) hn')
  have HD3 := Lib.hid (fun W (hB : Below w.heap.size w W) => drawAdd A n cap W (codeOn HR.out hB) hn')
  have HD4 := Lib.hid (fun W (hB : Below w.heap.size w W) => drawDist A n cap W (codeOn HR.out hB) hn')
  have HD5 := Lib.hid (fun W (hB : Below w.heap.size w W) => drawOf A n cap W (codeOn HR.out hB) hn')
  clear h HR
  go_enter Try.func3, Try.ntmps3
  go_wp2_with fail
  refine HG.out.mono ?_
  rintro e w1 ⟨rfl, rfl⟩
  clear HG
  go_wp2_with fail
  refine HD1.out.mono ?_
  rintro e v0 ⟨⟨x, y, rfl⟩, hb⟩
  replace HB := Lib.hid (belowNext HB.out hb)
  clear hb
  clear HD1
  go_wp2_with fail
  have HG3 := Lib.hid (box2 v0 x y 25)
  replace HB := Lib.hid (belowAlloc HB.out (.cells #[.int .i64 x, .int .i64 y] 25))
  generalize v0.alloc (.cells #[.int .i64 x, .int .i64 y] 25) = u1 at *
  generalize v0.heap.size = G3 at *
  have HA1 := Lib.hid (fun w => implHalves x y w)
  have HA2 := Lib.hid (fun w => specHalves x y w)
  have HDb : Hid (∀ p q, (p, q) ∈ halL x y → ∀ w, Calls Try.prog 12 #[ang p q] w fun e w' => e = .returned (res3 x y 0) ∧ Below w.heap.size w w') := Lib.hid (fun p q hm w => by
    obtain ⟨e1, e2, e3⟩ := hal_dbl hm
    have := implDouble p q w
    rw [e1, e2, e3] at this
    exact this)
  have HI1 := Lib.hid (fun w => implIs x y w)
  have HI2 := Lib.hid (fun w => specIs x y w)
  have hl4 := halL_len2 x y
  generalize halL x y = l4 at *
  generalize halC x y = C4 at *
  generalize isAng x y = t at *
  obtain ⟨m4, hm4⟩ : ∃ m, l4.length = m := ⟨_, rfl⟩
  rw [hm4] at hl4
  have HL4 := Lib.hid hm4
  clear hm4
  refine (HA1.out _).mono ?_
  rintro e v1 ⟨A4, c4, rfl, hG4, hb⟩
  replace HG3 := Lib.hid (HG3.out.on hb)
  have HG4 := Lib.hid (hG4.row)
  clear hG4
  replace HB := Lib.hid (belowNext HB.out hb)
  clear hb
  rw [HL4.out]
  clear HA1
  obtain ⟨fG30, fG31, fG32⟩ := id HG3.out
  go_wp2_with fail
  clear fG30 fG31 fG32
  refine (HA2.out _).mono ?_
  rintro e v2 ⟨A6, c6, rfl, hG6, hb⟩
  replace HG3 := Lib.hid (HG3.out.on hb)
  replace HG4 := Lib.hid (HG4.out.next hb)
  have HG6 := Lib.hid (hG6.row)
  clear hG6
  replace HB := Lib.hid (belowNext HB.out hb)
  clear hb
  rw [HL4.out]
  clear HA2
  go_wp2_with fail
  have HOn : Hid (∀ {W W1 : World}, (fun W => Below w.heap.size w W ∧ Box2 G3 x y W ∧ AngRow W W.heap.size A4 l4 ∧ AngRow W W.heap.size A6 l4) W → Below W.heap.size W W1 → (fun W => Below w.heap.size w W ∧ Box2 G3 x y W ∧ AngRow W W.heap.size A4 l4 ∧ AngRow W W.heap.size A6 l4) W1) := Lib.hid (fun H hb => ⟨belowNext H.1 hb, H.2.1.on hb, H.2.2.1.next hb, H.2.2.2.next hb⟩)
  have S0 : (fun W => Below w.heap.size w W ∧ Box2 G3 x y W ∧ AngRow W W.heap.size A4 l4 ∧ AngRow W W.heap.size A6 l4) v2 := ⟨HB.out, HG3.out, HG4.out, HG6.out⟩
  clear HB HG3 HG4 HG6
  refine wp_region_held_drew (S := (fun W => Below w.heap.size w W ∧ Box2 G3 x y W ∧ AngRow W W.heap.size A4 l4 ∧ AngRow W W.heap.size A6 l4)) (by kernel_rfl) ?_ (fun hHeld => ?_)
  · exact HOn.out S0 (Below.refl _ _).drew
  refine wpAnyH_take (i := 0) (v := ?_) rfl (by kernel_rfl) (by kernel_rfl) (by kernel_rfl) (fun _ _ _ h => h) (Or.inl ⟨by kernel_rfl, ?_⟩) hHeld ?_
  rotate_left
  · intro w hSw; obtain ⟨B, ⟨z0, q0, q1⟩, _, _⟩ := hSw; first | (go_simp; done) | (go_simp; with_reducible rfl)
  refine wpAnyH_take (i := 1) (v := ?_) rfl (by kernel_rfl) (by kernel_rfl) (by kernel_rfl) (fun _ _ _ h => h) (Or.inl ⟨by kernel_rfl, ?_⟩) hHeld ?_
  rotate_left
  · intro w hSw; obtain ⟨B, ⟨z0, q0, q1⟩, _, _⟩ := hSw; first | (go_simp; done) | (go_simp; with_reducible rfl)
  refine wpAnyH_take (i := 2) (v := ?_) rfl (by kernel_rfl) (by kernel_rfl) (by kernel_rfl) (fun _ _ _ h => h) (Or.inl ⟨by kernel_rfl, ?_⟩) hHeld ?_
  rotate_left
  · intro w hSw; obtain ⟨B, ⟨z0, q0, q1⟩, _, _⟩ := hSw; first | (go_simp; done) | (go_simp; with_reducible rfl)
  refine wpAnyH_take (i := 3) (v := ?_) rfl (by kernel_rfl) (by kernel_rfl) (by kernel_rfl) (fun _ _ _ h => h) (Or.inl ⟨by kernel_rfl, ?_⟩) hHeld ?_
  rotate_left
  · intro w hSw; obtain ⟨B, ⟨z0, q0, q1⟩, _, _⟩ := hSw; first | (go_simp; done) | (go_simp; with_reducible rfl)
  refine wpAnyH_take (i := 4) (v := ?_) rfl (by kernel_rfl) (by kernel_rfl) (by kernel_rfl) (fun _ _ _ h => h) (Or.inl ⟨by kernel_rfl, ?_⟩) hHeld ?_
  rotate_left
  · intro w hSw; obtain ⟨B, ⟨z0, q0, q1⟩, _, _⟩ := hSw; first | (go_simp; done) | (go_simp; with_reducible rfl)
  refine wpAnyH_take (i := 5) (v := ?_) rfl (by kernel_rfl) (by kernel_rfl) (by kernel_rfl) (fun _ _ _ h => h) (Or.inl ⟨by kernel_rfl, ?_⟩) hHeld ?_
  rotate_left
  · intro w hSw; obtain ⟨B, ⟨z0, q0, q1⟩, _, _⟩ := hSw; first | (go_simp; done) | (go_simp; with_reducible rfl)
  refine wpAnyH_ready (rs := [6]) (by kernel_rfl) (by simp) ?_
  refine AllReadyH.cons rfl (fun K hK => ?_) AllReadyH.nil
  go_simp
  go_wp2_with (go_at_call 9; (with_reducible refine (eqAng5 _ _ _ _ _ l4 _ hHeld.2.2.1 hHeld.2.2.2 HL4.out (by omega)).mono ?_); rintro e a1 ⟨rfl, hb1⟩)
  have S1 := HOn.out hHeld hb1
  refine hK.out _ _ ?_ (fun hHeld => ?_)
  · exact S1
  clear hK K
  refine wpAnyH_take (i := 7) (v := ?_) rfl (by kernel_rfl) (by kernel_rfl) (by kernel_rfl) (fun _ _ _ h => h) (Or.inl ⟨by kernel_rfl, ?_⟩) hHeld ?_
  rotate_left
  · intro w hSw; obtain ⟨B, ⟨z0, q0, q1⟩, _, _⟩ := hSw; first | (go_simp; done) | (go_simp; with_reducible rfl)
  refine wpAnyH_take (i := 8) (v := ?_) rfl (by kernel_rfl) (by kernel_rfl) (by kernel_rfl) (fun _ _ _ h => h) (Or.inl ⟨by kernel_rfl, ?_⟩) hHeld ?_
  rotate_left
  · intro w hSw; obtain ⟨B, ⟨z0, q0, q1⟩, _, _⟩ := hSw; first | (go_simp; done) | (go_simp; with_reducible rfl)
  refine wpAnyH_take (i := 9) (v := ?_) rfl (by kernel_rfl) (by kernel_rfl) (by kernel_rfl) (fun _ _ _ h => h) (Or.inl ⟨by kernel_rfl, ?_⟩) hHeld ?_
  rotate_left
  · intro w hSw; obtain ⟨B, ⟨z0, q0, q1⟩, _, _⟩ := hSw; first | (go_simp; done) | (go_simp; with_reducible rfl)
  refine wpAnyH_take (i := 10) (v := ?_) rfl (by kernel_rfl) (by kernel_rfl) (by kernel_rfl) (fun _ _ _ h => h) (Or.inl ⟨by kernel_rfl, ?_⟩) hHeld ?_
  rotate_left
  · intro w hSw; obtain ⟨B, ⟨z0, q0, q1⟩, _, _⟩ := hSw; first | (go_simp; done) | (go_simp; with_reducible rfl)
  refine wpAnyH_take (i := 12) (v := ?_) rfl (by kernel_rfl) (by kernel_rfl) (by kernel_rfl) (fun _ _ _ h => h) (Or.inl ⟨by kernel_rfl, ?_⟩) hHeld ?_
  rotate_left
  · intro w hSw; obtain ⟨B, ⟨z0, q0, q1⟩, _, _⟩ := hSw; first | (go_simp; done) | (go_simp; with_reducible rfl)
  refine wpAnyH_ready (rs := [11]) (by kernel_rfl) (by simp) ?_
  refine AllReadyH.cons rfl (fun K hK => ?_) AllReadyH.nil
  go_simp
  go_wp2_with (go_at_call 10; (with_reducible refine (HI1.out _).mono ?_); rintro e a2 ⟨rfl, hb2⟩)
  have S2 := HOn.out hHeld hb2
  refine hK.out _ _ ?_ (fun hHeld => ?_)
  · exact S2
  clear hK K
  refine wpAnyH_ready (rs := [13]) (by kernel_rfl) (by simp) ?_
  refine AllReadyH.cons rfl (fun K hK => ?_) AllReadyH.nil
  go_simp
  go_wp2_with (go_at_call 11; (with_reducible refine (HI2.out _).mono ?_); rintro e a3 ⟨rfl, hb3⟩)
  have S3 := HOn.out hHeld hb3
  refine hK.out _ _ ?_ (fun hHeld => ?_)
  · exact S3
  clear hK K
  refine wpAnyH_take (i := 14) (v := ?_) rfl (by kernel_rfl) (by kernel_rfl) (by kernel_rfl) (fun _ _ _ h => h) (Or.inl ⟨by kernel_rfl, ?_⟩) hHeld ?_
  rotate_left
  · intro w hSw; obtain ⟨B, ⟨z0, q0, q1⟩, _, _⟩ := hSw; first | (go_simp; done) | (go_simp; with_reducible rfl)
  refine wpAnyH_take (i := 15) (v := ?_) rfl (by kernel_rfl) (by kernel_rfl) (by kernel_rfl) (fun _ _ _ h => h) (Or.inl ⟨by kernel_rfl, ?_⟩) hHeld ?_
  rotate_left
  · intro w hSw; obtain ⟨B, ⟨z0, q0, q1⟩, _, _⟩ := hSw; first | (go_simp; done) | (go_simp; with_reducible rfl)
  refine wpAnyH_done (by kernel_rfl) ?_ _
  have HB : Hid (Below w.heap.size w a3) := Lib.hid S3.1
  have HG3 : Hid (Box2 G3 x y a3) := Lib.hid S3.2.1
  have HG4 : Hid (AngRow a3 a3.heap.size A4 l4) := Lib.hid S3.2.2.1
  clear S0 hHeld S1 S2 S3 HOn HI1 HI2
  go_wp2_with fail
  go_loopg [8] m4 (fun gg s8 wr => ∃ k : Nat, k + gg = m4 ∧ s8 = .int .i64 k ∧ Hid (Below w.heap.size w wr) ∧ Hid (Box2 G3 x y wr) ∧ Hid (AngRow wr wr.heap.size A4 l4))
  case atStart => exact ⟨0, by omega, rfl, HB, HG3, HG4⟩
  case round =>
    clear HB HG3 HG4
    obtain ⟨k, hkg, rfl, HB, HG3, HG4⟩ := hrel
    cases gk with
    | succ gg =>
      have hlt : k < m4 := by omega
      have hlt2 : (k : Int) < (m4 : Int) := by omega
      have hkl : k < l4.length := by have := HL4.out; omega
      obtain ⟨⟨p, q⟩, hq⟩ : ∃ q, l4[k]? = some q := ⟨_, List.getElem?_eq_getElem hkl⟩
      have hne : l4 ≠ [] := by intro h; rw [h] at hkl; simp at hkl
      obtain ⟨b0, off, rfl, hb0, hcells⟩ := HG4.out hne
      obtain ⟨y0, y1⟩ := hcells k p q hq
      have HC := Lib.hid (HDb.out p q (List.mem_of_getElem? hq))
      clear hq hne hcells hkl
      go_wp2_with fail
      clear y0 y1
      refine (HC.out _).mono ?_
      rintro e v9 ⟨rfl, hb⟩
      have N1 := fun W => neqAngSame x y W
      replace HG3 := Lib.hid (HG3.out.on hb)
      replace HG4 := Lib.hid (HG4.out.next hb)
      replace HB := Lib.hid (belowNext HB.out hb)
      clear hb
      obtain ⟨g0, g1, g2⟩ := id HG3.out
      have HB2 := Lib.hid (belowAlloc HB.out (.cells #[.int .i64 x, .int .i64 y] 25))
      have HG32 := Lib.hid (HG3.out.on (belowAlloc (Below.refl _ _) (.cells #[.int .i64 x, .int .i64 y] 25)))
      have HG42 := Lib.hid (HG4.out.next (belowAlloc (Below.refl _ _) (.cells #[.int .i64 x, .int .i64 y] 25)))
      clear HB HG3 HG4
      go_wp2
      go_roundg gg
      case measure => omega
      case rel => exact ⟨k + 1, by omega, by go_num, HB2, HG32, HG42⟩
    | zero =>
      have hk4 : k = m4 := by omega
      subst hk4
      have hn4 : ¬ ((k : Int) < (k : Int)) := by omega
      clear HG3 HG4 HDb hkg HL4
      go_wp2_with fail
      refine (HD2.out _ HB.out).mono ?_
      rintro e v20 ⟨⟨c, d, rfl⟩, hb⟩
      replace HB := Lib.hid (belowNext HB.out hb)
      clear hb
      clear HD2
      go_wp2_with fail
      have HG11 := Lib.hid (box2 v20 c d 25)
      replace HB := Lib.hid (belowAlloc HB.out (.cells #[.int .i64 c, .int .i64 d] 25))
      generalize v20.alloc (.cells #[.int .i64 c, .int .i64 d] 25) = u21 at *
      generalize v20.heap.size = G11 at *
      have HO1 := Lib.hid (fun w => implOrbitOf c d w)
      have HO2 := Lib.hid (fun w => specOrbitOf c d w)
      have HO3 := Lib.hid (fun w => implPeriodsOf c d w)
      have HO4 := Lib.hid (fun w => specPeriodsOf c d w)
      have HOF := Lib.hid (fun (h : oC c d = 0) => orb_facts h)
      have HOB := Lib.hid (fun (h : oC c d ≠ 0) => orb_bad h)
      have hl12 := oL_len c d
      have hl16 := pL_len c d
      generalize oL c d = l12 at *
      generalize pL c d = l16 at *
      generalize oC c d = C12 at *
      obtain ⟨m12, hm12⟩ : ∃ m, l12.length = m := ⟨_, rfl⟩
      obtain ⟨m16, hm16⟩ : ∃ m, l16.length = m := ⟨_, rfl⟩
      rw [hm12] at hl12
      rw [hm16] at hl16
      have HL12 := Lib.hid hm12
      have HL16 := Lib.hid hm16
      clear hm12 hm16
      refine (HO1.out _).mono ?_
      rintro e v21 ⟨A12, c12, rfl, hG12, hb⟩
      replace HG11 := Lib.hid (HG11.out.on hb)
      have HG12 := Lib.hid (hG12.row)
      clear hG12
      replace HB := Lib.hid (belowNext HB.out hb)
      clear hb
      rw [HL12.out]
      clear HO1
      obtain ⟨fG110, fG111, fG112⟩ := id HG11.out
      go_wp2_with fail
      clear fG110 fG111 fG112
      refine (HO2.out _).mono ?_
      rintro e v22 ⟨A14, c14, rfl, hG14, hb⟩
      replace HG11 := Lib.hid (HG11.out.on hb)
      replace HG12 := Lib.hid (HG12.out.next hb)
      have HG14 := Lib.hid (hG14.row)
      clear hG14
      replace HB := Lib.hid (belowNext HB.out hb)
      clear hb
      rw [HL12.out]
      clear HO2
      obtain ⟨fG110, fG111, fG112⟩ := id HG11.out
      go_wp2_with fail
      clear fG110 fG111 fG112
      refine (HO3.out _).mono ?_
      rintro e v23 ⟨A16, c16, rfl, hG16, hb⟩
      replace HG11 := Lib.hid (HG11.out.on hb)
      replace HG12 := Lib.hid (HG12.out.next hb)
      replace HG14 := Lib.hid (HG14.out.next hb)
      have HG16 := Lib.hid (hG16.row)
      clear hG16
      replace HB := Lib.hid (belowNext HB.out hb)
      clear hb
      rw [HL16.out]
      clear HO3
      obtain ⟨fG110, fG111, fG112⟩ := id HG11.out
      go_wp2_with fail
      clear fG110 fG111 fG112
      refine (HO4.out _).mono ?_
      rintro e v24 ⟨A18, c18, rfl, hG18, hb⟩
      replace HG11 := Lib.hid (HG11.out.on hb)
      replace HG12 := Lib.hid (HG12.out.next hb)
      replace HG14 := Lib.hid (HG14.out.next hb)
      replace HG16 := Lib.hid (HG16.out.next hb)
      have HG18 := Lib.hid (hG18.row)
      clear hG18
      replace HB := Lib.hid (belowNext HB.out hb)
      clear hb
      rw [HL16.out]
      clear HO4
      go_wp2_with fail
      refine (eqAng5 _ _ _ _ _ l12 _ HG12.out HG14.out HL12.out (by omega)).mono ?_
      rintro e v25 ⟨rfl, hb⟩
      replace HG11 := Lib.hid (HG11.out.on hb)
      replace HG12 := Lib.hid (HG12.out.next hb)
      replace HG14 := Lib.hid (HG14.out.next hb)
      replace HG16 := Lib.hid (HG16.out.next hb)
      replace HG18 := Lib.hid (HG18.out.next hb)
      replace HB := Lib.hid (belowNext HB.out hb)
      clear hb
      go_wp2_with fail
      clear HG14
      refine (eqInts5 _ _ _ _ _ l16 _ HG16.out HG18.out HL16.out (by omega)).mono ?_
      rintro e v26 ⟨rfl, hb⟩
      replace HG11 := Lib.hid (HG11.out.on hb)
      replace HG12 := Lib.hid (HG12.out.next hb)
      replace HG16 := Lib.hid (HG16.out.next hb)
      replace HG18 := Lib.hid (HG18.out.next hb)
      replace HB := Lib.hid (belowNext HB.out hb)
      clear hb
      clear HG18
      by_cases hC12 : C12 = 0
      · subst hC12
        obtain ⟨k0, k1, k2, e1, e2, k3, k4, ha⟩ := HOF.out (by first | rfl | trivial)
        subst e1 e2
        have hk0 : m12 = k0 := by have := HL12.out; rw [orbList_len] at this; omega
        have hm16 : m16 = 2 := by have := HL16.out; simpa using this.symm
        subst hk0 hm16
        have HNx := Lib.hid (fun i => orb_next ha i)
        have HGt := Lib.hid (fun i (hi : i < m12) => orbList_get (c, d) hi)
        have HW := Lib.hid k4
        clear HOF HOB HL12 HL16 hl12 hl16 k4 ha
        generalize pre (c, d) = P0 at *
        obtain ⟨P1, hP1⟩ : ∃ P1 : Int, (m12 : Int) - (P0 : Int) = P1 := ⟨_, rfl⟩
        rw [hP1] at HG16
        have w1 : wrap64 ((P0 : Int) + P1) = (m12 : Int) := by rw [← hP1, show (P0 : Int) + ((m12 : Int) - (P0 : Int)) = (m12 : Int) by omega]; exact IntWalk.wrap64_in _ (by omega)
        have w2 : IntKind.i64.wrap ((P0 : Int) + P1) = (m12 : Int) := by rw [← hP1, show (P0 : Int) + ((m12 : Int) - (P0 : Int)) = (m12 : Int) by omega]; exact IntWalk.i64_in _ (by omega)
        clear hP1
        obtain ⟨b12, o12, rfl, hb12, hc12⟩ := HG12.out (by intro h; have := congrArg List.length h; rw [orbList_len] at this; simp at this; omega)
        obtain ⟨b16, o16, rfl, hb16, hc16⟩ := HG16.out (by simp)
        have x0 := hc16 0 _ rfl
        have x1 := hc16 1 _ rfl
        obtain ⟨y0, y1⟩ := hc12 0 c d (HGt.out 0 k1)
        rw [Nat.add_zero] at x0
        rw [Nat.zero_mul, Nat.add_zero] at y0 y1
        have N1 := fun W => neqAngSame c d W
        obtain ⟨g0, g1, g2⟩ := id HG11.out
        clear hc12 hc16
        go_wp2_with fail
        go_quiet (fail)
        have HB2 : Hid (∀ q, Below w.heap.size w (v26.drewN q)) := Lib.hid (fun q => below_drewN HB.out q)
        have HG122 : Hid (∀ q, AngRow (v26.drewN q) v26.heap.size (some ⟨b12, o12, none⟩) (orbList (c, d) m12)) := Lib.hid (fun q => HG12.out.below (below_drewN (Below.refl _ _) q))
        have HG162 : Hid (∀ q, IntRow (v26.drewN q) v26.heap.size (some ⟨b16, o16, none⟩) [(P0 : Int), P1]) := Lib.hid (fun q => HG16.out.below (below_drewN (Below.refl _ _) q))
        clear HB HG12 HG16 HG11 g0 g1 g2 x0 x1 y0 y1 w1 w2 N1 hb12 hb16
        go_wp2_with fail
        go_loopg [20] m12 (fun gg s20 wr => ∃ k : Nat, k + gg = m12 ∧ s20 = .int .i64 k ∧ Hid (Below w.heap.size w wr) ∧ Hid (AngRow wr wr.heap.size (some ⟨b12, o12, none⟩) (orbList (c, d) m12)) ∧ Hid (IntRow wr wr.heap.size (some ⟨b16, o16, none⟩) [(P0 : Int), P1]))
        case atStart => exact ⟨0, by omega, rfl, Lib.hid (HB2.out _), Lib.hid (HG122.out _), Lib.hid (HG162.out _)⟩
        case round =>
          clear HB2 HG122 HG162
          obtain ⟨k, hkg, rfl, HB, HG12, HG16⟩ := hrel
          cases gk with
            | succ gg =>
              have hlt : k < m12 := by omega
              have hlt2 : (k : Int) < (m12 : Int) := by omega
              obtain ⟨j, hj⟩ : ∃ j : Nat, k + 1 = j := ⟨_, rfl⟩
              have w1 : wrap64 ((k : Int) + 1) = (j : Int) := by rw [show (k : Int) + 1 = (j : Int) by omega]; exact IntWalk.wrap64_in _ (by omega)
              have w2 : IntKind.i64.wrap ((k : Int) + 1) = (j : Int) := by rw [show (k : Int) + 1 = (j : Int) by omega]; exact IntWalk.i64_in _ (by omega)
              obtain ⟨e1, e2, e3⟩ := HNx.out k
              have ek := HGt.out k hlt
              have HJ : Hid (j < m12 → (orbList (c, d) m12)[j]? = some (orb (c, d) j)) := Lib.hid (fun h => HGt.out j h)
              have HJ2 : Hid (j = m12 → (orbList (c, d) m12)[P0]? = some (orb (c, d) j)) := Lib.hid (fun h => by rw [HGt.out P0 (by omega), h, HW.out])
              rw [hj] at e1 e2
              obtain ⟨⟨u, v⟩, hu⟩ : ∃ p, orb (c, d) k = p := ⟨_, rfl⟩
              obtain ⟨⟨u', v'⟩, hu'⟩ : ∃ p, orb (c, d) j = p := ⟨_, rfl⟩
              rw [hu] at e1 e2 e3 ek
              rw [hu'] at e1 e2 HJ HJ2
              dsimp only at e1 e2 e3
              have HC : Hid (∀ w, Calls Try.prog 12 #[ang u v] w fun e w' => e = .returned (res3 u' v' 0) ∧ Below w.heap.size w w') := Lib.hid (fun w => by
                have := implDouble u v w
                rw [e1, e2, e3] at this
                exact this)
              clear e1 e2 e3 hu hu'
              have hnn : orbList (c, d) m12 ≠ [] := by intro h; rw [h] at ek; simp at ek
              obtain ⟨_, _, hA, hb12, hc12⟩ := HG12.out hnn
              cases hA
              obtain ⟨y0, y1⟩ := hc12 k u v ek
              clear hc12 ek
              have HK := Lib.hid hj
              clear hj
              go_wp2_with fail
              clear y0 y1 hb12
              refine (HC.out _).mono ?_
              rintro e v30 ⟨rfl, hb⟩
              replace HG12 := Lib.hid (HG12.out.next hb)
              replace HG16 := Lib.hid (HG16.out.next hb)
              replace HB := Lib.hid (belowNext HB.out hb)
              clear hb HC
              have N1 := fun W => neqAngSame u' v' W
              obtain ⟨_, _, hA, hb16, hc16⟩ := HG16.out (by simp)
              cases hA
              have x0 := hc16 0 _ rfl
              rw [Nat.add_zero] at x0
              clear hc16
              obtain ⟨_, _, hA, hb12, hc12⟩ := HG12.out hnn
              cases hA
              have HB2 : Hid (∀ q, Below w.heap.size w ((v30.alloc (.cells #[.int .i64 u', .int .i64 v'] 25)).drewN q)) := Lib.hid (fun q => below_drewN (belowAlloc HB.out _) q)
              have HG122 : Hid (∀ q, AngRow ((v30.alloc (.cells #[.int .i64 u', .int .i64 v'] 25)).drewN q) (v30.heap.size + 1) (some ⟨b12, o12, none⟩) (orbList (c, d) m12)) := Lib.hid (fun q => by have := (HG12.out.next (belowAlloc (Below.refl _ _) (.cells #[.int .i64 u', .int .i64 v'] 25))).below (below_drewN (Below.refl _ _) q); simpa using this)
              have HG162 : Hid (∀ q, IntRow ((v30.alloc (.cells #[.int .i64 u', .int .i64 v'] 25)).drewN q) (v30.heap.size + 1) (some ⟨b16, o16, none⟩) [(P0 : Int), P1]) := Lib.hid (fun q => by have := (HG16.out.next (belowAlloc (Below.refl _ _) (.cells #[.int .i64 u', .int .i64 v'] 25))).below (below_drewN (Below.refl _ _) q); simpa using this)
              clear HB HG12 HG16
              by_cases hjm : j < m12
              · have hj2 : (j : Int) < (m12 : Int) := by omega
                obtain ⟨y0, y1⟩ := hc12 j u' v' (HJ.out hjm)
                clear hc12 HJ HJ2 hnn
                go_wp2_with fail
                go_quiet (fail)
                go_wp2
                go_roundg gg
                case measure => omega
                case rel => exact ⟨j, by have := HK.out; omega, by go_num, Lib.hid (HB2.out _), Lib.hid (by simpa using HG122.out _), Lib.hid (by simpa using HG162.out _)⟩
              · have hje : j = m12 := by have := HK.out; omega
                have hj2 : ¬ ((j : Int) < (m12 : Int)) := by omega
                have hp2 : (P0 : Int) < (m12 : Int) := by omega
                obtain ⟨y0, y1⟩ := hc12 P0 u' v' (HJ2.out hje)
                clear hje
                clear hc12 HJ HJ2 hnn
                go_wp2_with fail
                go_quiet (fail)
                go_wp2
                go_roundg gg
                case measure => omega
                case rel => exact ⟨j, by have := HK.out; omega, by go_num, Lib.hid (HB2.out _), Lib.hid (by simpa using HG122.out _), Lib.hid (by simpa using HG162.out _)⟩
            | zero =>
              have hk4 : k = m12 := by omega
              subst hk4
              have hn4 : ¬ ((k : Int) < (k : Int)) := by omega
              clear HG12 HG16 HNx HGt HW hkg
              go_wp2_with fail
              refine (HD3.out _ HB.out).mono ?_
              rintro e v40 ⟨⟨a1, a2, b1, b2, rfl⟩, hb⟩
              replace HB := Lib.hid (belowNext HB.out hb)
              clear hb
              clear HD3
              go_wp2_with fail
              have HG24 := Lib.hid (box2 v40 a1 a2 25)
              replace HB := Lib.hid (belowAlloc HB.out (.cells #[.int .i64 a1, .int .i64 a2] 25))
              replace HG24 := Lib.hid (HG24.out.on (belowAlloc (Below.refl _ _) (.cells #[.int .i64 b1, .int .i64 b2] 25)))
              have HG25 := Lib.hid (box2 (v40.alloc (.cells #[.int .i64 a1, .int .i64 a2] 25)) b1 b2 25)
              replace HB := Lib.hid (belowAlloc HB.out (.cells #[.int .i64 b1, .int .i64 b2] 25))
              simp only [World.size_alloc] at HG25
              generalize (v40.alloc (.cells #[.int .i64 a1, .int .i64 a2] 25)).alloc (.cells #[.int .i64 b1, .int .i64 b2] 25) = u41 at *
              generalize v40.heap.size + 1 = G25 at *
              generalize v40.heap.size = G24 at *
              have HS1 := Lib.hid (fun w => implAdd a1 a2 b1 b2 w)
              have HS2 := Lib.hid (fun w => specAdd a1 a2 b1 b2 w)
              have HS3 := Lib.hid (fun w => implAdd b1 b2 a1 a2 w)
              rw [(sum_sym a1 a2 b1 b2).1, (sum_sym a1 a2 b1 b2).2.1, (sum_sym a1 a2 b1 b2).2.2] at HS3
              generalize sumN a1 a2 b1 b2 = s1 at *
              generalize sumD a1 a2 b1 b2 = s2 at *
              generalize sumC a1 a2 b1 b2 = C26 at *
              refine (HS1.out _).mono ?_
              rintro e v41 ⟨rfl, hb⟩
              replace HG24 := Lib.hid (HG24.out.on hb)
              replace HG25 := Lib.hid (HG25.out.on hb)
              replace HB := Lib.hid (belowNext HB.out hb)
              clear hb
              clear HS1
              obtain ⟨fG240, fG241, fG242⟩ := id HG24.out
              obtain ⟨fG250, fG251, fG252⟩ := id HG25.out
              go_wp2_with fail
              clear fG240 fG241 fG242 fG250 fG251 fG252
              replace HG24 := Lib.hid (HG24.out.on (belowAlloc (Below.refl _ _) (.cells #[.int .i64 s1, .int .i64 s2] 25)))
              replace HG25 := Lib.hid (HG25.out.on (belowAlloc (Below.refl _ _) (.cells #[.int .i64 s1, .int .i64 s2] 25)))
              have HG26 := Lib.hid (box2 v41 s1 s2 25)
              replace HB := Lib.hid (belowAlloc HB.out (.cells #[.int .i64 s1, .int .i64 s2] 25))
              generalize v41.alloc (.cells #[.int .i64 s1, .int .i64 s2] 25) = u42 at *
              generalize v41.heap.size = G26 at *
              refine (HS2.out _).mono ?_
              rintro e v42 ⟨rfl, hb⟩
              replace HG24 := Lib.hid (HG24.out.on hb)
              replace HG25 := Lib.hid (HG25.out.on hb)
              replace HG26 := Lib.hid (HG26.out.on hb)
              replace HB := Lib.hid (belowNext HB.out hb)
              clear hb
              clear HS2
              obtain ⟨fG240, fG241, fG242⟩ := id HG24.out
              obtain ⟨fG250, fG251, fG252⟩ := id HG25.out
              go_wp2_with fail
              clear fG240 fG241 fG242 fG250 fG251 fG252
              replace HG24 := Lib.hid (HG24.out.on (belowAlloc (Below.refl _ _) (.cells #[.int .i64 s1, .int .i64 s2] 25)))
              replace HG25 := Lib.hid (HG25.out.on (belowAlloc (Below.refl _ _) (.cells #[.int .i64 s1, .int .i64 s2] 25)))
              replace HG26 := Lib.hid (HG26.out.on (belowAlloc (Below.refl _ _) (.cells #[.int .i64 s1, .int .i64 s2] 25)))
              have HG28 := Lib.hid (box2 v42 s1 s2 25)
              replace HB := Lib.hid (belowAlloc HB.out (.cells #[.int .i64 s1, .int .i64 s2] 25))
              generalize v42.alloc (.cells #[.int .i64 s1, .int .i64 s2] 25) = u43 at *
              generalize v42.heap.size = G28 at *
              refine (HS3.out _).mono ?_
              rintro e v43 ⟨rfl, hb⟩
              replace HG24 := Lib.hid (HG24.out.on hb)
              replace HG25 := Lib.hid (HG25.out.on hb)
              replace HG26 := Lib.hid (HG26.out.on hb)
              replace HG28 := Lib.hid (HG28.out.on hb)
              replace HB := Lib.hid (belowNext HB.out hb)
              clear hb
              clear HS3
              go_wp2_with fail
              replace HG24 := Lib.hid (HG24.out.on (belowAlloc (Below.refl _ _) (.cells #[.int .i64 s1, .int .i64 s2] 25)))
              replace HG25 := Lib.hid (HG25.out.on (belowAlloc (Below.refl _ _) (.cells #[.int .i64 s1, .int .i64 s2] 25)))
              replace HG26 := Lib.hid (HG26.out.on (belowAlloc (Below.refl _ _) (.cells #[.int .i64 s1, .int .i64 s2] 25)))
              replace HG28 := Lib.hid (HG28.out.on (belowAlloc (Below.refl _ _) (.cells #[.int .i64 s1, .int .i64 s2] 25)))
              have HG30 := Lib.hid (box2 v43 s1 s2 25)
              replace HB := Lib.hid (belowAlloc HB.out (.cells #[.int .i64 s1, .int .i64 s2] 25))
              generalize v43.alloc (.cells #[.int .i64 s1, .int .i64 s2] 25) = u44 at *
              generalize v43.heap.size = G30 at *
              clear HG24 HG25
              refine (HD4.out _ HB.out).mono ?_
              rintro e v44 ⟨⟨a1, a2, b1, b2, rfl⟩, hb⟩
              replace HG26 := Lib.hid (HG26.out.on hb)
              replace HG28 := Lib.hid (HG28.out.on hb)
              replace HG30 := Lib.hid (HG30.out.on hb)
              replace HB := Lib.hid (belowNext HB.out hb)
              clear hb
              clear HD4
              go_wp2_with fail
              replace HG26 := Lib.hid (HG26.out.on (belowAlloc (Below.refl _ _) (.cells #[.int .i64 a1, .int .i64 a2] 25)))
              replace HG28 := Lib.hid (HG28.out.on (belowAlloc (Below.refl _ _) (.cells #[.int .i64 a1, .int .i64 a2] 25)))
              replace HG30 := Lib.hid (HG30.out.on (belowAlloc (Below.refl _ _) (.cells #[.int .i64 a1, .int .i64 a2] 25)))
              have HG32 := Lib.hid (box2 v44 a1 a2 25)
              replace HB := Lib.hid (belowAlloc HB.out (.cells #[.int .i64 a1, .int .i64 a2] 25))
              replace HG26 := Lib.hid (HG26.out.on (belowAlloc (Below.refl _ _) (.cells #[.int .i64 b1, .int .i64 b2] 25)))
              replace HG28 := Lib.hid (HG28.out.on (belowAlloc (Below.refl _ _) (.cells #[.int .i64 b1, .int .i64 b2] 25)))
              replace HG30 := Lib.hid (HG30.out.on (belowAlloc (Below.refl _ _) (.cells #[.int .i64 b1, .int .i64 b2] 25)))
              replace HG32 := Lib.hid (HG32.out.on (belowAlloc (Below.refl _ _) (.cells #[.int .i64 b1, .int .i64 b2] 25)))
              have HG33 := Lib.hid (box2 (v44.alloc (.cells #[.int .i64 a1, .int .i64 a2] 25)) b1 b2 25)
              replace HB := Lib.hid (belowAlloc HB.out (.cells #[.int .i64 b1, .int .i64 b2] 25))
              simp only [World.size_alloc] at HG33
              generalize (v44.alloc (.cells #[.int .i64 a1, .int .i64 a2] 25)).alloc (.cells #[.int .i64 b1, .int .i64 b2] 25) = u45 at *
              generalize v44.heap.size + 1 = G33 at *
              generalize v44.heap.size = G32 at *
              have HS1 := Lib.hid (fun w => implDist a1 a2 b1 b2 w)
              have HS2 := Lib.hid (fun w => specDist a1 a2 b1 b2 w)
              have HS3 := Lib.hid (fun w => implDist b1 b2 a1 a2 w)
              rw [(dis_sym a1 a2 b1 b2).1, (dis_sym a1 a2 b1 b2).2.1, (dis_sym a1 a2 b1 b2).2.2] at HS3
              generalize disN a1 a2 b1 b2 = d1 at *
              generalize disD a1 a2 b1 b2 = d2 at *
              generalize disC a1 a2 b1 b2 = C34 at *
              refine (HS1.out _).mono ?_
              rintro e v45 ⟨rfl, hb⟩
              replace HG26 := Lib.hid (HG26.out.on hb)
              replace HG28 := Lib.hid (HG28.out.on hb)
              replace HG30 := Lib.hid (HG30.out.on hb)
              replace HG32 := Lib.hid (HG32.out.on hb)
              replace HG33 := Lib.hid (HG33.out.on hb)
              replace HB := Lib.hid (belowNext HB.out hb)
              clear hb
              clear HS1
              obtain ⟨fG320, fG321, fG322⟩ := id HG32.out
              obtain ⟨fG330, fG331, fG332⟩ := id HG33.out
              go_wp2_with fail
              clear fG320 fG321 fG322 fG330 fG331 fG332
              replace HG26 := Lib.hid (HG26.out.on (belowAlloc (Below.refl _ _) (.cells #[.int .i64 d1, .int .i64 d2] 25)))
              replace HG28 := Lib.hid (HG28.out.on (belowAlloc (Below.refl _ _) (.cells #[.int .i64 d1, .int .i64 d2] 25)))
              replace HG30 := Lib.hid (HG30.out.on (belowAlloc (Below.refl _ _) (.cells #[.int .i64 d1, .int .i64 d2] 25)))
              replace HG32 := Lib.hid (HG32.out.on (belowAlloc (Below.refl _ _) (.cells #[.int .i64 d1, .int .i64 d2] 25)))
              replace HG33 := Lib.hid (HG33.out.on (belowAlloc (Below.refl _ _) (.cells #[.int .i64 d1, .int .i64 d2] 25)))
              have HG34 := Lib.hid (box2 v45 d1 d2 25)
              replace HB := Lib.hid (belowAlloc HB.out (.cells #[.int .i64 d1, .int .i64 d2] 25))
              generalize v45.alloc (.cells #[.int .i64 d1, .int .i64 d2] 25) = u46 at *
              generalize v45.heap.size = G34 at *
              refine (HS2.out _).mono ?_
              rintro e v46 ⟨rfl, hb⟩
              replace HG26 := Lib.hid (HG26.out.on hb)
              replace HG28 := Lib.hid (HG28.out.on hb)
              replace HG30 := Lib.hid (HG30.out.on hb)
              replace HG32 := Lib.hid (HG32.out.on hb)
              replace HG33 := Lib.hid (HG33.out.on hb)
              replace HG34 := Lib.hid (HG34.out.on hb)
              replace HB := Lib.hid (belowNext HB.out hb)
              clear hb
              clear HS2
              obtain ⟨fG320, fG321, fG322⟩ := id HG32.out
              obtain ⟨fG330, fG331, fG332⟩ := id HG33.out
              go_wp2_with fail
              clear fG320 fG321 fG322 fG330 fG331 fG332
              replace HG26 := Lib.hid (HG26.out.on (belowAlloc (Below.refl _ _) (.cells #[.int .i64 d1, .int .i64 d2] 25)))
              replace HG28 := Lib.hid (HG28.out.on (belowAlloc (Below.refl _ _) (.cells #[.int .i64 d1, .int .i64 d2] 25)))
              replace HG30 := Lib.hid (HG30.out.on (belowAlloc (Below.refl _ _) (.cells #[.int .i64 d1, .int .i64 d2] 25)))
              replace HG32 := Lib.hid (HG32.out.on (belowAlloc (Below.refl _ _) (.cells #[.int .i64 d1, .int .i64 d2] 25)))
              replace HG33 := Lib.hid (HG33.out.on (belowAlloc (Below.refl _ _) (.cells #[.int .i64 d1, .int .i64 d2] 25)))
              replace HG34 := Lib.hid (HG34.out.on (belowAlloc (Below.refl _ _) (.cells #[.int .i64 d1, .int .i64 d2] 25)))
              have HG36 := Lib.hid (box2 v46 d1 d2 25)
              replace HB := Lib.hid (belowAlloc HB.out (.cells #[.int .i64 d1, .int .i64 d2] 25))
              generalize v46.alloc (.cells #[.int .i64 d1, .int .i64 d2] 25) = u47 at *
              generalize v46.heap.size = G36 at *
              refine (HS3.out _).mono ?_
              rintro e v47 ⟨rfl, hb⟩
              replace HG26 := Lib.hid (HG26.out.on hb)
              replace HG28 := Lib.hid (HG28.out.on hb)
              replace HG30 := Lib.hid (HG30.out.on hb)
              replace HG32 := Lib.hid (HG32.out.on hb)
              replace HG33 := Lib.hid (HG33.out.on hb)
              replace HG34 := Lib.hid (HG34.out.on hb)
              replace HG36 := Lib.hid (HG36.out.on hb)
              replace HB := Lib.hid (belowNext HB.out hb)
              clear hb
              clear HS3
              go_wp2_with fail
              replace HG26 := Lib.hid (HG26.out.on (belowAlloc (Below.refl _ _) (.cells #[.int .i64 d1, .int .i64 d2] 25)))
              replace HG28 := Lib.hid (HG28.out.on (belowAlloc (Below.refl _ _) (.cells #[.int .i64 d1, .int .i64 d2] 25)))
              replace HG30 := Lib.hid (HG30.out.on (belowAlloc (Below.refl _ _) (.cells #[.int .i64 d1, .int .i64 d2] 25)))
              replace HG32 := Lib.hid (HG32.out.on (belowAlloc (Below.refl _ _) (.cells #[.int .i64 d1, .int .i64 d2] 25)))
              replace HG33 := Lib.hid (HG33.out.on (belowAlloc (Below.refl _ _) (.cells #[.int .i64 d1, .int .i64 d2] 25)))
              replace HG34 := Lib.hid (HG34.out.on (belowAlloc (Below.refl _ _) (.cells #[.int .i64 d1, .int .i64 d2] 25)))
              replace HG36 := Lib.hid (HG36.out.on (belowAlloc (Below.refl _ _) (.cells #[.int .i64 d1, .int .i64 d2] 25)))
              have HG38 := Lib.hid (box2 v47 d1 d2 25)
              replace HB := Lib.hid (belowAlloc HB.out (.cells #[.int .i64 d1, .int .i64 d2] 25))
              generalize v47.alloc (.cells #[.int .i64 d1, .int .i64 d2] 25) = u48 at *
              generalize v47.heap.size = G38 at *
              clear HG32 HG33
              refine (HD5.out _ HB.out).mono ?_
              rintro e v48 ⟨⟨p1, p2, rfl⟩, hb⟩
              replace HG26 := Lib.hid (HG26.out.on hb)
              replace HG28 := Lib.hid (HG28.out.on hb)
              replace HG30 := Lib.hid (HG30.out.on hb)
              replace HG34 := Lib.hid (HG34.out.on hb)
              replace HG36 := Lib.hid (HG36.out.on hb)
              replace HG38 := Lib.hid (HG38.out.on hb)
              replace HB := Lib.hid (belowNext HB.out hb)
              clear hb
              clear HD5
              have HS1 := Lib.hid (fun w => implOf p1 p2 w)
              have HS2 := Lib.hid (fun w => specOf p1 p2 w)
              generalize ofN p1 p2 = o1 at *
              generalize ofD p1 p2 = o2 at *
              generalize ofC p1 p2 = C42 at *
              go_wp2_with fail
              refine (HS1.out _).mono ?_
              rintro e v49 ⟨rfl, hb⟩
              replace HG26 := Lib.hid (HG26.out.on hb)
              replace HG28 := Lib.hid (HG28.out.on hb)
              replace HG30 := Lib.hid (HG30.out.on hb)
              replace HG34 := Lib.hid (HG34.out.on hb)
              replace HG36 := Lib.hid (HG36.out.on hb)
              replace HG38 := Lib.hid (HG38.out.on hb)
              replace HB := Lib.hid (belowNext HB.out hb)
              clear hb
              clear HS1
              go_wp2_with fail
              replace HG26 := Lib.hid (HG26.out.on (belowAlloc (Below.refl _ _) (.cells #[.int .i64 o1, .int .i64 o2] 25)))
              replace HG28 := Lib.hid (HG28.out.on (belowAlloc (Below.refl _ _) (.cells #[.int .i64 o1, .int .i64 o2] 25)))
              replace HG30 := Lib.hid (HG30.out.on (belowAlloc (Below.refl _ _) (.cells #[.int .i64 o1, .int .i64 o2] 25)))
              replace HG34 := Lib.hid (HG34.out.on (belowAlloc (Below.refl _ _) (.cells #[.int .i64 o1, .int .i64 o2] 25)))
              replace HG36 := Lib.hid (HG36.out.on (belowAlloc (Below.refl _ _) (.cells #[.int .i64 o1, .int .i64 o2] 25)))
              replace HG38 := Lib.hid (HG38.out.on (belowAlloc (Below.refl _ _) (.cells #[.int .i64 o1, .int .i64 o2] 25)))
              have HG42 := Lib.hid (box2 v49 o1 o2 25)
              replace HB := Lib.hid (belowAlloc HB.out (.cells #[.int .i64 o1, .int .i64 o2] 25))
              generalize v49.alloc (.cells #[.int .i64 o1, .int .i64 o2] 25) = u50 at *
              generalize v49.heap.size = G42 at *
              refine (HS2.out _).mono ?_
              rintro e v50 ⟨rfl, hb⟩
              replace HG26 := Lib.hid (HG26.out.on hb)
              replace HG28 := Lib.hid (HG28.out.on hb)
              replace HG30 := Lib.hid (HG30.out.on hb)
              replace HG34 := Lib.hid (HG34.out.on hb)
              replace HG36 := Lib.hid (HG36.out.on hb)
              replace HG38 := Lib.hid (HG38.out.on hb)
              replace HG42 := Lib.hid (HG42.out.on hb)
              replace HB := Lib.hid (belowNext HB.out hb)
              clear hb
              clear HS2
              have E1 := fun W => eqlAngSame s1 s2 W
              have E2 := fun W => eqlAngSame d1 d2 W
              have E3 := fun W => eqlAngSame o1 o2 W
              obtain ⟨fG260, fG261, fG262⟩ := id HG26.out
              obtain ⟨fG280, fG281, fG282⟩ := id HG28.out
              obtain ⟨fG300, fG301, fG302⟩ := id HG30.out
              obtain ⟨fG340, fG341, fG342⟩ := id HG34.out
              obtain ⟨fG360, fG361, fG362⟩ := id HG36.out
              obtain ⟨fG380, fG381, fG382⟩ := id HG38.out
              obtain ⟨fG420, fG421, fG422⟩ := id HG42.out
              have hB := HB.out
              go_wp2
              go_ret
              refine ⟨rfl, ?_⟩
              (repeat' (first | (with_reducible exact Below.refl _ _) | (with_reducible assumption) | (with_reducible refine belowNext ?_ (by with_reducible assumption)) | (with_reducible refine belowAlloc ?_ _) | (with_reducible refine Below.drew ?_) | (with_reducible refine below_drewN ?_ _) | (with_reducible refine Below.setCell ?_ ?_ _) | go_size | (with_reducible refine sizeOf' ?_) | (with_reducible refine sizeAdd ?_) | (dsimp only; first | (with_reducible refine sizeOf' ?_) | (with_reducible refine sizeAdd ?_))))
      · clear HOF HOB HL12 HL16
        have hCb : (C12 == 0) = false := beq_eq_false_iff_ne.2 hC12
        clear HG12 HG16 HG11
        go_wp2_with fail
        refine (HD3.out _ HB.out).mono ?_
        rintro e v27 ⟨⟨a1, a2, b1, b2, rfl⟩, hb⟩
        replace HB := Lib.hid (belowNext HB.out hb)
        clear hb
        clear HD3
        go_wp2_with fail
        have HG24 := Lib.hid (box2 v27 a1 a2 25)
        replace HB := Lib.hid (belowAlloc HB.out (.cells #[.int .i64 a1, .int .i64 a2] 25))
        replace HG24 := Lib.hid (HG24.out.on (belowAlloc (Below.refl _ _) (.cells #[.int .i64 b1, .int .i64 b2] 25)))
        have HG25 := Lib.hid (box2 (v27.alloc (.cells #[.int .i64 a1, .int .i64 a2] 25)) b1 b2 25)
        replace HB := Lib.hid (belowAlloc HB.out (.cells #[.int .i64 b1, .int .i64 b2] 25))
        simp only [World.size_alloc] at HG25
        generalize (v27.alloc (.cells #[.int .i64 a1, .int .i64 a2] 25)).alloc (.cells #[.int .i64 b1, .int .i64 b2] 25) = u28 at *
        generalize v27.heap.size + 1 = G25 at *
        generalize v27.heap.size = G24 at *
        have HS1 := Lib.hid (fun w => implAdd a1 a2 b1 b2 w)
        have HS2 := Lib.hid (fun w => specAdd a1 a2 b1 b2 w)
        have HS3 := Lib.hid (fun w => implAdd b1 b2 a1 a2 w)
        rw [(sum_sym a1 a2 b1 b2).1, (sum_sym a1 a2 b1 b2).2.1, (sum_sym a1 a2 b1 b2).2.2] at HS3
        generalize sumN a1 a2 b1 b2 = s1 at *
        generalize sumD a1 a2 b1 b2 = s2 at *
        generalize sumC a1 a2 b1 b2 = C26 at *
        refine (HS1.out _).mono ?_
        rintro e v28 ⟨rfl, hb⟩
        replace HG24 := Lib.hid (HG24.out.on hb)
        replace HG25 := Lib.hid (HG25.out.on hb)
        replace HB := Lib.hid (belowNext HB.out hb)
        clear hb
        clear HS1
        obtain ⟨fG240, fG241, fG242⟩ := id HG24.out
        obtain ⟨fG250, fG251, fG252⟩ := id HG25.out
        go_wp2_with fail
        clear fG240 fG241 fG242 fG250 fG251 fG252
        replace HG24 := Lib.hid (HG24.out.on (belowAlloc (Below.refl _ _) (.cells #[.int .i64 s1, .int .i64 s2] 25)))
        replace HG25 := Lib.hid (HG25.out.on (belowAlloc (Below.refl _ _) (.cells #[.int .i64 s1, .int .i64 s2] 25)))
        have HG26 := Lib.hid (box2 v28 s1 s2 25)
        replace HB := Lib.hid (belowAlloc HB.out (.cells #[.int .i64 s1, .int .i64 s2] 25))
        generalize v28.alloc (.cells #[.int .i64 s1, .int .i64 s2] 25) = u29 at *
        generalize v28.heap.size = G26 at *
        refine (HS2.out _).mono ?_
        rintro e v29 ⟨rfl, hb⟩
        replace HG24 := Lib.hid (HG24.out.on hb)
        replace HG25 := Lib.hid (HG25.out.on hb)
        replace HG26 := Lib.hid (HG26.out.on hb)
        replace HB := Lib.hid (belowNext HB.out hb)
        clear hb
        clear HS2
        obtain ⟨fG240, fG241, fG242⟩ := id HG24.out
        obtain ⟨fG250, fG251, fG252⟩ := id HG25.out
        go_wp2_with fail
        clear fG240 fG241 fG242 fG250 fG251 fG252
        replace HG24 := Lib.hid (HG24.out.on (belowAlloc (Below.refl _ _) (.cells #[.int .i64 s1, .int .i64 s2] 25)))
        replace HG25 := Lib.hid (HG25.out.on (belowAlloc (Below.refl _ _) (.cells #[.int .i64 s1, .int .i64 s2] 25)))
        replace HG26 := Lib.hid (HG26.out.on (belowAlloc (Below.refl _ _) (.cells #[.int .i64 s1, .int .i64 s2] 25)))
        have HG28 := Lib.hid (box2 v29 s1 s2 25)
        replace HB := Lib.hid (belowAlloc HB.out (.cells #[.int .i64 s1, .int .i64 s2] 25))
        generalize v29.alloc (.cells #[.int .i64 s1, .int .i64 s2] 25) = u30 at *
        generalize v29.heap.size = G28 at *
        refine (HS3.out _).mono ?_
        rintro e v30 ⟨rfl, hb⟩
        replace HG24 := Lib.hid (HG24.out.on hb)
        replace HG25 := Lib.hid (HG25.out.on hb)
        replace HG26 := Lib.hid (HG26.out.on hb)
        replace HG28 := Lib.hid (HG28.out.on hb)
        replace HB := Lib.hid (belowNext HB.out hb)
        clear hb
        clear HS3
        go_wp2_with fail
        replace HG24 := Lib.hid (HG24.out.on (belowAlloc (Below.refl _ _) (.cells #[.int .i64 s1, .int .i64 s2] 25)))
        replace HG25 := Lib.hid (HG25.out.on (belowAlloc (Below.refl _ _) (.cells #[.int .i64 s1, .int .i64 s2] 25)))
        replace HG26 := Lib.hid (HG26.out.on (belowAlloc (Below.refl _ _) (.cells #[.int .i64 s1, .int .i64 s2] 25)))
        replace HG28 := Lib.hid (HG28.out.on (belowAlloc (Below.refl _ _) (.cells #[.int .i64 s1, .int .i64 s2] 25)))
        have HG30 := Lib.hid (box2 v30 s1 s2 25)
        replace HB := Lib.hid (belowAlloc HB.out (.cells #[.int .i64 s1, .int .i64 s2] 25))
        generalize v30.alloc (.cells #[.int .i64 s1, .int .i64 s2] 25) = u31 at *
        generalize v30.heap.size = G30 at *
        clear HG24 HG25
        refine (HD4.out _ HB.out).mono ?_
        rintro e v31 ⟨⟨a1, a2, b1, b2, rfl⟩, hb⟩
        replace HG26 := Lib.hid (HG26.out.on hb)
        replace HG28 := Lib.hid (HG28.out.on hb)
        replace HG30 := Lib.hid (HG30.out.on hb)
        replace HB := Lib.hid (belowNext HB.out hb)
        clear hb
        clear HD4
        go_wp2_with fail
        replace HG26 := Lib.hid (HG26.out.on (belowAlloc (Below.refl _ _) (.cells #[.int .i64 a1, .int .i64 a2] 25)))
        replace HG28 := Lib.hid (HG28.out.on (belowAlloc (Below.refl _ _) (.cells #[.int .i64 a1, .int .i64 a2] 25)))
        replace HG30 := Lib.hid (HG30.out.on (belowAlloc (Below.refl _ _) (.cells #[.int .i64 a1, .int .i64 a2] 25)))
        have HG32 := Lib.hid (box2 v31 a1 a2 25)
        replace HB := Lib.hid (belowAlloc HB.out (.cells #[.int .i64 a1, .int .i64 a2] 25))
        replace HG26 := Lib.hid (HG26.out.on (belowAlloc (Below.refl _ _) (.cells #[.int .i64 b1, .int .i64 b2] 25)))
        replace HG28 := Lib.hid (HG28.out.on (belowAlloc (Below.refl _ _) (.cells #[.int .i64 b1, .int .i64 b2] 25)))
        replace HG30 := Lib.hid (HG30.out.on (belowAlloc (Below.refl _ _) (.cells #[.int .i64 b1, .int .i64 b2] 25)))
        replace HG32 := Lib.hid (HG32.out.on (belowAlloc (Below.refl _ _) (.cells #[.int .i64 b1, .int .i64 b2] 25)))
        have HG33 := Lib.hid (box2 (v31.alloc (.cells #[.int .i64 a1, .int .i64 a2] 25)) b1 b2 25)
        replace HB := Lib.hid (belowAlloc HB.out (.cells #[.int .i64 b1, .int .i64 b2] 25))
        simp only [World.size_alloc] at HG33
        generalize (v31.alloc (.cells #[.int .i64 a1, .int .i64 a2] 25)).alloc (.cells #[.int .i64 b1, .int .i64 b2] 25) = u32 at *
        generalize v31.heap.size + 1 = G33 at *
        generalize v31.heap.size = G32 at *
        have HS1 := Lib.hid (fun w => implDist a1 a2 b1 b2 w)
        have HS2 := Lib.hid (fun w => specDist a1 a2 b1 b2 w)
        have HS3 := Lib.hid (fun w => implDist b1 b2 a1 a2 w)
        rw [(dis_sym a1 a2 b1 b2).1, (dis_sym a1 a2 b1 b2).2.1, (dis_sym a1 a2 b1 b2).2.2] at HS3
        generalize disN a1 a2 b1 b2 = d1 at *
        generalize disD a1 a2 b1 b2 = d2 at *
        generalize disC a1 a2 b1 b2 = C34 at *
        refine (HS1.out _).mono ?_
        rintro e v32 ⟨rfl, hb⟩
        replace HG26 := Lib.hid (HG26.out.on hb)
        replace HG28 := Lib.hid (HG28.out.on hb)
        replace HG30 := Lib.hid (HG30.out.on hb)
        replace HG32 := Lib.hid (HG32.out.on hb)
        replace HG33 := Lib.hid (HG33.out.on hb)
        replace HB := Lib.hid (belowNext HB.out hb)
        clear hb
        clear HS1
        obtain ⟨fG320, fG321, fG322⟩ := id HG32.out
        obtain ⟨fG330, fG331, fG332⟩ := id HG33.out
        go_wp2_with fail
        clear fG320 fG321 fG322 fG330 fG331 fG332
        replace HG26 := Lib.hid (HG26.out.on (belowAlloc (Below.refl _ _) (.cells #[.int .i64 d1, .int .i64 d2] 25)))
        replace HG28 := Lib.hid (HG28.out.on (belowAlloc (Below.refl _ _) (.cells #[.int .i64 d1, .int .i64 d2] 25)))
        replace HG30 := Lib.hid (HG30.out.on (belowAlloc (Below.refl _ _) (.cells #[.int .i64 d1, .int .i64 d2] 25)))
        replace HG32 := Lib.hid (HG32.out.on (belowAlloc (Below.refl _ _) (.cells #[.int .i64 d1, .int .i64 d2] 25)))
        replace HG33 := Lib.hid (HG33.out.on (belowAlloc (Below.refl _ _) (.cells #[.int .i64 d1, .int .i64 d2] 25)))
        have HG34 := Lib.hid (box2 v32 d1 d2 25)
        replace HB := Lib.hid (belowAlloc HB.out (.cells #[.int .i64 d1, .int .i64 d2] 25))
        generalize v32.alloc (.cells #[.int .i64 d1, .int .i64 d2] 25) = u33 at *
        generalize v32.heap.size = G34 at *
        refine (HS2.out _).mono ?_
        rintro e v33 ⟨rfl, hb⟩
        replace HG26 := Lib.hid (HG26.out.on hb)
        replace HG28 := Lib.hid (HG28.out.on hb)
        replace HG30 := Lib.hid (HG30.out.on hb)
        replace HG32 := Lib.hid (HG32.out.on hb)
        replace HG33 := Lib.hid (HG33.out.on hb)
        replace HG34 := Lib.hid (HG34.out.on hb)
        replace HB := Lib.hid (belowNext HB.out hb)
        clear hb
        clear HS2
        obtain ⟨fG320, fG321, fG322⟩ := id HG32.out
        obtain ⟨fG330, fG331, fG332⟩ := id HG33.out
        go_wp2_with fail
        clear fG320 fG321 fG322 fG330 fG331 fG332
        replace HG26 := Lib.hid (HG26.out.on (belowAlloc (Below.refl _ _) (.cells #[.int .i64 d1, .int .i64 d2] 25)))
        replace HG28 := Lib.hid (HG28.out.on (belowAlloc (Below.refl _ _) (.cells #[.int .i64 d1, .int .i64 d2] 25)))
        replace HG30 := Lib.hid (HG30.out.on (belowAlloc (Below.refl _ _) (.cells #[.int .i64 d1, .int .i64 d2] 25)))
        replace HG32 := Lib.hid (HG32.out.on (belowAlloc (Below.refl _ _) (.cells #[.int .i64 d1, .int .i64 d2] 25)))
        replace HG33 := Lib.hid (HG33.out.on (belowAlloc (Below.refl _ _) (.cells #[.int .i64 d1, .int .i64 d2] 25)))
        replace HG34 := Lib.hid (HG34.out.on (belowAlloc (Below.refl _ _) (.cells #[.int .i64 d1, .int .i64 d2] 25)))
        have HG36 := Lib.hid (box2 v33 d1 d2 25)
        replace HB := Lib.hid (belowAlloc HB.out (.cells #[.int .i64 d1, .int .i64 d2] 25))
        generalize v33.alloc (.cells #[.int .i64 d1, .int .i64 d2] 25) = u34 at *
        generalize v33.heap.size = G36 at *
        refine (HS3.out _).mono ?_
        rintro e v34 ⟨rfl, hb⟩
        replace HG26 := Lib.hid (HG26.out.on hb)
        replace HG28 := Lib.hid (HG28.out.on hb)
        replace HG30 := Lib.hid (HG30.out.on hb)
        replace HG32 := Lib.hid (HG32.out.on hb)
        replace HG33 := Lib.hid (HG33.out.on hb)
        replace HG34 := Lib.hid (HG34.out.on hb)
        replace HG36 := Lib.hid (HG36.out.on hb)
        replace HB := Lib.hid (belowNext HB.out hb)
        clear hb
        clear HS3
        go_wp2_with fail
        replace HG26 := Lib.hid (HG26.out.on (belowAlloc (Below.refl _ _) (.cells #[.int .i64 d1, .int .i64 d2] 25)))
        replace HG28 := Lib.hid (HG28.out.on (belowAlloc (Below.refl _ _) (.cells #[.int .i64 d1, .int .i64 d2] 25)))
        replace HG30 := Lib.hid (HG30.out.on (belowAlloc (Below.refl _ _) (.cells #[.int .i64 d1, .int .i64 d2] 25)))
        replace HG32 := Lib.hid (HG32.out.on (belowAlloc (Below.refl _ _) (.cells #[.int .i64 d1, .int .i64 d2] 25)))
        replace HG33 := Lib.hid (HG33.out.on (belowAlloc (Below.refl _ _) (.cells #[.int .i64 d1, .int .i64 d2] 25)))
        replace HG34 := Lib.hid (HG34.out.on (belowAlloc (Below.refl _ _) (.cells #[.int .i64 d1, .int .i64 d2] 25)))
        replace HG36 := Lib.hid (HG36.out.on (belowAlloc (Below.refl _ _) (.cells #[.int .i64 d1, .int .i64 d2] 25)))
        have HG38 := Lib.hid (box2 v34 d1 d2 25)
        replace HB := Lib.hid (belowAlloc HB.out (.cells #[.int .i64 d1, .int .i64 d2] 25))
        generalize v34.alloc (.cells #[.int .i64 d1, .int .i64 d2] 25) = u35 at *
        generalize v34.heap.size = G38 at *
        clear HG32 HG33
        refine (HD5.out _ HB.out).mono ?_
        rintro e v35 ⟨⟨p1, p2, rfl⟩, hb⟩
        replace HG26 := Lib.hid (HG26.out.on hb)
        replace HG28 := Lib.hid (HG28.out.on hb)
        replace HG30 := Lib.hid (HG30.out.on hb)
        replace HG34 := Lib.hid (HG34.out.on hb)
        replace HG36 := Lib.hid (HG36.out.on hb)
        replace HG38 := Lib.hid (HG38.out.on hb)
        replace HB := Lib.hid (belowNext HB.out hb)
        clear hb
        clear HD5
        have HS1 := Lib.hid (fun w => implOf p1 p2 w)
        have HS2 := Lib.hid (fun w => specOf p1 p2 w)
        generalize ofN p1 p2 = o1 at *
        generalize ofD p1 p2 = o2 at *
        generalize ofC p1 p2 = C42 at *
        go_wp2_with fail
        refine (HS1.out _).mono ?_
        rintro e v36 ⟨rfl, hb⟩
        replace HG26 := Lib.hid (HG26.out.on hb)
        replace HG28 := Lib.hid (HG28.out.on hb)
        replace HG30 := Lib.hid (HG30.out.on hb)
        replace HG34 := Lib.hid (HG34.out.on hb)
        replace HG36 := Lib.hid (HG36.out.on hb)
        replace HG38 := Lib.hid (HG38.out.on hb)
        replace HB := Lib.hid (belowNext HB.out hb)
        clear hb
        clear HS1
        go_wp2_with fail
        replace HG26 := Lib.hid (HG26.out.on (belowAlloc (Below.refl _ _) (.cells #[.int .i64 o1, .int .i64 o2] 25)))
        replace HG28 := Lib.hid (HG28.out.on (belowAlloc (Below.refl _ _) (.cells #[.int .i64 o1, .int .i64 o2] 25)))
        replace HG30 := Lib.hid (HG30.out.on (belowAlloc (Below.refl _ _) (.cells #[.int .i64 o1, .int .i64 o2] 25)))
        replace HG34 := Lib.hid (HG34.out.on (belowAlloc (Below.refl _ _) (.cells #[.int .i64 o1, .int .i64 o2] 25)))
        replace HG36 := Lib.hid (HG36.out.on (belowAlloc (Below.refl _ _) (.cells #[.int .i64 o1, .int .i64 o2] 25)))
        replace HG38 := Lib.hid (HG38.out.on (belowAlloc (Below.refl _ _) (.cells #[.int .i64 o1, .int .i64 o2] 25)))
        have HG42 := Lib.hid (box2 v36 o1 o2 25)
        replace HB := Lib.hid (belowAlloc HB.out (.cells #[.int .i64 o1, .int .i64 o2] 25))
        generalize v36.alloc (.cells #[.int .i64 o1, .int .i64 o2] 25) = u37 at *
        generalize v36.heap.size = G42 at *
        refine (HS2.out _).mono ?_
        rintro e v37 ⟨rfl, hb⟩
        replace HG26 := Lib.hid (HG26.out.on hb)
        replace HG28 := Lib.hid (HG28.out.on hb)
        replace HG30 := Lib.hid (HG30.out.on hb)
        replace HG34 := Lib.hid (HG34.out.on hb)
        replace HG36 := Lib.hid (HG36.out.on hb)
        replace HG38 := Lib.hid (HG38.out.on hb)
        replace HG42 := Lib.hid (HG42.out.on hb)
        replace HB := Lib.hid (belowNext HB.out hb)
        clear hb
        clear HS2
        have E1 := fun W => eqlAngSame s1 s2 W
        have E2 := fun W => eqlAngSame d1 d2 W
        have E3 := fun W => eqlAngSame o1 o2 W
        obtain ⟨fG260, fG261, fG262⟩ := id HG26.out
        obtain ⟨fG280, fG281, fG282⟩ := id HG28.out
        obtain ⟨fG300, fG301, fG302⟩ := id HG30.out
        obtain ⟨fG340, fG341, fG342⟩ := id HG34.out
        obtain ⟨fG360, fG361, fG362⟩ := id HG36.out
        obtain ⟨fG380, fG381, fG382⟩ := id HG38.out
        obtain ⟨fG420, fG421, fG422⟩ := id HG42.out
        have hB := HB.out
        go_wp2
        go_ret
        refine ⟨rfl, ?_⟩
        (repeat' (first | (with_reducible exact Below.refl _ _) | (with_reducible assumption) | (with_reducible refine belowNext ?_ (by with_reducible assumption)) | (with_reducible refine belowAlloc ?_ _) | (with_reducible refine Below.drew ?_) | (with_reducible refine below_drewN ?_ _) | (with_reducible refine Below.setCell ?_ ?_ _) | go_size | (with_reducible refine sizeOf' ?_) | (with_reducible refine sizeAdd ?_) | (dsimp only; first | (with_reducible refine sizeOf' ?_) | (with_reducible refine sizeAdd ?_))))
end Go.Proofs.Ytnciiodgkanpjaa

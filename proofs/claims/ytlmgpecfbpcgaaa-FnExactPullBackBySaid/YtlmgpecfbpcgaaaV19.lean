/-
  Contracts: ImagesOfLeaf on both sides.
-/
import Derived.Test.YtlmgpecfbpcgaaaV18
namespace Go.Proofs.Ytlmgpecfbpcgaaa
open Go.RowKit

theorem imgs_no {x : Lf4} (h : isLfX x = false) : imgsL x = [] ∧ imgsC x = 1 := by unfold imgsL imgsC; simp [h]
theorem imgs_some {x : Lf4} {r : List Lf4} (h : isLfX x = true) (e : imF 64 x [] = some r) : imgsL x = r ∧ imgsC x = 0 := by unfold imgsL imgsC; simp [h, e]
theorem imgs_none {x : Lf4} (h : isLfX x = true) (e : imF 64 x [] = none) : imgsL x = [] ∧ imgsC x = 3 := by unfold imgsL imgsC; simp [h, e]

/-- What holds when the program has gathered leaves; cur is the last one of them. -/
def ImSi (w : World) (x0 cur : Lf4) (acc : List Lf4) (v : Value) (g : Nat) (wr : World) : Prop :=
  1 ≤ acc.length ∧ acc.length ≤ 64 ∧ wr.ownsRow w.heap.size 34 4 v acc.length (flat4 acc) ∧ Cells4 wr g 0 cur.1 cur.2.1 cur.2.2.1 cur.2.2.2 ∧ Free4 wr g 0 ∧ v.ownBlock ≠ some g ∧ w.heap.size ≤ g ∧ g < wr.heap.size ∧ Below w.heap.size w wr ∧ RedX cur ∧
    (if diaX cur then some acc else imF (64 - acc.length) (imL cur) acc) = imF 64 x0 []
/-- What the program's images answer. -/
def ResIi (w : World) (x : Lf4) (e : Ending) (w' : World) : Prop :=
  match imF 64 x [] with
  | some r => ∃ A cap, e = .returned (.tuple #[.slice A r.length cap, .int .i64 0]) ∧ LfOwn w' w.heap.size A r ∧ r.length ≤ cap ∧ Below w.heap.size w w'
  | none => e = .returned (.tuple #[.slice none 0 0, .int .i64 3]) ∧ Below w.heap.size w w'

theorem row_cap {w : World} {lo k cap : Nat} {A : Option Addr} {T : TypeId} {xs : List Value} (h : w.ownsRow lo T 4 (.slice A k cap) k xs) : k ≤ cap := by
  rcases h.2 with ⟨hv, hn⟩ | ⟨g, cap', cur, hv, _, _, hle, _⟩
  · omega
  · injection hv with _ _ hc
    omega
theorem imF_start (x : Lf4) : imF 64 x [] = if diaX x then some [x] else imF 63 (imL x) [x] := by
  have h : hasX [] x = false := rfl
  cases hd : diaX x
  · exact imF_step h hd
  · exact imF_dia h hd

set_option maxRecDepth 100000 in
set_option maxHeartbeats 2000000 in
theorem implImgs1 (a b c d : Int) (w : World) (h : isLf a b c d = true) : Calls Try.prog 103 #[leafV a b c d] w (ResIi w (a, b, c, d)) := by
  obtain ⟨i0, hi, hz0, hz1, hz2⟩ := info_parts infoL
  have HRed := Lib.hid (redX_of (x := (a, b, c, d)) h)
  have H1 := Lib.hid (fun w => implLf a b c d w)
  rw [h] at H1
  clear h
  go_enter Try.func103, Try.ntmps103
  go_wp2_with fail
  refine (H1.out _).mono ?_
  rintro e w1 ⟨rfl, hb1⟩
  obtain ⟨hc1, hf1⟩ := bcell hb1
  have hz1_0 : w.heap.size < w1.heap.size := by have := hb1.size; first | omega | (simp at this; omega)
  have B1 : Below w.heap.size w w1 := by
    (repeat' (first | (with_reducible exact Below.refl _ _) | (with_reducible assumption) | (with_reducible refine belowNext ?_ (by with_reducible assumption)) | (with_reducible refine belowAlloc ?_ _) | (with_reducible refine Below.drew ?_) | (with_reducible refine below_drewN ?_ _) | (with_reducible refine Below.setCell ?_ ?_ _) | go_size | (with_reducible refine sizeOf' ?_) | (with_reducible refine sizeAdd ?_) | (dsimp only; first | (with_reducible refine sizeOf' ?_) | (with_reducible refine sizeAdd ?_))))
  go_wp2
  have hst : ImSi w (a, b, c, d) (a, b, c, d) [(a, b, c, d)] (.slice (some ⟨w1.heap.size, 0, none⟩) 1 1) (w1.heap.size + 1) ((w1.alloc (.cells #[.int .i64 a, .int .i64 b, .int .i64 c, .int .i64 d] 34)).alloc (.cells #[.int .i64 a, .int .i64 b, .int .i64 c, .int .i64 d] 34)) := by
    refine ⟨by simp, by simp, ⟨rfl, .inr ⟨w1.heap.size, 1, #[.int .i64 a, .int .i64 b, .int .i64 c, .int .i64 d], rfl, B1.size, ?_, by simp, by unfold maxLen; omega, rfl, rfl⟩⟩, ⟨by simp [go_sem], by simp [go_sem], by simp [go_sem], by simp [go_sem]⟩, ⟨by simp [go_sem], by simp [go_sem], by simp [go_sem], by simp [go_sem]⟩, by simp [Value.ownBlock], by omega, by simp, ?_, HRed.out, (imF_start _).symm⟩
    · have e := heap_alloc_new w1 (.cells #[.int .i64 a, .int .i64 b, .int .i64 c, .int .i64 d] 34)
      exact (Below.heap_alloc _ _ _ (by simp)).trans e
    · (repeat' (first | (with_reducible exact Below.refl _ _) | (with_reducible assumption) | (with_reducible refine belowNext ?_ (by with_reducible assumption)) | (with_reducible refine belowAlloc ?_ _) | (with_reducible refine Below.drew ?_) | (with_reducible refine below_drewN ?_ _) | (with_reducible refine Below.setCell ?_ ?_ _) | go_size | (with_reducible refine sizeOf' ?_) | (with_reducible refine sizeAdd ?_) | (dsimp only; first | (with_reducible refine sizeOf' ?_) | (with_reducible refine sizeAdd ?_))))
  have HS := Lib.hid hst
  clear hst hc1 hf1 hz1_0 hb1 B1 HRed
  go_loopw [4, 5] (fun v p wr => ∃ (acc : List Lf4) (cur : Lf4) (A : Option Addr) (cap g : Nat), v = .slice A acc.length cap ∧ p = .pointer (some ⟨g, 0, none⟩) ∧ Hid (ImSi w (a, b, c, d) cur acc v g wr)) (fun v _ _ => 65 - lenV v)
  case atStart => exact ⟨[(a, b, c, d)], _, _, _, _, rfl, rfl, HS⟩
  case round =>
    obtain ⟨acc, ⟨n, d', m, c'⟩, A, cap, g, rfl, rfl, H⟩ := hrel
    obtain ⟨hk0, hk, hown, ⟨x0, x1, x2, x3⟩, ⟨z0, z1, z2, z3⟩, hne, hlo, hg, hB, hR, hF⟩ := H.out
    have HF := Lib.hid hF
    have HR := Lib.hid hR
    clear hF hR H HS
    generalize hlen : acc.length = k at *
    have HL := Lib.hid hlen
    obtain ⟨gb, cb, hA, _, hgb⟩ := hown.form (show 0 < k by omega)
    obtain ⟨rfl, rfl⟩ : A = some ⟨gb, 0, none⟩ ∧ cap = cb := by injection hA with hA hn hc; exact ⟨hA, hc⟩
    clear hA
    dsimp only at x0 x1 x2 x3
    have HD := Lib.hid (fun w => implDia n d' m c' w (okOf HR.out.1) (okOf HR.out.2))
    have HI := Lib.hid (fun w => implImage n d' m c' w HR.out.1 HR.out.2)
    have HR2 := Lib.hid (imL_red HR.out)
    cases hd : diaB n d' m c'
    · have HF2 : Hid (imF (64 - k) (imL (n, d', m, c')) acc = imF 64 (a, b, c, d) []) := Lib.hid (by
        have := HF.out
        rw [show diaX (n, d', m, c') = false from hd] at this
        exact this)
      rw [hd] at HD
      clear hd HF HR
      go_wp2_with fail
      refine (HD.out _).mono ?_
      rintro e w2 ⟨rfl, hb2⟩
      obtain ⟨hc2, hf2⟩ := bcell hb2
      have hg2 : g < w2.heap.size := Nat.lt_of_lt_of_le hg hb2.size
      go_wp2_with fail
      refine (HI.out _).mono ?_
      rintro e w3 ⟨rfl, hb3⟩
      obtain ⟨hc3, hf3⟩ := bcell hb3
      have hg3 : g < w3.heap.size := Nat.lt_of_lt_of_le hg2 hb3.size
      have y0 := cellThru hb3 hg2 (cellThru hb2 hg x0)
      have y1 := cellThru hb3 hg2 (cellThru hb2 hg x1)
      have y2 := cellThru hb3 hg2 (cellThru hb2 hg x2)
      have y3 := cellThru hb3 hg2 (cellThru hb2 hg x3)
      have u0' := frozThru hb3 hg2 (frozThru hb2 hg z0)
      have u1' := frozThru hb3 hg2 (frozThru hb2 hg z1)
      have u2' := frozThru hb3 hg2 (frozThru hb2 hg z2)
      have u3' := frozThru hb3 hg2 (frozThru hb2 hg z3)
      have B3 : Below w.heap.size w w3 := belowNext (belowNext hB hb2) hb3
      have HO3 : Hid (w3.ownsRow w.heap.size 34 4 (.slice (some ⟨gb, 0, none⟩) k cap) k (flat4 acc)) := Lib.hid (
        (hown.kept (row := none) ⟨hb2.os, hb2.tape, hb2.output, hb2.size, fun i hi _ => hb2.block i hi⟩ (.inr (by simp [Value.ownBlock]))).kept (row := none) ⟨hb3.os, hb3.tape, hb3.output, hb3.size, fun i hi _ => hb3.block i hi⟩ (.inr (by simp [Value.ownBlock])))
      have HE : Hid (imL (n, d', m, c') = (imA n d' m c', imB n d' m c', imC n d' m c', imD n d' m c')) := Lib.hid rfl
      generalize imA n d' m c' = p1 at *
      generalize imB n d' m c' = p2 at *
      generalize imC n d' m c' = p3 at *
      generalize imD n d' m c' = p4 at *
      rw [HE.out] at HF2 HR2
      clear hc2 hf2 hc3 hf3 hb2 hb3 hown x0 x1 x2 x3 z0 z1 z2 z3 hB
      go_wp2_with fail
      generalize hw4 : ((((w3.setCell ⟨g, 0, none⟩ (.int .i64 p1)).setCell ⟨g, 1, none⟩ (.int .i64 p2)).setCell ⟨g, 2, none⟩ (.int .i64 p3)).setCell ⟨g, 3, none⟩ (.int .i64 p4)) = w4
      have hw4' : set4 w3 g 0 (.int .i64 p1) (.int .i64 p2) (.int .i64 p3) (.int .i64 p4) = w4 := hw4
      clear hw4
      have hs4 : w3.heap.size = w4.heap.size := by rw [← hw4']; simp [set4]
      have hg4 : g < w4.heap.size := by omega
      obtain ⟨t0, t1, t2, t3⟩ := set4_got (x0 := .int .i64 p1) (x1 := .int .i64 p2) (x2 := .int .i64 p3) (x3 := .int .i64 p4) y0 y1 y2 y3
      rw [hw4'] at t0 t1 t2 t3
      have B4 : Below w.heap.size w w4 := by rw [← hw4']; exact (((B3.setCell hlo _).setCell hlo _).setCell hlo _).setCell hlo _
      have HO4 : Hid (w4.ownsRow w.heap.size 34 4 (.slice (some ⟨gb, 0, none⟩) k cap) k (flat4 acc)) := Lib.hid (by
        rw [← hw4']
        exact ownsRow_setCell_other (ownsRow_setCell_other (ownsRow_setCell_other (ownsRow_setCell_other HO3.out hne _) hne _) hne _) hne _)
      have HH := Lib.hid (fun W (hB : Below w4.heap.size w4 W) => hasLf (some ⟨gb, 0, none⟩) k cap acc p1 p2 p3 p4 W (((lfOwn_of_row HL.out HO4.out).row.below hB).more hB.size) HL.out (by omega))
      clear hw4' u0' u1' u2' u3' y0 y1 y2 y3 B3 HO3 hg2 hg3 HI HD
      cases hq : hasL acc p1 p2 p3 p4
      · rw [hq] at HH
        have HX : Hid (hasX acc (p1, p2, p3, p4) = false) := Lib.hid hq
        clear hq
        go_wp2_with fail
        refine (HH.out _ (by exact Below.refl _ _)).mono ?_
        rintro e w5 ⟨rfl, hb5⟩
        obtain ⟨hc5, hf5⟩ := bcell hb5
        have hg5 : g < w5.heap.size := Nat.lt_of_lt_of_le hg4 hb5.size
        have B5 : Below w.heap.size w w5 := belowNext B4 hb5
        have HO5 : Hid (w5.ownsRow w.heap.size 34 4 (.slice (some ⟨gb, 0, none⟩) k cap) k (flat4 acc)) := Lib.hid (
          HO4.out.kept (row := none) ⟨hb5.os, hb5.tape, hb5.output, hb5.size, fun i hi _ => hb5.block i hi⟩ (.inr (by simp [Value.ownBlock])))
        have r0 := cellThru hb5 hg4 t0
        have r1 := cellThru hb5 hg4 t1
        have r2 := cellThru hb5 hg4 t2
        have r3 := cellThru hb5 hg4 t3
        clear hc5 hf5 hb5 t0 t1 t2 t3 B4 HO4 HH hs4 hg4
        by_cases h64 : k = 64
        · subst h64
          have HN : Hid (imF 64 (a, b, c, d) [] = none) := Lib.hid (by rw [← HF2.out]; exact imF_end HX.out)
          clear HO5
          go_wp2
          refine bodyPost_ret (v := .tuple #[.slice none 0 0, .int .i64 3]) (by simp [results, Try.results103, go_sem]) rfl ?_
          show ResIi _ _ _ _
          unfold ResIi
          rw [HN.out]
          refine ⟨rfl, ?_⟩
          (repeat' (first | (with_reducible exact Below.refl _ _) | (with_reducible assumption) | (with_reducible refine belowNext ?_ (by with_reducible assumption)) | (with_reducible refine belowAlloc ?_ _) | (with_reducible refine Below.drew ?_) | (with_reducible refine below_drewN ?_ _) | (with_reducible refine Below.setCell ?_ ?_ _) | go_size | (with_reducible refine sizeOf' ?_) | (with_reducible refine sizeAdd ?_) | (dsimp only; first | (with_reducible refine sizeOf' ?_) | (with_reducible refine sizeAdd ?_))))
        · have hk64 : k < 64 := by omega
          have hk64' : ((k : Int) == 64) = false := by simp; omega
          obtain ⟨f, hf⟩ : ∃ f, 64 - k = f + 1 := ⟨63 - k, by omega⟩
          have hf2 : 64 - (k + 1) = f := by omega
          rw [hf] at HF2
          clear h64 hf
          have hown := HO5.out
          go_wp2_with (at_builtin; refine wpList_append_own _ rfl _ _ 41 rfl w.heap.size 34 i0 (.agg #[.int .i64 0, .int .i64 0, .int .i64 0, .int .i64 0]) 4 32 Try.underlying41 hi hz0 hz1 hz2 rfl (by decide) _ _ _ rfl (World.ownsRow.alloc (w := w5) hown _) ⟨w5.heap.size, 0, none⟩ 1 1 [.int .i64 p1, .int .i64 p2, .int .i64 p3, .int .i64 p4] rfl rfl ?c1 ?c2 ?c3 ?c4 ?c5 ?_)
          case c1 => exact cell_four_new _ _ _ _ _ _
          case c2 => intro u hu; simp at hu; rcases hu with rfl | rfl | rfl | rfl <;> rfl
          case c3 => unfold maxLen; omega
          case c4 => omega
          case c5 => have := B5.size; simp; omega
          intro v' w6 hown' hgrow _
          obtain ⟨gn, capn, rfl⟩ := ownsRow_succ hown'
          have hz6 := hgrow.size
          simp at hz6
          obtain ⟨gn', capn', hvn, hgl, hgn⟩ := hown'.form (by omega)
          obtain rfl : gn = gn' := by injection hvn with hvn; injection hvn with hvn; injection hvn
          clear hvn
          have hg6 : g < w6.heap.size := by omega
          have cf : ∀ o v, w5.cell? ⟨g, o, none⟩ = some v → w6.cell? ⟨g, o, none⟩ = some v := fun o v hv =>
            (hgrow.cell_far ⟨g, o, none⟩ (by simp; omega) (fun e => hne e.symm)).trans ((World.cell?_alloc_lt w5 _ _ hg5).trans hv)
          have m0 := cf 0 _ r0
          have m1 := cf 1 _ r1
          have m2 := cf 2 _ r2
          have m3 := cf 3 _ r3
          have B6 : Below w.heap.size w w6 := by
            have hb0 : Below w.heap.size w (w5.alloc (.cells #[.int .i64 p1, .int .i64 p2, .int .i64 p3, .int .i64 p4] 34)) := belowAlloc B5 _
            refine hb0.grown hgrow hb0.size (fun r e => ?_)
            rcases hown.2 with ⟨hv, _⟩ | ⟨g0, c0, cur, hv, hv2, _⟩
            · rw [hv] at e; simp [Value.ownBlock] at e
            · rw [hv] at e; simp [Value.ownBlock] at e; omega
          rw [← flat4_app] at hown'
          have HO6 := Lib.hid hown'
          have HL2 : Hid ((acc ++ [((p1, p2, p3, p4) : Lf4)]).length = k + 1) := Lib.hid (by rw [List.length_append, HL.out]; rfl)
          have HF3 : Hid ((if diaX (p1, p2, p3, p4) then some (acc ++ [(p1, p2, p3, p4)]) else imF f (imL (p1, p2, p3, p4)) (acc ++ [(p1, p2, p3, p4)])) = imF 64 (a, b, c, d) []) := Lib.hid (by
            rw [← HF2.out]
            cases hd : diaX (p1, p2, p3, p4)
            · rw [imF_step HX.out hd]; rfl
            · rw [imF_dia HX.out hd]; rfl)
          have hgs : gn < w6.heap.size := hgn
          clear hown' hgrow hown r0 r1 r2 r3 cf HF2 HX hgl hgn B5 HO5 hg5
          go_wp2
          go_roundw
          case rel =>
            refine ⟨acc ++ [(p1, p2, p3, p4)], (p1, p2, p3, p4), _, _, _, by rw [HL2.out], rfl, Lib.hid ⟨by rw [HL2.out]; omega, by rw [HL2.out]; omega, ?_, ⟨by simp [go_sem], by simp [go_sem], by simp [go_sem], by simp [go_sem]⟩, ⟨by simp [go_sem], by simp [go_sem], by simp [go_sem], by simp [go_sem]⟩, ?_, ?_, by simp, ?_, HR2.out, ?_⟩⟩
            · rw [HL2.out]
              exact HO6.out.alloc _
            · simp [Value.ownBlock]; omega
            · exact B6.size
            · (repeat' (first | (with_reducible exact Below.refl _ _) | (with_reducible assumption) | (with_reducible refine belowNext ?_ (by with_reducible assumption)) | (with_reducible refine belowAlloc ?_ _) | (with_reducible refine Below.drew ?_) | (with_reducible refine below_drewN ?_ _) | (with_reducible refine Below.setCell ?_ ?_ _) | go_size | (with_reducible refine sizeOf' ?_) | (with_reducible refine sizeAdd ?_) | (dsimp only; first | (with_reducible refine sizeOf' ?_) | (with_reducible refine sizeAdd ?_))))
            · rw [HL2.out, hf2]; exact HF3.out
          case measure => simp [lenV]; omega
      · have HN : Hid (imF 64 (a, b, c, d) [] = some acc) := Lib.hid (by rw [← HF2.out]; exact imF_has (show hasX acc (p1, p2, p3, p4) = true from hq))
        rw [hq] at HH
        have HK := Lib.hid (row_cap HO4.out)
        have HO := Lib.hid (lfOwn_of_row HL.out HO4.out)
        clear hq HO4
        go_wp2_with fail
        refine (HH.out _ (by exact Below.refl _ _)).mono ?_
        rintro e w5 ⟨rfl, hb5⟩
        go_wp2
        refine bodyPost_ret (v := .tuple #[.slice (some ⟨gb, 0, none⟩) k cap, .int .i64 0]) (by simp [results, Try.results103, go_sem]) rfl ?_
        show ResIi _ _ _ _
        unfold ResIi
        rw [HN.out]
        refine ⟨_, _, by rw [HL.out], HO.out.next hb5, by rw [HL.out]; exact HK.out, ?_⟩
        (repeat' (first | (with_reducible exact Below.refl _ _) | (with_reducible assumption) | (with_reducible refine belowNext ?_ (by with_reducible assumption)) | (with_reducible refine belowAlloc ?_ _) | (with_reducible refine Below.drew ?_) | (with_reducible refine below_drewN ?_ _) | (with_reducible refine Below.setCell ?_ ?_ _) | go_size | (with_reducible refine sizeOf' ?_) | (with_reducible refine sizeAdd ?_) | (dsimp only; first | (with_reducible refine sizeOf' ?_) | (with_reducible refine sizeAdd ?_))))
    · have HN : Hid (imF 64 (a, b, c, d) [] = some acc) := Lib.hid (by
        have := HF.out
        rw [show diaX (n, d', m, c') = true from hd] at this
        exact this.symm)
      rw [hd] at HD
      clear hd HF HR
      have HK := Lib.hid (row_cap hown)
      have HO := Lib.hid (lfOwn_of_row HL.out hown)
      clear hown
      go_wp2_with fail
      refine (HD.out _).mono ?_
      rintro e w2 ⟨rfl, hb2⟩
      go_wp2
      refine bodyPost_ret (v := .tuple #[.slice (some ⟨gb, 0, none⟩) k cap, .int .i64 0]) (by simp [results, Try.results103, go_sem]) rfl ?_
      show ResIi _ _ _ _
      unfold ResIi
      rw [HN.out]
      refine ⟨_, _, by rw [HL.out], HO.out.next hb2, by rw [HL.out]; exact HK.out, ?_⟩
      (repeat' (first | (with_reducible exact Below.refl _ _) | (with_reducible assumption) | (with_reducible refine belowNext ?_ (by with_reducible assumption)) | (with_reducible refine belowAlloc ?_ _) | (with_reducible refine Below.drew ?_) | (with_reducible refine below_drewN ?_ _) | (with_reducible refine Below.setCell ?_ ?_ _) | go_size | (with_reducible refine sizeOf' ?_) | (with_reducible refine sizeAdd ?_) | (dsimp only; first | (with_reducible refine sizeOf' ?_) | (with_reducible refine sizeAdd ?_))))
end Go.Proofs.Ytlmgpecfbpcgaaa

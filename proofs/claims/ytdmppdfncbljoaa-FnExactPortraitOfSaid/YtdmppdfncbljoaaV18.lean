/-
  Contracts: images of images on the model's side.
-/
import Derived.Test.YtdmppdfncbljoaaV17
import Derived.Test.YtdmppdfncbljoaaV11
namespace Go.Proofs.Ytdmppdfncbljoaa
open Go.RowKit

theorem imF_has : ∀ {f : Nat} {x : Lf4} {acc : List Lf4}, hasX acc x = true → imF f x acc = some acc
  | 0, x, acc, h => by simp [imF, h]
  | f + 1, x, acc, h => by simp [imF, h]
theorem imF_end {x : Lf4} {acc : List Lf4} (h : hasX acc x = false) : imF 0 x acc = none := by simp [imF, h]
theorem imF_dia {f : Nat} {x : Lf4} {acc : List Lf4} (h : hasX acc x = false) (hd : diaX x = true) : imF (f + 1) x acc = some (acc ++ [x]) := by simp [imF, h, hd]
theorem imF_step {f : Nat} {x : Lf4} {acc : List Lf4} (h : hasX acc x = false) (hd : diaX x = false) : imF (f + 1) x acc = imF f (imL x) (acc ++ [x]) := by simp [imF, h, hd]
def lenV : Value → Nat
  | .slice _ n _ => n
  | _ => 0
/-- What holds when leaves have been gathered; g: the box of the leaf at hand. -/
def ImSt (w : World) (b0 : Nat) (x0 cur : Lf4) (acc : List Lf4) (v : Value) (g : Nat) (wr : World) : Prop :=
  acc.length ≤ 64 ∧ wr.ownsRow b0 31 4 v acc.length (flat4 acc) ∧ Cells4 wr g 0 cur.1 cur.2.1 cur.2.2.1 cur.2.2.2 ∧ Free4 wr g 0 ∧ v.ownBlock ≠ some g ∧ w.heap.size ≤ g ∧ g < wr.heap.size ∧ Below w.heap.size w wr ∧ RedX cur ∧
    imF (64 - acc.length) cur acc = imF 64 x0 []
/-- What the model's images answer. -/
def ResIm (w : World) (x : Lf4) (e : Ending) (w' : World) : Prop :=
  match imF 64 x [] with
  | some r => ∃ A cap, e = .returned (.tuple #[.slice A r.length cap, .bool true]) ∧ LfOwn w' w.heap.size A r ∧ Below w.heap.size w w'
  | none => e = .returned (.tuple #[.slice none 0 0, .bool false]) ∧ Below w.heap.size w w'
theorem infoL : (Try.prog.info? 31).map (fun i => (i.zero, i.size, i.bytes)) = some (some (.agg #[.int .i64 0, .int .i64 0, .int .i64 0, .int .i64 0]), 4, 32) := by kernel_rfl
theorem cell_four_new (w : World) (a b c d : Value) (t : TypeId) : ∀ j u, [a, b, c, d][j]? = some u → (w.alloc (.cells #[a, b, c, d] t)).cell? ((⟨w.heap.size, 0, none⟩ : Addr).add j) = some u := by
  intro j u hj
  match j, hj with
  | 0, hj => simp at hj; subst hj; simp [Addr.add]
  | 1, hj => simp at hj; subst hj; simp [Addr.add]
  | 2, hj => simp at hj; subst hj; simp [Addr.add]
  | 3, hj => simp at hj; subst hj; simp [Addr.add]
theorem LfOwn.lo {w : World} {lo lo' : Nat} {A : Option Addr} {l : List Lf4} (h : LfOwn w lo A l) (hl : lo' ≤ lo) : LfOwn w lo' A l := by
  intro hn
  obtain ⟨b, off, e, h1, h2, hc⟩ := h hn
  exact ⟨b, off, e, Nat.le_trans hl h1, h2, hc⟩
theorem lf_at {l : List Lf4} {k : Nat} (h : k < l.length) : ∃ a b e f, l[k]? = some (a, b, e, f) := ⟨l[k].1, l[k].2.1, l[k].2.2.1, l[k].2.2.2, by rw [List.getElem?_eq_getElem h]⟩
theorem row_cells {w : World} {lo k : Nat} {A : Option Addr} {cap i : Nat} {l : List Lf4} {n d m c : Int} (hk : l.length = k) (h : w.ownsRow lo 31 4 (.slice A k cap) k (flat4 l)) (hi : l[i]? = some (n, d, m, c)) :
    ∃ g, A = some ⟨g, 0, none⟩ ∧ g < w.heap.size ∧ Cells4 w g (i * 4) n d m c := by
  have hik : i < l.length := by
    rcases Nat.lt_or_ge i l.length with h1 | h1
    · exact h1
    · rw [List.getElem?_eq_none h1] at hi; cases hi
  obtain ⟨g, c', hv, hlo, hg⟩ := h.form (show 0 < k by omega)
  obtain ⟨rfl, rfl⟩ : A = some ⟨g, 0, none⟩ ∧ cap = c' := by injection hv with hA hn hc; exact ⟨hA, hc⟩
  obtain ⟨f0, f1, f2, f3⟩ := flat4_at hi
  exact ⟨g, rfl, hg, ⟨(h.cellAt _ (by omega)).trans f0, (h.cellAt _ (by omega)).trans f1, (h.cellAt _ (by omega)).trans f2, (h.cellAt _ (by omega)).trans f3⟩⟩

set_option maxRecDepth 100000 in
set_option maxHeartbeats 2000000 in
theorem specImages (a b c d : Int) (w : World) (h : isLf a b c d = true) : Calls Try.prog 67 #[leafV a b c d] w (ResIm w (a, b, c, d)) := by
  obtain ⟨i0, hi, hz0, hz1, hz2⟩ := info_parts infoL
  have HRed := Lib.hid (redX_of (x := (a, b, c, d)) h)
  clear h
  go_enter Try.func67, Try.ntmps67
  go_wp2
  have hst : ImSt w (w.heap.size + 1) (a, b, c, d) (a, b, c, d) [] (.slice (some ⟨w.heap.size + 1, 0, none⟩) 0 0) w.heap.size ((w.alloc (.cells #[.int .i64 a, .int .i64 b, .int .i64 c, .int .i64 d] 31)).alloc (.cells #[] 31)) := by
    refine ⟨by simp, ⟨rfl, .inr ⟨w.heap.size + 1, 0, #[], rfl, by omega, ?_, by simp, by unfold maxLen; omega, rfl, rfl⟩⟩, ⟨by simp [go_sem], by simp [go_sem], by simp [go_sem], by simp [go_sem]⟩, ⟨by simp [go_sem], by simp [go_sem], by simp [go_sem], by simp [go_sem]⟩, by simp [Value.ownBlock], by omega, by simp <;> omega, ?_, HRed.out, rfl⟩
    · have e := heap_alloc_new (w.alloc (.cells #[.int .i64 a, .int .i64 b, .int .i64 c, .int .i64 d] 31)) (.cells #[] 31)
      simp only [World.size_alloc] at e
      exact e
    · (repeat' (first | (with_reducible exact Below.refl _ _) | (with_reducible assumption) | (with_reducible refine belowNext ?_ (by with_reducible assumption)) | (with_reducible refine belowAlloc ?_ _) | (with_reducible refine Below.drew ?_) | (with_reducible refine below_drewN ?_ _) | (with_reducible refine Below.setCell ?_ ?_ _) | go_size | (with_reducible refine sizeOf' ?_) | (with_reducible refine sizeAdd ?_) | (dsimp only; first | (with_reducible refine sizeOf' ?_) | (with_reducible refine sizeAdd ?_))))
  have HS := Lib.hid hst
  clear hst
  go_loopw [4] (fun v wr => ∃ (acc : List Lf4) (cur : Lf4) (A : Option Addr) (cap : Nat), v = .slice A acc.length cap ∧ Hid (ImSt w (w.heap.size + 1) (a, b, c, d) cur acc v w.heap.size wr)) (fun v _ => 65 - lenV v)
  case atStart => exact ⟨[], _, _, _, rfl, HS⟩
  case round =>
    obtain ⟨acc, ⟨n, d', m, c'⟩, A, cap, rfl, H⟩ := hrel
    obtain ⟨hk, hown, ⟨x0, x1, x2, x3⟩, ⟨z0, z1, z2, z3⟩, hne, hlo, hg, hB, hR, hF⟩ := H.out
    have HF := Lib.hid hF
    have HR := Lib.hid hR
    clear hF hR hlo
    generalize hlen : acc.length = k at *
    have HL := Lib.hid hlen
    dsimp only at x0 x1 x2 x3
    go_wp2
    go_loopw [5] (fun i wi => ∃ j : Nat, j ≤ k ∧ i = .int .i64 j ∧ Hid (∀ t, t < j → ∀ p q r s, acc[t]? = some (p, q, r, s) → eqL n d' m c' p q r s = false) ∧ ∃ nq, wi = wr.drewN nq) (fun i _ => k - (intOf i).toNat)
    case atStart => exact ⟨0, by omega, rfl, Lib.hid (fun t h => absurd h (by omega)), 0, rfl⟩
    case round =>
      obtain ⟨j, hj, rfl, HY, nq, rfl⟩ := hrel
      by_cases hlt : j < k
      · obtain ⟨p, q, r, s, hx⟩ := lf_at (l := acc) (k := j) (by rw [HL.out]; exact hlt)
        obtain ⟨gb, rfl, hgb, ⟨y0, y1, y2, y3⟩⟩ := row_cells HL.out hown hx
        have Q1 := fun W => eqlLf p q r s n d' m c' W
        have HX := Lib.hid hx
        clear hx
        cases hq : eqL n d' m c' p q r s
        · rw [eqL_comm, hq] at Q1
          have HQ := Lib.hid hq
          clear hq
          go_wp2_with fail
          go_quiet (fail)
          go_wp2
          go_roundw
          case rel =>
            refine ⟨j + 1, by omega, by go_num, Lib.hid (fun t ht a' b' e' f' h' => ?_), _, rfl⟩
            by_cases hjk : t = j
            · subst hjk
              rw [HX.out] at h'
              injection h' with h'
              simp only [Prod.mk.injEq] at h'
              obtain ⟨rfl, rfl, rfl, rfl⟩ := h'
              exact HQ.out
            · exact HY.out t (by omega) _ _ _ _ h'
          case measure => simp [intOf]; omega
        · rw [eqL_comm, hq] at Q1
          have HN : Hid (imF 64 (a, b, c, d) [] = some acc) := Lib.hid (by rw [← HF.out]; exact imF_has (show hasX acc (n, d', m, c') = true from hasL_yes HX.out hq))
          have HO := Lib.hid ((lfOwn_of_row HL.out hown).lo (Nat.le_succ w.heap.size))
          clear hq hown
          go_wp2_with fail
          go_quiet (fail)
          go_wp2
          refine bodyPost_ret (v := .tuple #[.slice (some ⟨gb, 0, none⟩) k cap, .bool true]) (by simp [results, Try.results67, go_sem]) rfl ?_
          show ResIm _ _ _ _
          unfold ResIm
          rw [HN.out]
          refine ⟨_, _, by rw [HL.out], HO.out.next (below_drewN (below_drewN (Below.refl _ _) _) _), ?_⟩
          (repeat' (first | (with_reducible exact Below.refl _ _) | (with_reducible assumption) | (with_reducible refine belowNext ?_ (by with_reducible assumption)) | (with_reducible refine belowAlloc ?_ _) | (with_reducible refine Below.drew ?_) | (with_reducible refine below_drewN ?_ _) | (with_reducible refine Below.setCell ?_ ?_ _) | go_size | (with_reducible refine sizeOf' ?_) | (with_reducible refine sizeAdd ?_) | (dsimp only; first | (with_reducible refine sizeOf' ?_) | (with_reducible refine sizeAdd ?_))))
      · obtain rfl : j = k := by omega
        have HH : Hid (hasX acc (n, d', m, c') = false) := Lib.hid (hasL_no (fun i p q r s hi => HY.out i (by
          rcases Nat.lt_or_ge i acc.length with h1 | h1
          · have := HL.out; omega
          · rw [List.getElem?_eq_none h1] at hi; cases hi) _ _ _ _ hi))
        by_cases h64 : j = 64
        · subst h64
          have HN : Hid (imF 64 (a, b, c, d) [] = none) := Lib.hid (by rw [← HF.out]; exact imF_end HH.out)
          clear hown
          go_wp2
          refine bodyPost_ret (v := .tuple #[.slice none 0 0, .bool false]) (by simp [results, Try.results67, go_sem]) rfl ?_
          show ResIm _ _ _ _
          unfold ResIm
          rw [HN.out]
          refine ⟨rfl, ?_⟩
          (repeat' (first | (with_reducible exact Below.refl _ _) | (with_reducible assumption) | (with_reducible refine belowNext ?_ (by with_reducible assumption)) | (with_reducible refine belowAlloc ?_ _) | (with_reducible refine Below.drew ?_) | (with_reducible refine below_drewN ?_ _) | (with_reducible refine Below.setCell ?_ ?_ _) | go_size | (with_reducible refine sizeOf' ?_) | (with_reducible refine sizeAdd ?_) | (dsimp only; first | (with_reducible refine sizeOf' ?_) | (with_reducible refine sizeAdd ?_))))
        · have hj64 : j < 64 := by omega
          have hj64' : ((j : Int) == 64) = false := by simp; omega
          have HD := Lib.hid (fun w => specDia n d' m c' w (okOf HR.out.1) (okOf HR.out.2))
          have HI := Lib.hid (fun w => specImage n d' m c' w HR.out.1 HR.out.2)
          clear h64 HY
          go_wp2_with (at_builtin; refine wpList_append_own _ rfl _ _ 26 rfl (w.heap.size + 1) 31 i0 (.agg #[.int .i64 0, .int .i64 0, .int .i64 0, .int .i64 0]) 4 32 Try.underlying26 hi hz0 hz1 hz2 rfl (by decide) _ _ _ rfl (World.ownsRow.alloc (w := wr.drewN nq) hown _) ⟨wr.heap.size, 0, none⟩ 1 1 [.int .i64 n, .int .i64 d', .int .i64 m, .int .i64 c'] rfl rfl ?c1 ?c2 ?c3 ?c4 ?c5 ?_)
          case c1 => exact cell_four_new _ _ _ _ _ _
          case c2 => intro u hu; simp at hu; rcases hu with rfl | rfl | rfl | rfl <;> rfl
          case c3 => unfold maxLen; omega
          case c4 => omega
          case c5 => have := hB.size; simp; omega
          intro v' w1 hown' hgrow _
          obtain ⟨gn, capn, rfl⟩ := ownsRow_succ hown'
          have hz1 := hgrow.size
          simp at hz1
          obtain ⟨gn', capn', hvn, hgl, hgn⟩ := hown'.form (by omega)
          obtain rfl : gn = gn' := by injection hvn with hvn; injection hvn with hvn; injection hvn
          clear hvn
          have hw0 : w.heap.size < (wr.drewN nq).heap.size := hg
          have cf : ∀ o v, wr.cell? ⟨w.heap.size, o, none⟩ = some v → w1.cell? ⟨w.heap.size, o, none⟩ = some v := fun o v hv =>
            (hgrow.cell_far ⟨w.heap.size, o, none⟩ (by simp; omega) (fun e => hne e.symm)).trans ((World.cell?_alloc_lt (wr.drewN nq) _ _ hw0).trans hv)
          have ff : ∀ o, wr.frozen? ⟨w.heap.size, o, none⟩ = false → w1.frozen? ⟨w.heap.size, o, none⟩ = false := fun o hv =>
            (hgrow.frozen_far ⟨w.heap.size, o, none⟩ (by simp; omega) (fun e => hne e.symm)).trans (frozThru (belowAlloc (Below.refl _ _) _) hw0 hv)
          have xx0 := cf 0 _ x0
          have xx1 := cf 1 _ x1
          have xx2 := cf 2 _ x2
          have xx3 := cf 3 _ x3
          have zz0 := ff 0 z0
          have zz1 := ff 1 z1
          have zz2 := ff 2 z2
          have zz3 := ff 3 z3
          have B1 : Below w.heap.size w w1 := by
            have hb0 : Below w.heap.size w ((wr.drewN nq).alloc (.cells #[.int .i64 n, .int .i64 d', .int .i64 m, .int .i64 c'] 31)) := belowAlloc (below_drewN hB nq) _
            refine hb0.grown hgrow hb0.size (fun r e => ?_)
            rcases hown.2 with ⟨hv, _⟩ | ⟨g0, c0, cur, hv, hv2, _⟩
            · rw [hv] at e; simp [Value.ownBlock] at e
            · rw [hv] at e; simp [Value.ownBlock] at e; omega
          rw [← flat4_app] at hown'
          have HO := Lib.hid hown'
          have hgw : w.heap.size < w1.heap.size := by have := hg; omega
          have hlt2 : (acc ++ [((n, d', m, c') : Lf4)]).length = j + 1 := by rw [List.length_append, HL.out]; rfl
          have HL2 := Lib.hid hlt2
          obtain ⟨f, hf⟩ : ∃ f, 64 - j = f + 1 := ⟨63 - j, by omega⟩
          have hf2 : 64 - (j + 1) = f := by omega
          rw [hf] at HF
          clear hown' hgrow hown x0 x1 x2 x3 z0 z1 z2 z3 cf ff hlt2 hf hgl hgn hw0 hB
          cases hd : diaB n d' m c'
          · have HF2 := Lib.hid ((imF_step HH.out (show diaX (n, d', m, c') = false from hd)).symm.trans HF.out)
            rw [hd] at HD
            clear hd HF
            go_wp2_with fail
            refine (HD.out _).mono ?_
            rintro e w2 ⟨rfl, hb2⟩
            obtain ⟨hc2, hf2'⟩ := bcell hb2
            have hgw2 : w.heap.size < w2.heap.size := Nat.lt_of_lt_of_le hgw hb2.size
            go_wp2_with fail
            refine (HI.out _).mono ?_
            rintro e w3 ⟨rfl, hb3⟩
            obtain ⟨hc3, hf3⟩ := bcell hb3
            have hgw3 : w.heap.size < w3.heap.size := Nat.lt_of_lt_of_le hgw2 hb3.size
            have y0 := cellThru hb3 hgw2 (cellThru hb2 hgw xx0)
            have y1 := cellThru hb3 hgw2 (cellThru hb2 hgw xx1)
            have y2 := cellThru hb3 hgw2 (cellThru hb2 hgw xx2)
            have y3 := cellThru hb3 hgw2 (cellThru hb2 hgw xx3)
            have u0' := frozThru hb3 hgw2 (frozThru hb2 hgw zz0)
            have u1' := frozThru hb3 hgw2 (frozThru hb2 hgw zz1)
            have u2' := frozThru hb3 hgw2 (frozThru hb2 hgw zz2)
            have u3' := frozThru hb3 hgw2 (frozThru hb2 hgw zz3)
            have B3 : Below w.heap.size w w3 := belowNext (belowNext B1 hb2) hb3
            have HO3 : Hid (w3.ownsRow (w.heap.size + 1) 31 4 (.slice (some ⟨gn, 0, none⟩) (j + 1) capn) (j + 1) (flat4 (acc ++ [(n, d', m, c')]))) := Lib.hid (
              (HO.out.kept (row := none) ⟨hb2.os, hb2.tape, hb2.output, hb2.size, fun i hi _ => hb2.block i hi⟩ (.inr (by simp [Value.ownBlock]))).kept (row := none) ⟨hb3.os, hb3.tape, hb3.output, hb3.size, fun i hi _ => hb3.block i hi⟩ (.inr (by simp [Value.ownBlock])))
            have hgn3 : gn ≠ w.heap.size := by
              obtain ⟨g', c', hv, hgl, _⟩ := HO3.out.form (by omega)
              injection hv with hv
              injection hv with hv
              injection hv with hv
              omega
            have HE : Hid (imL (n, d', m, c') = (imA n d' m c', imB n d' m c', imC n d' m c', imD n d' m c')) := Lib.hid rfl
            have HR2 := Lib.hid (imL_red HR.out)
            generalize imA n d' m c' = p1 at *
            generalize imB n d' m c' = p2 at *
            generalize imC n d' m c' = p3 at *
            generalize imD n d' m c' = p4 at *
            clear hc2 hf2' hc3 hf3 hb2 hb3 B1 HO xx0 xx1 xx2 xx3 zz0 zz1 zz2 zz3
            go_wp2
            go_roundw
            case rel =>
              obtain ⟨t0, t1, t2, t3⟩ := set4_got (x0 := .int .i64 p1) (x1 := .int .i64 p2) (x2 := .int .i64 p3) (x3 := .int .i64 p4) y0 y1 y2 y3
              refine ⟨acc ++ [(n, d', m, c')], (p1, p2, p3, p4), _, _, by rw [HL2.out], Lib.hid ⟨by rw [HL2.out]; omega, ?_, ⟨t0, t1, t2, t3⟩, ⟨by simpa using u0', by simpa using u1', by simpa using u2', by simpa using u3'⟩, ?_, Nat.le_refl _, by simpa using hgw3, ?_, ?_, ?_⟩⟩
              · rw [HL2.out]
                exact ownsRow_setCell_other (ownsRow_setCell_other (ownsRow_setCell_other (ownsRow_setCell_other HO3.out (by simp [Value.ownBlock]; omega) _) (by simp [Value.ownBlock]; omega) _) (by simp [Value.ownBlock]; omega) _) (by simp [Value.ownBlock]; omega) _
              · simp [Value.ownBlock]; omega
              · exact (((B3.setCell (Nat.le_refl _) _).setCell (Nat.le_refl _) _).setCell (Nat.le_refl _) _).setCell (Nat.le_refl _) _
              · rw [← HE.out]; exact HR2.out
              · rw [HL2.out, hf2, ← HE.out]; exact HF2.out
            case measure => simp [lenV]; omega
          · have HN : Hid (imF 64 (a, b, c, d) [] = some (acc ++ [(n, d', m, c')])) := Lib.hid ((imF_dia HH.out (show diaX (n, d', m, c') = true from hd)).symm.trans HF.out).symm
            rw [hd] at HD
            clear hd HF
            have HO2 := Lib.hid ((lfOwn_of_row HL2.out HO.out).lo (Nat.le_succ w.heap.size))
            go_wp2_with fail
            refine (HD.out _).mono ?_
            rintro e w2 ⟨rfl, hb2⟩
            go_wp2
            refine bodyPost_ret (v := .tuple #[.slice (some ⟨gn, 0, none⟩) (j + 1) capn, .bool true]) (by simp [results, Try.results67, go_sem]) rfl ?_
            show ResIm _ _ _ _
            unfold ResIm
            rw [HN.out]
            refine ⟨_, _, by rw [HL2.out], HO2.out.next hb2, ?_⟩
            (repeat' (first | (with_reducible exact Below.refl _ _) | (with_reducible assumption) | (with_reducible refine belowNext ?_ (by with_reducible assumption)) | (with_reducible refine belowAlloc ?_ _) | (with_reducible refine Below.drew ?_) | (with_reducible refine below_drewN ?_ _) | (with_reducible refine Below.setCell ?_ ?_ _) | go_size | (with_reducible refine sizeOf' ?_) | (with_reducible refine sizeAdd ?_) | (dsimp only; first | (with_reducible refine sizeOf' ?_) | (with_reducible refine sizeAdd ?_))))
end Go.Proofs.Ytdmppdfncbljoaa

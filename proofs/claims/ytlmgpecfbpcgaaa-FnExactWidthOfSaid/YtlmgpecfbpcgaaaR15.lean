/-
  Contracts: the ray pairs of a period, as the model joins them.
-/
import Derived.Test.YtlmgpecfbpcgaaaR14
namespace Go.Proofs.Ytlmgpecfbpcgaaa
open Go.RowKit

theorem cell_four_newP (w : World) (a b c d : Value) (t : TypeId) : ∀ j u, [a, b, c, d][j]? = some u → (w.alloc (.cells #[a, b, c, d] t)).cell? ((⟨w.heap.size, 0, none⟩ : Addr).add j) = some u := by
  intro j u hj
  match j, hj with
  | 0, hj => simp at hj; subst hj; simp [Addr.add]
  | 1, hj => simp at hj; subst hj; simp [Addr.add]
  | 2, hj => simp at hj; subst hj; simp [Addr.add]
  | 3, hj => simp at hj; subst hj; simp [Addr.add]
theorem madeFalse (n j : Nat) (h : j < n) : (madeCells (Value.bool false).cells (n * 1)).toList[j]? = some (.bool false) := by
  simp [madeCells, Value.cells, h, Nat.mod_one]
theorem belowGrownP {A B : World} (h : A.grownBy B none) : Below A.heap.size A B := ⟨h.os, h.tape, h.output, h.size, fun k hk => h.block k hk (by simp)⟩

set_option maxRecDepth 100000 in
set_option maxHeartbeats 1000000 in
theorem specJoin (N : Nat) (lo : Nat) (A0 : Option Addr) (cap0 : Nat) (L : List (Lf4 × Nat)) (w : World) (h1 : 2 ≤ N) (h8 : N ≤ 8) (hL : allP L) (hlen : L.length ≤ 100000) (hlo : lo ≤ w.heap.size)
    (hown : w.ownsRow lo 91 4 (.slice A0 L.length cap0) L.length (flatP (L.map (·.1)))) :
    Calls Try.prog 144 #[.slice A0 L.length cap0, .int .i64 N] w fun e w' => ∃ A' cap', e = .returned (.slice A' (plOf L (angF N (2 ^ N - 1 : Nat) (2 ^ N - 1)) N (joinM L (angF N (2 ^ N - 1 : Nat) (2 ^ N - 1)) N)).length cap') ∧
      w'.ownsRow lo 91 4 (.slice A' (plOf L (angF N (2 ^ N - 1 : Nat) (2 ^ N - 1)) N (joinM L (angF N (2 ^ N - 1 : Nat) (2 ^ N - 1)) N)).length cap') (plOf L (angF N (2 ^ N - 1 : Nat) (2 ^ N - 1)) N (joinM L (angF N (2 ^ N - 1 : Nat) (2 ^ N - 1)) N)).length (flatP ((plOf L (angF N (2 ^ N - 1 : Nat) (2 ^ N - 1)) N (joinM L (angF N (2 ^ N - 1 : Nat) (2 ^ N - 1)) N)).map (·.1))) ∧ Below lo w w' := by
  have HA := Lib.hid (specAoP N w (by omega) h8)
  have hp := pow_le8 h8
  have hq : 4 ≤ 2 ^ N := by
    obtain ⟨m, rfl⟩ : ∃ m, N = m + 2 := ⟨N - 2, by omega⟩
    have := pow_ge1 m
    rw [Nat.pow_succ, Nat.pow_succ]; omega
  have HAsc := Lib.hid (angF_Asc (N := N) (D := 2 ^ N - 1) (by omega) (by omega))
  have hAl := angF_len N (2 ^ N - 1 : Nat) (2 ^ N - 1)
  generalize angF N (2 ^ N - 1 : Nat) (2 ^ N - 1) = A at *
  have hA300 : A.length ≤ 255 := by omega
  clear hp hq hAl
  obtain ⟨len, hl⟩ : ∃ len, A.length = len := ⟨_, rfl⟩
  rw [hl] at hA300 HA
  have HLen := Lib.hid hl
  have HM := Lib.hid hown
  have HLP := Lib.hid hL
  clear hl hown hL
  obtain ⟨i0, hi, hz0, hz1, hz2⟩ := info_parts infoP
  obtain ⟨j0, ji, jz0, jz1, jz2⟩ := info_parts infoB
  go_enter Try.func144, Try.ntmps144
  go_wp2_with fail
  refine HA.out.mono ?_
  rintro e w1 ⟨Aa, cap, hcap, rfl, hown, hb1⟩
  have HB1 := Lib.hid hb1
  have HO1 := Lib.hid hown
  have hz := hb1.size
  clear hown hb1
  go_wp2_with (at_make; refine wpList_make_full _ rfl _ _ 128 rfl w1.heap.size 4 j0 (.bool false) 1 Try.underlying128 ji jz0 jz1 .i64 .i64 _ _ len rfl rfl rfl rfl (by rw [jz2]; omega) (by unfold maxLen; omega) (by omega) ?_; intro w2 hown2 hgrow2)
  obtain ⟨U, hU⟩ : ∃ U, w1.heap.size = U := ⟨_, rfl⟩
  rw [hU] at hown2 hz
  have uz : U < w2.heap.size := by
    rcases hown2.2 with ⟨hv, _⟩ | ⟨g0, c0, cur, hv, _, hh, _⟩
    · cases hv
    · injection hv with hv
      injection hv with hv
      injection hv with hv
      rw [← hv] at hh
      rcases Nat.lt_or_ge U w2.heap.size with h1 | h1
      · exact h1
      · rw [Array.getElem?_eq_none h1] at hh; cases hh
  have mk0 : ∀ j, j < A.length → w2.cell? ⟨U, j, none⟩ = some (.bool false) := fun j hj => by
    have := HLen.out
    have e := hown2.cellAt j (by omega)
    rw [e, madeFalse _ _ (by omega)]
  have up : Below w1.heap.size w1 w2 := belowGrownP hgrow2
  have start : SJ w lo U L A N Aa [] (.slice A0 L.length cap0) w2 := by
    have e : plOf L A N [] = L := by simp [plOf]
    refine ⟨?_, fun g e => ?_, fun hne => ?_, uz, fun j hj => ⟨_, mk0 j hj⟩, fun o => hown2.frozenAt o, (HB1.out.mono hlo).trans (up.mono (by omega)), hz, hlo⟩
    · rw [e]; exact ownsKeep (ownsKeep HM.out HB1.out) up
    · have hlt := HM.out
      rcases hlt.2 with ⟨hv, _⟩ | ⟨g0, c0, cur, hv, _, hh, _⟩
      · rw [hv] at e; simp [Value.ownBlock] at e
      · rw [hv] at e
        simp [Value.ownBlock] at e
        subst e
        exact .inl (Array.getElem?_eq_some_iff.1 hh).1
    · obtain ⟨b, off, e, h1, h2, h3⟩ := HO1.out hne
      exact ⟨b, off, e, h1, by omega, fun i n d hi => ⟨cellBelow up (h3 i n d hi).1, cellBelow up (h3 i n d hi).2.1⟩⟩
  have HS := Lib.hid start
  have HK : Hid (marksOk U A [] 0 w2) := Lib.hid (fun j _ hj => mk0 j hj)
  have e0 : plOf L A N [] = L := by simp [plOf]
  have HE0 := Lib.hid e0
  clear hown2 hgrow2 up mk0 start e0 uz HM HB1 HO1 HA
  go_wp2_with fail
  try rw [hU]
  clear hU
  go_loopg [0, 7] len (fun g s0 s7 wr => ∃ (i : Nat) (M : List (Nat × Nat)) (Av : Option Addr) (cv : Nat), i + g = len ∧ s0 = .slice Av (plOf L A N M).length cv ∧ s7 = .int .i64 i ∧ M.length ≤ i ∧ Hid (Joined A.length i M) ∧ Hid (allM L A N (A.length - i) i M = joinM L A N) ∧ Hid (SJ w lo U L A N Aa M s0 wr) ∧ Hid (marksOk U A M i wr))
  case atStart => exact ⟨0, [], A0, cap0, by omega, by rw [HE0.out], rfl, Nat.le_refl _, Lib.hid (Joined.nil _), Lib.hid rfl, HS, HK⟩
  case round =>
    clear HS HK
    obtain ⟨k, M, Av, cv, hkg, rfl, rfl, hMk, HJ, HE, HS, HK⟩ := hrel
    cases gk with
    | zero =>
      obtain rfl : k = len := by omega
      have hM : M = joinM L A N := by
        have := HE.out
        rw [show A.length - k = 0 by have := HLen.out; omega] at this
        exact this
      subst hM
      go_wp2
      go_ret
      exact ⟨Av, cv, rfl, HS.out.own, HS.out.bel⟩
    | succ g =>
      have hlt : k < len := by omega
      have hkl : k < A.length := by have := HLen.out; omega
      obtain ⟨MT, hMT⟩ : ∃ MT, (if (upOf M).contains k then M else rowM L A N M k (A.length - (k + 1)) (k + 1)) = MT := ⟨_, rfl⟩
      have HE2 : Hid (allM L A N (A.length - (k + 1)) (k + 1) MT = joinM L A N) := Lib.hid (by
        rw [← HE.out, ← hMT]
        have e : A.length - k = (A.length - (k + 1)) + 1 := by omega
        rw [e]; rfl)
      have HJ2 : Hid (Joined A.length (k + 1) MT) := Lib.hid (by
        rw [← hMT]
        split
        · exact HJ.out.mono
        · next hc => exact rowM_Joined HJ.out (by simpa using hc) _ _ (by omega) (by omega))
      have hMT1 : MT.length ≤ k + 1 := by
        rw [← hMT]
        split
        · omega
        · have := rowM_len L A N M k (A.length - (k + 1)) (k + 1); omega
      have HMT := Lib.hid hMT
      have c0 := HK.out k (Nat.le_refl _) hkl
      obtain ⟨t0, ht0⟩ : ∃ t, (upOf M).contains k = t := ⟨_, rfl⟩
      rw [ht0] at c0
      have H1 : Hid (t0 = true → M = MT) := Lib.hid (fun h => by rw [← HMT.out, ht0, h]; rfl)
      have H2 : Hid (t0 = false → M = M ∧ (upOf M).contains k = false ∧ rowM L A N M k (A.length - (k + 1)) (k + 1) = MT) := Lib.hid (fun h => ⟨rfl, ht0.trans h, by rw [← HMT.out, ht0, h]; rfl⟩)
      have HK1 : Hid (marksOk U A M (k + 1) wr) := Lib.hid (fun j h1 h2 => HK.out j (by omega) h2)
      clear hMT ht0 HE HMT HK
      go_wp2_with fail
      go_loopg [0, 8] (len - (k + 1)) (fun g2 s0 s8 wx => ∃ (q : Nat) (M2 : List (Nat × Nat)) (t : Bool) (Av : Option Addr) (cv : Nat), q + g2 = len ∧ k + 1 ≤ q ∧ s0 = .slice Av (plOf L A N M2).length cv ∧ s8 = .int .i64 q ∧ Hid (SJ w lo U L A N Aa M2 s0 wx) ∧ Hid (marksOk U A M2 (k + 1) wx) ∧ wx.cell? ⟨U, k, none⟩ = some (.bool t) ∧
          Hid (t = true → M2 = MT) ∧ Hid (t = false → M2 = M ∧ (upOf M).contains k = false ∧ rowM L A N M k (A.length - q) q = MT))
      case atStart => exact ⟨k + 1, M, t0, Av, cv, by omega, Nat.le_refl _, rfl, by go_num, HS, HK1, c0, H1, Lib.hid (fun h => ⟨rfl, (H2.out h).2⟩)⟩
      case round =>
        clear HS HK1 c0 H1 H2
        obtain ⟨q, M2, t, Av2, cv2, hqg, hkq, rfl, rfl, HS, HK, c0, H1, H2⟩ := hrel
        cases gk with
        | zero =>
          have hql : ¬ ((q : Int) < (len : Int)) := by omega
          have hM2 : M2 = MT := by
            cases t
            · obtain ⟨e1, _, e2⟩ := H2.out rfl
              rw [← e2, show A.length - q = 0 by have := HLen.out; omega, e1]; rfl
            · exact H1.out rfl
          subst hM2
          go_wp2
          go_roundg g
          case measure => omega
          case rel => exact ⟨k + 1, M2, Av2, cv2, by omega, rfl, by go_num, hMT1, HJ2, HE2, HS, HK⟩
        | succ g2 =>
          have hql : q < len := by omega
          have hqA : q < A.length := by have := HLen.out; omega
          cases t
          · obtain ⟨rfl, hck, hrow⟩ := H2.out rfl
            have HCK := Lib.hid hck
            have HRW := Lib.hid hrow
            clear H1 H2 hck hrow
            have hne : A ≠ [] := by intro h; rw [h] at hkl; simp at hkl
            obtain ⟨gA, off, rfl, hgl, hgU, hcells⟩ := HS.out.row hne
            obtain ⟨x0, x1⟩ := hcells k (at_ A k).1 (at_ A k).2 (at_some hkl)
            obtain ⟨y0, y1⟩ := hcells q (at_ A q).1 (at_ A q).2 (at_some hqA)
            obtain ⟨⟨n, d⟩, hnd⟩ : ∃ p, at_ A k = p := ⟨_, rfl⟩
            obtain ⟨⟨m, c⟩, hmc⟩ : ∃ p, at_ A q = p := ⟨_, rfl⟩
            rw [hnd] at x0 x1
            rw [hmc] at y0 y1
            have HP : Hid (lfOf (at_ A k) (at_ A q) = (n, d, m, c)) := Lib.hid (by rw [hnd, hmc]; rfl)
            have HOK : Hid (okP (n, d, m, c) = true) := Lib.hid (by rw [← HP.out]; exact HAsc.out.ok (by omega) hqA)
            dsimp only at x0 x1 y0 y1
            have cq := HK.out q hkq hqA
            have hUz := HS.out.uz
            have hgz : gA < wr.heap.size := Nat.lt_trans hgU hUz
            clear hcells hne hnd hmc
            go_wp2_with fail
            go_region
            have up9 : Below wr.heap.size wr (wr.alloc (.cells #[.int .i64 n, .int .i64 d, .int .i64 m, .int .i64 c] 91)).drew := (belowAlloc (Below.refl _ _) _).drew
            have HS9 := Lib.hid (HS.out.next up9)
            have HK9 := Lib.hid (HK.out.next up9)
            have c09 : (wr.alloc (.cells #[.int .i64 n, .int .i64 d, .int .i64 m, .int .i64 c] 91)).drew.cell? ⟨U, k, none⟩ = some (.bool false) := cellBelow up9 c0
            have cq9 := cellBelow up9 cq
            have p0 : (wr.alloc (.cells #[.int .i64 n, .int .i64 d, .int .i64 m, .int .i64 c] 91)).drew.cell? ⟨wr.heap.size, 0, none⟩ = some (.int .i64 n) := by simp [go_sem]
            have p1 : (wr.alloc (.cells #[.int .i64 n, .int .i64 d, .int .i64 m, .int .i64 c] 91)).drew.cell? ⟨wr.heap.size, 1, none⟩ = some (.int .i64 d) := by simp [go_sem]
            have p2 : (wr.alloc (.cells #[.int .i64 n, .int .i64 d, .int .i64 m, .int .i64 c] 91)).drew.cell? ⟨wr.heap.size, 2, none⟩ = some (.int .i64 m) := by simp [go_sem]
            have p3 : (wr.alloc (.cells #[.int .i64 n, .int .i64 d, .int .i64 m, .int .i64 c] 91)).drew.cell? ⟨wr.heap.size, 3, none⟩ = some (.int .i64 c) := by simp [go_sem]
            have hz9 : wr.heap.size < (wr.alloc (.cells #[.int .i64 n, .int .i64 d, .int .i64 m, .int .i64 c] 91)).drew.heap.size := by simp
            generalize (wr.alloc (.cells #[.int .i64 n, .int .i64 d, .int .i64 m, .int .i64 c] 91)).drew = w9 at *
            generalize wr.heap.size = B9 at *
            clear x0 x1 y0 y1 c0 cq up9 hUz hgz HS HK
            have HAP := Lib.hid (allP_plOf (N := N) HLP.out HAsc.out HJ.out)
            have HFr := Lib.hid (specFree n d m c Av2 (plOf L A N M2).length cv2 (plOf L A N M2) w9 HOK.out HAP.out (rowP_of (by simp) HS9.out.own) rfl (by unfold plOf; simp only [List.length_append, List.length_map]; omega))
            obtain ⟨t2, ht2⟩ : ∃ t, (upOf M2).contains q = t := ⟨_, rfl⟩
            rw [ht2] at cq9
            have HT2 := Lib.hid ht2
            clear ht2
            cases t2
            · obtain ⟨R, hR⟩ : ∃ R, crossAny (n, d, m, c) (plOf L A N M2) = R := ⟨_, rfl⟩
              rw [hR] at HFr
              have HR := Lib.hid hR
              clear hR
              cases R
              · have hfit : Hid (fits L A N M2 k q = true) := Lib.hid (by unfold fits; rw [HT2.out, HP.out, HR.out]; rfl)
                go_wp2_with fail
                refine HFr.out.mono ?_
                rintro e w10 ⟨rfl, hb10⟩
                have HS10 := Lib.hid (HS9.out.next hb10)
                have HK10 := Lib.hid (HK9.out.next hb10)
                have c010 := cellBelow hb10 c09
                have cq10 := cellBelow hb10 cq9
                have p0 := cellBelow hb10 p0
                have p1 := cellBelow hb10 p1
                have p2 := cellBelow hb10 p2
                have p3 := cellBelow hb10 p3
                clear hb10 c09 cq9 HFr HS9 HK9 hz9
                have hlo10 : lo ≤ w10.heap.size := Nat.le_trans hlo HS10.out.bel.size
                have hUz10 := HS10.out.uz
                have hpl : (plOf L A N M2).length ≤ 100300 := by unfold plOf; simp only [List.length_append, List.length_map]; omega
                go_wp2_with (at_builtin; refine wpList_append_own_at _ rfl _ _ 137 rfl lo 91 i0 (.agg #[.int .i64 0, .int .i64 0, .int .i64 0, .int .i64 0]) 4 32 Try.underlying137 hi hz0 hz1 hz2 rfl (by decide) _ _ _ rfl (HS10.out.own.alloc _) ⟨w10.heap.size, 0, none⟩ 1 1 [.int .i64 n, .int .i64 d, .int .i64 m, .int .i64 c] rfl rfl ?c1 ?c2 ?c3 ?c4 ?c5 ?_)
                case c1 => exact cell_four_newP _ _ _ _ _ _
                case c2 => intro u hu; simp at hu; rcases hu with rfl | rfl | rfl | rfl <;> rfl
                case c3 => unfold maxLen; omega
                case c4 => omega
                case c5 => simp; omega
                intro v' w11 hown' hgrow _ hloc
                obtain ⟨gn, capn, rfl⟩ := ownsRow_succ hown'
                have up10 : Below w10.heap.size w10 (w10.alloc (.cells #[.int .i64 n, .int .i64 d, .int .i64 m, .int .i64 c] 91)) := belowAlloc (Below.refl _ _) _
                have nU : some U ≠ (Value.slice Av2 (plOf L A N M2).length cv2).ownBlock := fun e => by have := HS10.out.far U e.symm; have := HS10.out.uw; omega
                have HS11 := Lib.hid ((HS10.out.next up10).app (i := k) (k := q) hgrow (by rw [World.size_alloc]; exact hloc) (by rw [HP.out]; exact hown'))
                have HK11 := Lib.hid ((HK10.out.next up10).grown hgrow (by simp; omega) nU)
                obtain ⟨bk, ck⟩ := HS11.out.used k hkl
                obtain ⟨bq, cq⟩ := HS11.out.used q hqA
                have fk := HS11.out.free k
                have fq := HS11.out.free q
                have HW := Lib.hid ((rowM_yes hqA hfit.out).symm.trans HRW.out)
                have hlp : (plOf L A N (M2 ++ [(k, q)])).length = (plOf L A N M2).length + 1 := by rw [plOf_snoc, List.length_append]; rfl
                have HLP2 := Lib.hid hlp
                have hqk : ¬ q = k := by omega
                have hkq' : ¬ k = q := by omega
                clear hown' hgrow hloc nU up10 p0 p1 p2 p3 c010 cq10 hlp
                go_wp2
                go_roundg g2
                case measure => omega
                case rel =>
                  have n1 : (⟨U, k, none⟩ : Addr) ≠ ⟨U, q, none⟩ := fun e => by injection e with _ e1; omega
                  exact ⟨q + 1, M2 ++ [(k, q)], true, _, _, by omega, by omega, by rw [HLP2.out], by go_num, Lib.hid ((HS11.out.mark k hkl true).mark q hqA true), Lib.hid (HK11.out.put (by omega) ⟨_, cq⟩), (World.cell?_setCell_other _ _ _ _ n1.symm).trans (World.cell?_setCell_same _ _ _ ck), Lib.hid (fun _ => HW.out), Lib.hid (fun h => by cases h)⟩
              · go_wp2_with fail
                refine HFr.out.mono ?_
                rintro e w10 ⟨rfl, hb10⟩
                have HS10 := Lib.hid (HS9.out.next hb10)
                have HK10 := Lib.hid (HK9.out.next hb10)
                have c010 := cellBelow hb10 c09
                have hfit : fits L A N M2 k q = false := by unfold fits; rw [HT2.out, HP.out, HR.out]; rfl
                have HW := Lib.hid ((rowM_next hqA hfit).symm.trans HRW.out)
                clear hb10 c09 cq9 HFr hfit
                go_wp2
                go_roundg g2
                case measure => omega
                case rel => exact ⟨q + 1, M2, false, Av2, cv2, by omega, by omega, rfl, by go_num, HS10, HK10, c010, Lib.hid (fun h => by cases h), Lib.hid (fun _ => ⟨rfl, HCK.out, HW.out⟩)⟩
            · have hfit : fits L A N M2 k q = false := by unfold fits; rw [HT2.out]; rfl
              have HW := Lib.hid ((rowM_next hqA hfit).symm.trans HRW.out)
              clear hfit HFr
              go_wp2
              go_roundg g2
              case measure => omega
              case rel => exact ⟨q + 1, M2, false, Av2, cv2, by omega, by omega, rfl, by go_num, HS9, HK9, c09, Lib.hid (fun h => by cases h), Lib.hid (fun _ => ⟨rfl, HCK.out, HW.out⟩)⟩
          · have hM2 : M2 = MT := H1.out rfl
            subst hM2
            go_wp2
            go_roundg g
            case measure => omega
            case rel => exact ⟨k + 1, M2, Av2, cv2, by omega, rfl, by go_num, hMT1, HJ2, HE2, HS, HK⟩
end Go.Proofs.Ytlmgpecfbpcgaaa

/-
  Contracts: a leaf added to a lamination, as the model does it.
-/
import Derived.Test.YtkpgfafmaoaefaaV32
import Derived.Test.YtkpgfafmaoaefaaV23
import Derived.StillTailTactics
namespace Go.Proofs.Ytkpgfafmaoaefaa
open Go.RowKit

theorem shareB_sym (a b c d e f g h : Int) : shareB a b c d e f g h = shareB e f g h a b c d := by
  unfold shareB
  rw [eqA_comm a b e f, eqA_comm a b g h, eqA_comm c d e f, eqA_comm c d g h]
  cases eqA e f a b <;> cases eqA g h a b <;> cases eqA e f c d <;> cases eqA g h c d <;> rfl
theorem crossX_sym {x y : Lf4} (hx : isLf x.1 x.2.1 x.2.2.1 x.2.2.2 = true) (hy : isLf y.1 y.2.1 y.2.2.1 y.2.2.2 = true) : crossX x y = crossX y x := by
  unfold crossX crossB
  rw [shareB_sym y.1]
  cases hs : shareB x.1 x.2.1 x.2.2.1 x.2.2.2 y.1 y.2.1 y.2.2.1 y.2.2.2
  · rw [cross_turn hx hy hs]
  · rfl
theorem crossX_self (x : Lf4) : crossX x x = false := by
  unfold crossX crossB shareB
  rw [(eqA_iff _ _ _ _).2 ⟨rfl, rfl⟩]
  rfl
theorem cross_in {l : List Lf4} (ha : allLf l = true) (hn : NoCross l) {i : Nat} {p : Lf4} (hi : l[i]? = some p) : ∀ (j : Nat) (y : Lf4), l[j]? = some y → crossX p y = false := by
  intro j y hj
  rcases Nat.lt_trichotomy j i with h | h | h
  · exact hn i j p y h hi hj
  · subst h
    rw [hi] at hj
    injection hj with hj
    rw [← hj]; exact crossX_self p
  · rw [crossX_sym (allLf_at ha (n := p.1) (d := p.2.1) (m := p.2.2.1) (c := p.2.2.2) hi) (allLf_at ha (n := y.1) (d := y.2.1) (m := y.2.2.1) (c := y.2.2.2) hj)]
    exact hn j i y p h hj hi
theorem specCrossA (a b c d e f g h : Int) (w : World) (hl : isLf a b c d = true) (hm : isLf e f g h = true) :
    Calls Try.prog 95 #[leafV a b c d, leafV e f g h] w fun e' w' => e' = .returned (.bool (crossX (e, f, g, h) (a, b, c, d))) ∧ Below w.heap.size w w' := by
  rw [crossX_sym (x := (e, f, g, h)) (y := (a, b, c, d)) hm hl]
  exact specCross a b c d e f g h w hl hm
/-- An append at a step of a region that draws its order; what is nil is told. -/
theorem step_append_nnL {P : Program} (w : World) {ops : Array Oper} {o : Oper} {a : Act} {K : Act → World → Prop} {Q : Exit → Act → World → Prop} {E : Prop} (hgd : o.guard = none) (s x : Operand) (t : TypeId)
    (ho : o.op = .call { callee := .builtin .append, args := #[s, x], argTypes := #[t, t] })
    (base : Nat) (e : TypeId) (i : TypeInfo) (z : Value) (size bytes : Nat) (ht : P.underlying t = some (.slice e)) (hi : P.info? e = some i) (hz : i.zero = some z)
    (hsize : i.size = size) (hby : i.bytes = bytes) (hzs : z.cells.size = size) (hsz : 0 < size)
    (v : Value) (n : Nat) (xs : List Value) (hs : a.eval s = v) (hown : w.ownsRow base e size v n xs)
    (ad : Addr) (m c : Nat) (news : List Value) (hx : a.eval x = .slice (some ad) m c) (hl : news.length = m * size) (hnews : ∀ j u, news[j]? = some u → w.cell? (ad.add j) = some u) (h1 : ∀ u ∈ news, u.oneCell' = true)
    (h63 : n + m ≤ maxLen) (hbytes : (n + m) * bytes ≤ 140737488355328) (hbase : base ≤ w.heap.size)
    (h : ∀ v' w', w'.ownsRow base e size v' (n + m) (xs ++ news) → w.grownBy w' v.ownBlock → (v' = .slice none 0 0 ↔ v = .slice none 0 0 ∧ m = 0) → K (a.put o.dst v') w') :
    if Region.wanted o (yielded ops a.tmps) = true then Oper.wp P o a w K Q else E := by
  obtain ⟨v', w', hr, h2, h3, h4, _⟩ := run_append_own_at (P := P) w base t o.type e i z size bytes ht hi hz hsize hby hzs hsz v n xs hown ad m c news hl hnews h1 h63 hbytes hbase
  have hw : Region.wanted o (yielded ops a.tmps) = true := by simp [Region.wanted, hgd]
  rw [if_pos hw]
  unfold Oper.wp execOp
  simp only [ho, resolve, invoke, builtin, Sem.run_bind, Sem.run_pure, Result.andThen_ok, List.map_toArray, List.map_cons, List.map_nil, hs, hx, hr]
  exact h v' w' h2 h3 h4

set_option maxRecDepth 100000 in
set_option maxHeartbeats 2000000 in
theorem specAddLf (b0 off cap : Nat) (l R : List Lf4) (C p1 p2 p3 p4 : Int) (w : World) (hr : LfRow w w.heap.size (some ⟨b0, off, none⟩) l) (hm : l.length ≤ 1048576) (h : AddIs l p1 p2 p3 p4 R C) :
    Calls Try.prog 40 #[.slice (some ⟨b0, off, none⟩) l.length cap, leafV p1 p2 p3 p4] w (ResLf w R C) := by
  have HLam : Hid (∀ W, Below w.heap.size w W → Calls Try.prog 65 #[.slice (some ⟨b0, off, none⟩) l.length cap] W (ResYes W (Lam l))) := Lib.hid (fun W hB => specLam1 _ l.length cap l W ((hr.below hB).more hB.size) rfl (by omega))
  have HLf := Lib.hid (fun w => specLf1 p1 p2 p3 p4 w)
  have HR := Lib.hid hr
  obtain ⟨i0, hi, hz0, hz1, hz2⟩ := infoL_parts infoLf
  by_cases hg : Lam l ∧ isLf p1 p2 p3 p4 = true
  · obtain ⟨hg, hp⟩ := hg
    have HG := Lib.hid hg
    have HP := Lib.hid hp
    have HOk : Hid (allLf l = true) := Lib.hid hg.2.1
    have hlen : l.length ≤ 200 := hg.1
    rw [hp] at HLf
    by_cases hcr : CrossOne (p1, p2, p3, p4) l
    · have hRC : R = [] ∧ C = 5 := by
        rcases h with ⟨h1, _⟩ | ⟨_, h2, _⟩ | ⟨_, _, _, h4, h5⟩ | ⟨_, _, h3, _⟩ | ⟨_, _, h3, _⟩
        · exact absurd ⟨hg, hp⟩ h1
        · obtain ⟨j, y, hj, hc⟩ := hcr
          rw [cross_in hg.2.1 hg.2.2.2 h2 j y hj] at hc
          cases hc
        · exact ⟨h4, h5⟩
        · exact absurd hcr h3
        · exact absurd hcr h3
      obtain ⟨rfl, rfl⟩ := hRC
      have HX := Lib.hid hcr
      clear h hr hg hp hcr
      go_enter Try.func40, Try.ntmps40
      go_wp2_with fail
      have K0 := BoxL.start w p1 p2 p3 p4
      refine (HLam.out _ K0.B).mono ?_
      rintro e w1 ⟨⟨r, rfl, HRr⟩, hb1⟩
      have K1 := K0.on hb1
      clear hb1
      obtain rfl : r = true := HRr.out.2 HG.out
      clear HRr
      obtain ⟨B1, z1, c0, c1, c2, c3⟩ := id K1
      go_wp2_with fail
      refine (HLf.out _).mono ?_
      rintro e w2 ⟨rfl, hb2⟩
      have K2 := Lib.hid (K1.on hb2)
      clear hb2 B1 z1 c0 c1 c2 c3 K1 K0
      go_wp2_with fail
      go_loopg [6] l.length (fun g s6 wx => ∃ k : Nat, k + g = l.length ∧ s6 = .int .i64 k ∧ Hid (∀ (j : Nat) (y : Lf4), j < k → l[j]? = some y → crossX (p1, p2, p3, p4) y = false) ∧ Hid (BoxL w wx p1 p2 p3 p4))
      case atStart => exact ⟨0, by omega, rfl, Lib.hid (fun j y h => absurd h (by omega)), K2⟩
      case round =>
        clear K2
        obtain ⟨k, hkg, rfl, HY, HK⟩ := hrel
        cases gk with
        | zero =>
          obtain ⟨j, y, hj, hc⟩ := HX.out
          have := HY.out j y (by have := (List.getElem?_eq_some_iff.1 hj).1; omega) hj
          rw [this] at hc; cases hc
        | succ g =>
          obtain ⟨n, d, m, c, hx⟩ := lfAt (l := l) (k := k) (by omega)
          have hne : l ≠ [] := by intro h0; rw [h0] at hx; simp at hx
          obtain ⟨b', off', hAe, hbb, hcells⟩ := row_at HR.out hne
          obtain ⟨rfl, rfl⟩ : b0 = b' ∧ off = off' := by simpa using hAe
          obtain ⟨x0, x1, x2, x3⟩ := (hcells k n d m c hx).next HK.out.B hbb
          have hbw : b0 < wr.heap.size := Nat.lt_of_lt_of_le hbb HK.out.B.size
          have HCx := Lib.hid (fun w => specCrossA n d m c p1 p2 p3 p4 w (allLf_at HOk.out hx) HP.out)
          have HX2 := Lib.hid hx
          have hlt : (k : Int) < (l.length : Int) := by omega
          have hltN : k < l.length := by omega
          obtain ⟨t, ht⟩ : ∃ t, crossX (p1, p2, p3, p4) (n, d, m, c) = t := ⟨_, rfl⟩
          rw [ht] at HCx
          have HT := Lib.hid ht
          clear hcells hne hx ht hbb hAe
          obtain ⟨_, z1, c0, c1, c2, c3⟩ := id HK.out
          go_wp2_with fail
          go_still_tail 5, (by kernel_rfl)
          change wpList _ _ _ _ _ wr.drew
          have KD : BoxL w wr.drew p1 p2 p3 p4 := HK.out.on (Below.refl _ _).drew
          have x0' : wr.drew.cell? ⟨b0, off + k * 4, none⟩ = some (.int .i64 n) := x0
          have x1' : wr.drew.cell? ⟨b0, off + k * 4 + 1, none⟩ = some (.int .i64 d) := x1
          have x2' : wr.drew.cell? ⟨b0, off + k * 4 + 2, none⟩ = some (.int .i64 m) := x2
          have x3' : wr.drew.cell? ⟨b0, off + k * 4 + 3, none⟩ = some (.int .i64 c) := x3
          have hbw' : b0 < wr.drew.heap.size := hbw
          clear x0 x1 x2 x3 hbw HK z1 c0 c1 c2 c3
          generalize wr.drew = wd at *
          obtain ⟨_, z1, c0, c1, c2, c3⟩ := id KD
          go_wp2_with fail
          refine (HCx.out _).mono ?_
          rintro e w3 ⟨rfl, hb3⟩
          have K3 := Lib.hid (KD.on hb3)
          clear hb3 KD z1 c0 c1 c2 c3 x0' x1' x2' x3' hbw'
          cases t
          · go_wp2
            go_roundg g
            case measure => omega
            case rel =>
              refine ⟨k + 1, by omega, by go_num, Lib.hid (fun j y hj hy => ?_), K3⟩
              by_cases hjk : j = k
              · subst hjk
                have p := HX2.out
                rw [p] at hy
                injection hy with hy
                rw [← hy]; exact HT.out
              · exact HY.out j y (by omega) hy
          · go_wp2
            go_ret2
            exact ⟨none, 0, rfl, lfOwn_nil, K3.out.B⟩
    · have HFin : Hid ((200 < (insL l (p1, p2, p3, p4)).length ∧ R = [] ∧ C = 3) ∨ ((insL l (p1, p2, p3, p4)).length ≤ 200 ∧ R = insL l (p1, p2, p3, p4) ∧ C = 0)) := Lib.hid (by
        rcases h with ⟨h1, _⟩ | ⟨_, h2, h3, h4⟩ | ⟨_, _, h3, _⟩ | ⟨_, h2, _, h4, h5, h6⟩ | ⟨_, h2, _, h4, h5, h6⟩
        · exact absurd ⟨hg, hp⟩ h1
        · exact .inr ⟨by rw [insL_old h2]; exact hlen, by rw [insL_old h2]; exact h3, h4⟩
        · exact absurd h3 hcr
        · exact .inl ⟨by rw [insL_len h2]; omega, h5, h6⟩
        · exact .inr ⟨by rw [insL_len h2]; omega, h5, h6⟩)
      have HN : Hid (∀ (j : Nat) (y : Lf4), l[j]? = some y → crossX (p1, p2, p3, p4) y = false) := Lib.hid (fun j y hj => by
        cases hq : crossX (p1, p2, p3, p4) y
        · rfl
        · exact absurd ⟨j, y, hj, hq⟩ hcr)
      clear h hr hg hp hcr
      go_enter Try.func40, Try.ntmps40
      go_wp2_with fail
      have K0 := BoxL.start w p1 p2 p3 p4
      refine (HLam.out _ K0.B).mono ?_
      rintro e w1 ⟨⟨r, rfl, HRr⟩, hb1⟩
      have K1 := K0.on hb1
      clear hb1
      obtain rfl : r = true := HRr.out.2 HG.out
      clear HRr
      obtain ⟨B1, z1, c0, c1, c2, c3⟩ := id K1
      go_wp2_with fail
      refine (HLf.out _).mono ?_
      rintro e w2 ⟨rfl, hb2⟩
      have K2 := Lib.hid (K1.on hb2)
      clear hb2 B1 z1 c0 c1 c2 c3 K1 K0
      go_wp2_with fail
      go_loopg [6] l.length (fun g s6 wx => ∃ k : Nat, k + g = l.length ∧ s6 = .int .i64 k ∧ Hid (∀ (j : Nat) (y : Lf4), j < k → l[j]? = some y → crossX (p1, p2, p3, p4) y = false) ∧ Hid (BoxL w wx p1 p2 p3 p4))
      case atStart => exact ⟨0, by omega, rfl, Lib.hid (fun j y h => absurd h (by omega)), K2⟩
      case round =>
        clear K2
        obtain ⟨k, hkg, rfl, HY, HK⟩ := hrel
        cases gk with
        | zero =>
          obtain rfl : k = l.length := by omega
          have hlt : ¬ ((l.length : Int) < (l.length : Int)) := by omega
          have KD : BoxL w wr.drew p1 p2 p3 p4 := HK.out.on (Below.refl _ _).drew
          have HNw := Lib.hid (news_of_row4 (HR.out.below (belowAlloc KD.B (.cells #[] 31))) rfl)
          obtain ⟨_, z1, c0, c1, c2, c3⟩ := id KD
          clear HK hkg hlt
          go_wp2_with fail
          refine wp_region_any (by kernel_rfl) ?_
          try (change wpAny _ _ _ _ _ _ _ (World.drew _))
          generalize wr.drew = wd at *
          refine wpAny_take (i := 1) (v := ?_) rfl (by kernel_rfl) (by kernel_rfl) (by kernel_rfl) (fun _ _ _ h => h) (Or.inl ⟨by kernel_rfl, ?_⟩) ?_
          rotate_left
          · intro w; first | (go_simp; done) | (go_simp; with_reducible rfl)
          refine wpAny_ready (rs := [0, 3]) (by kernel_rfl) (by simp) ?_
          refine AllReady.cons rfl (fun K hK => ?_) (AllReady.cons rfl (fun K hK => ?_) (AllReady.nil))
          · go_simp
            refine hK _ _ ?_
            clear hK K
            have K5 := KD.on (belowAlloc (Below.refl _ _) (.cells #[] 31))
            obtain ⟨_, z5, a0, a1, a2, a3⟩ := id K5
            refine wpAny_ready (rs := [2, 3]) (by kernel_rfl) (by simp) ?_
            refine AllReady.cons rfl (fun K hK => ?_) (AllReady.cons rfl (fun K hK => ?_) (AllReady.nil))
            · refine step_append_nnL _ rfl (.tmp 28) (.tmp 29) 26 rfl wd.heap.size 31 i0 (.agg #[.int .i64 0, .int .i64 0, .int .i64 0, .int .i64 0]) 4 32 Try.underlying26 hi hz0 hz1 hz2 rfl (by decide) (.slice (some ⟨wd.heap.size, 0, none⟩) 0 0) 0 [] rfl ⟨rfl, .inr ⟨wd.heap.size, 0, #[], rfl, Nat.le_refl _, heap_alloc_new wd (.cells #[] 31), by omega, by unfold maxLen; omega, rfl, rfl⟩⟩ ⟨b0, off, none⟩ l.length cap (flatL l) rfl (flatL_len _) HNw.out (flatL_one _) ?r4 ?r5 ?r6 ?_
              case r4 => unfold maxLen; omega
              case r5 => omega
              case r6 => simp
              intro v9 w9 hown9 hgrow9 hnn
              refine hK _ _ ?_
              clear hK K
              rw [Nat.zero_add, List.nil_append] at hown9
              obtain ⟨A9, cA, rfl⟩ := ownSliceL hown9
              obtain ⟨b9, rfl⟩ : ∃ b9, A9 = some ⟨b9, 0, none⟩ := by
                rcases hown9.2 with ⟨h1, _⟩ | ⟨b9, c2, cur, h1, _⟩
                · exact absurd (hnn.1 h1).1 (by simp)
                · injection h1 with h1; exact ⟨b9, h1⟩
              have hb9 : Below wd.heap.size wd w9 := (belowAlloc (Below.refl _ wd) (.cells #[] 31)).grown hgrow9 (by simp) (fun j hj => by simp [Value.ownBlock] at hj; omega)
              have K9 := KD.on hb9
              have HO9 := Lib.hid hown9
              have s9 := hb9.size
              clear hown9 hgrow9 hnn hb9
              obtain ⟨_, z9, a0, a1, a2, a3⟩ := id K9
              refine wpAny_ready (rs := [3]) (by kernel_rfl) (by simp) ?_
              refine AllReady.cons rfl (fun K hK => ?_) (AllReady.nil)
              go_simp
              refine hK _ _ ?_
              clear hK K
              refine wpAny_ready (rs := [4]) (by kernel_rfl) (by simp) ?_
              refine AllReady.cons rfl (fun K hK => ?_) (AllReady.nil)
              go_simp
              go_wp2_with (go_at_call 96; (with_reducible refine (specInsert wd.heap.size b9 cA l p1 p2 p3 p4 w9 s9 HOk.out HP.out (by omega) HO9.out).mono ?_); rintro e w10 ⟨b3, c3, rfl, ho10, hb10⟩)
              refine wpAny_take (i := 5) (v := ?_) rfl (by kernel_rfl) (by kernel_rfl) (by kernel_rfl) (fun _ _ _ h => h) (Or.inl ⟨by kernel_rfl, ?_⟩) ?_
              rotate_left
              · intro w; first | (go_simp; done) | (go_simp; with_reducible rfl)
              refine wpAny_done (by kernel_rfl) ?_ _
              have HO10 := Lib.hid (ownL_of rfl (ownMonoL ho10 KD.B.size))
              have HB10 := Lib.hid (K9.on hb10).B
              clear ho10 hb10 HO9
              rcases HFin.out with ⟨h200, rfl, rfl⟩ | ⟨h200, rfl, rfl⟩
              · have h2 : ((insL l (p1, p2, p3, p4)).length : Int) > 200 := by omega
                generalize (insL l (p1, p2, p3, p4)).length = L at *
                clear HO10
                go_wp2
                go_ret2
                exact ⟨none, 0, rfl, lfOwn_nil, HB10.out⟩
              · have h2 : ¬ (((insL l (p1, p2, p3, p4)).length : Int) > 200) := by omega
                generalize insL l (p1, p2, p3, p4) = R at *
                go_wp2
                go_ret2
                exact ⟨_, c3, rfl, HO10.out, HB10.out⟩
            · go_simp
              refine hK _ _ ?_
              clear hK K
              refine wpAny_ready (rs := [2]) (by kernel_rfl) (by simp) ?_
              refine AllReady.cons rfl (fun K hK => ?_) (AllReady.nil)
              refine step_append_nnL _ rfl (.tmp 28) (.tmp 29) 26 rfl wd.heap.size 31 i0 (.agg #[.int .i64 0, .int .i64 0, .int .i64 0, .int .i64 0]) 4 32 Try.underlying26 hi hz0 hz1 hz2 rfl (by decide) (.slice (some ⟨wd.heap.size, 0, none⟩) 0 0) 0 [] rfl ⟨rfl, .inr ⟨wd.heap.size, 0, #[], rfl, Nat.le_refl _, heap_alloc_new wd (.cells #[] 31), by omega, by unfold maxLen; omega, rfl, rfl⟩⟩ ⟨b0, off, none⟩ l.length cap (flatL l) rfl (flatL_len _) HNw.out (flatL_one _) ?r4 ?r5 ?r6 ?_
              case r4 => unfold maxLen; omega
              case r5 => omega
              case r6 => simp
              intro v9 w9 hown9 hgrow9 hnn
              refine hK _ _ ?_
              clear hK K
              rw [Nat.zero_add, List.nil_append] at hown9
              obtain ⟨A9, cA, rfl⟩ := ownSliceL hown9
              obtain ⟨b9, rfl⟩ : ∃ b9, A9 = some ⟨b9, 0, none⟩ := by
                rcases hown9.2 with ⟨h1, _⟩ | ⟨b9, c2, cur, h1, _⟩
                · exact absurd (hnn.1 h1).1 (by simp)
                · injection h1 with h1; exact ⟨b9, h1⟩
              have hb9 : Below wd.heap.size wd w9 := (belowAlloc (Below.refl _ wd) (.cells #[] 31)).grown hgrow9 (by simp) (fun j hj => by simp [Value.ownBlock] at hj; omega)
              have K9 := KD.on hb9
              have HO9 := Lib.hid hown9
              have s9 := hb9.size
              clear hown9 hgrow9 hnn hb9
              refine wpAny_ready (rs := [4]) (by kernel_rfl) (by simp) ?_
              refine AllReady.cons rfl (fun K hK => ?_) (AllReady.nil)
              go_simp
              go_wp2_with (go_at_call 96; (with_reducible refine (specInsert wd.heap.size b9 cA l p1 p2 p3 p4 w9 s9 HOk.out HP.out (by omega) HO9.out).mono ?_); rintro e w10 ⟨b3, c3, rfl, ho10, hb10⟩)
              refine wpAny_take (i := 5) (v := ?_) rfl (by kernel_rfl) (by kernel_rfl) (by kernel_rfl) (fun _ _ _ h => h) (Or.inl ⟨by kernel_rfl, ?_⟩) ?_
              rotate_left
              · intro w; first | (go_simp; done) | (go_simp; with_reducible rfl)
              refine wpAny_done (by kernel_rfl) ?_ _
              have HO10 := Lib.hid (ownL_of rfl (ownMonoL ho10 KD.B.size))
              have HB10 := Lib.hid (K9.on hb10).B
              clear ho10 hb10 HO9
              rcases HFin.out with ⟨h200, rfl, rfl⟩ | ⟨h200, rfl, rfl⟩
              · have h2 : ((insL l (p1, p2, p3, p4)).length : Int) > 200 := by omega
                generalize (insL l (p1, p2, p3, p4)).length = L at *
                clear HO10
                go_wp2
                go_ret2
                exact ⟨none, 0, rfl, lfOwn_nil, HB10.out⟩
              · have h2 : ¬ (((insL l (p1, p2, p3, p4)).length : Int) > 200) := by omega
                generalize insL l (p1, p2, p3, p4) = R at *
                go_wp2
                go_ret2
                exact ⟨_, c3, rfl, HO10.out, HB10.out⟩
          · go_simp
            refine hK _ _ ?_
            clear hK K
            refine wpAny_ready (rs := [0]) (by kernel_rfl) (by simp) ?_
            refine AllReady.cons rfl (fun K hK => ?_) (AllReady.nil)
            go_simp
            refine hK _ _ ?_
            clear hK K
            refine wpAny_ready (rs := [2]) (by kernel_rfl) (by simp) ?_
            refine AllReady.cons rfl (fun K hK => ?_) (AllReady.nil)
            refine step_append_nnL _ rfl (.tmp 28) (.tmp 29) 26 rfl wd.heap.size 31 i0 (.agg #[.int .i64 0, .int .i64 0, .int .i64 0, .int .i64 0]) 4 32 Try.underlying26 hi hz0 hz1 hz2 rfl (by decide) (.slice (some ⟨wd.heap.size, 0, none⟩) 0 0) 0 [] rfl ⟨rfl, .inr ⟨wd.heap.size, 0, #[], rfl, Nat.le_refl _, heap_alloc_new wd (.cells #[] 31), by omega, by unfold maxLen; omega, rfl, rfl⟩⟩ ⟨b0, off, none⟩ l.length cap (flatL l) rfl (flatL_len _) HNw.out (flatL_one _) ?r4 ?r5 ?r6 ?_
            case r4 => unfold maxLen; omega
            case r5 => omega
            case r6 => simp
            intro v9 w9 hown9 hgrow9 hnn
            refine hK _ _ ?_
            clear hK K
            rw [Nat.zero_add, List.nil_append] at hown9
            obtain ⟨A9, cA, rfl⟩ := ownSliceL hown9
            obtain ⟨b9, rfl⟩ : ∃ b9, A9 = some ⟨b9, 0, none⟩ := by
              rcases hown9.2 with ⟨h1, _⟩ | ⟨b9, c2, cur, h1, _⟩
              · exact absurd (hnn.1 h1).1 (by simp)
              · injection h1 with h1; exact ⟨b9, h1⟩
            have hb9 : Below wd.heap.size wd w9 := (belowAlloc (Below.refl _ wd) (.cells #[] 31)).grown hgrow9 (by simp) (fun j hj => by simp [Value.ownBlock] at hj; omega)
            have K9 := KD.on hb9
            have HO9 := Lib.hid hown9
            have s9 := hb9.size
            clear hown9 hgrow9 hnn hb9
            refine wpAny_ready (rs := [4]) (by kernel_rfl) (by simp) ?_
            refine AllReady.cons rfl (fun K hK => ?_) (AllReady.nil)
            go_simp
            go_wp2_with (go_at_call 96; (with_reducible refine (specInsert wd.heap.size b9 cA l p1 p2 p3 p4 w9 s9 HOk.out HP.out (by omega) HO9.out).mono ?_); rintro e w10 ⟨b3, c3, rfl, ho10, hb10⟩)
            refine wpAny_take (i := 5) (v := ?_) rfl (by kernel_rfl) (by kernel_rfl) (by kernel_rfl) (fun _ _ _ h => h) (Or.inl ⟨by kernel_rfl, ?_⟩) ?_
            rotate_left
            · intro w; first | (go_simp; done) | (go_simp; with_reducible rfl)
            refine wpAny_done (by kernel_rfl) ?_ _
            have HO10 := Lib.hid (ownL_of rfl (ownMonoL ho10 KD.B.size))
            have HB10 := Lib.hid (K9.on hb10).B
            clear ho10 hb10 HO9
            rcases HFin.out with ⟨h200, rfl, rfl⟩ | ⟨h200, rfl, rfl⟩
            · have h2 : ((insL l (p1, p2, p3, p4)).length : Int) > 200 := by omega
              generalize (insL l (p1, p2, p3, p4)).length = L at *
              clear HO10
              go_wp2
              go_ret2
              exact ⟨none, 0, rfl, lfOwn_nil, HB10.out⟩
            · have h2 : ¬ (((insL l (p1, p2, p3, p4)).length : Int) > 200) := by omega
              generalize insL l (p1, p2, p3, p4) = R at *
              go_wp2
              go_ret2
              exact ⟨_, c3, rfl, HO10.out, HB10.out⟩
        | succ g =>
          obtain ⟨n, d, m, c, hx⟩ := lfAt (l := l) (k := k) (by omega)
          have hne : l ≠ [] := by intro h0; rw [h0] at hx; simp at hx
          obtain ⟨b', off', hAe, hbb, hcells⟩ := row_at HR.out hne
          obtain ⟨rfl, rfl⟩ : b0 = b' ∧ off = off' := by simpa using hAe
          obtain ⟨x0, x1, x2, x3⟩ := (hcells k n d m c hx).next HK.out.B hbb
          have hbw : b0 < wr.heap.size := Nat.lt_of_lt_of_le hbb HK.out.B.size
          have HCx := Lib.hid (fun w => specCrossA n d m c p1 p2 p3 p4 w (allLf_at HOk.out hx) HP.out)
          have HX2 := Lib.hid hx
          have hlt : (k : Int) < (l.length : Int) := by omega
          have hltN : k < l.length := by omega
          rw [HN.out k _ hx] at HCx
          clear hcells hne hx hbb hAe
          obtain ⟨_, z1, c0, c1, c2, c3⟩ := id HK.out
          go_wp2_with fail
          go_still_tail 5, (by kernel_rfl)
          change wpList _ _ _ _ _ wr.drew
          have KD : BoxL w wr.drew p1 p2 p3 p4 := HK.out.on (Below.refl _ _).drew
          have x0' : wr.drew.cell? ⟨b0, off + k * 4, none⟩ = some (.int .i64 n) := x0
          have x1' : wr.drew.cell? ⟨b0, off + k * 4 + 1, none⟩ = some (.int .i64 d) := x1
          have x2' : wr.drew.cell? ⟨b0, off + k * 4 + 2, none⟩ = some (.int .i64 m) := x2
          have x3' : wr.drew.cell? ⟨b0, off + k * 4 + 3, none⟩ = some (.int .i64 c) := x3
          have hbw' : b0 < wr.drew.heap.size := hbw
          clear x0 x1 x2 x3 hbw HK z1 c0 c1 c2 c3
          generalize wr.drew = wd at *
          obtain ⟨_, z1, c0, c1, c2, c3⟩ := id KD
          go_wp2_with fail
          refine (HCx.out _).mono ?_
          rintro e w3 ⟨rfl, hb3⟩
          have K3 := Lib.hid (KD.on hb3)
          clear hb3 KD z1 c0 c1 c2 c3 x0' x1' x2' x3' hbw'
          go_wp2
          go_roundg g
          case measure => omega
          case rel => exact ⟨k + 1, by omega, by go_num, Lib.hid (fun j y _ hy => HN.out j y hy), K3⟩
  · have hRC : R = [] ∧ C = 1 := by
      rcases h with ⟨_, h1, h2⟩ | ⟨h1, _⟩ | ⟨h1, _⟩ | ⟨h1, _⟩ | ⟨h1, _⟩
      · exact ⟨h1, h2⟩
      all_goals exact absurd h1 hg
    obtain ⟨rfl, rfl⟩ := hRC
    have HG := Lib.hid hg
    obtain ⟨q, hq⟩ : ∃ q, isLf p1 p2 p3 p4 = q := ⟨_, rfl⟩
    have HQ := Lib.hid hq
    rw [hq] at HLf
    clear h hr hg hq
    go_enter Try.func40, Try.ntmps40
    go_wp2_with fail
    have K0 := BoxL.start w p1 p2 p3 p4
    refine (HLam.out _ K0.B).mono ?_
    rintro e w1 ⟨⟨r, rfl, HRr⟩, hb1⟩
    have K1 := K0.on hb1
    clear hb1
    cases r
    · go_wp2
      go_ret2
      exact ⟨none, 0, rfl, lfOwn_nil, K1.B⟩
    · obtain rfl : q = false := by
        cases q
        · rfl
        · exact absurd ⟨HRr.out.1 rfl, HQ.out⟩ HG.out
      obtain ⟨B1, z1, c0, c1, c2, c3⟩ := id K1
      go_wp2_with fail
      refine (HLf.out _).mono ?_
      rintro e w2 ⟨rfl, hb2⟩
      have K2 := K1.on hb2
      go_wp2
      go_ret2
      exact ⟨none, 0, rfl, lfOwn_nil, K2.B⟩
end Go.Proofs.Ytkpgfafmaoaefaa

/-
  The characteristic polynomial, plain and as the program finds it.
  The characteristic polynomial: why both ways find the same numbers; as the model finds it.
  PairPolynomial on both sides; its law.
-/
import Derived.Test.YtjomgbjiognmmaaHF
import Derived.Laws.MakeOwn
namespace Go.Proofs.Ytjomgbjiognmmaa
open Go.RowKit

/-- What is to be divided for the coefficient k places below the highest one. -/
def cfS (tr : Nat → Int) (cs : Nat → Int) (k : Nat) : Int := wrap64 (sigN k fun t => cs (k - (t + 1)) * tr (t + 1))
def cfL (tr : Nat → Int) : Nat → List Int
  | 0 => [1]
  | k + 1 => cfL tr k ++ [wrap64 (Int.tdiv (wrap64 (-(cfS tr (fun q => (cfL tr k).getD q 0) (k + 1)))) ((k + 1 : Nat) : Int))]
/-- The coefficient k places below the highest one. -/
def cf (tr : Nat → Int) (k : Nat) : Int := (cfL tr k).getD k 0
theorem cfL_len (tr : Nat → Int) : ∀ k, (cfL tr k).length = k + 1
  | 0 => rfl
  | k + 1 => by simp only [cfL, List.length_append, cfL_len tr k]; rfl
theorem cf_get (tr : Nat → Int) {k : Nat} : ∀ {n : Nat}, k ≤ n → (cfL tr n).getD k 0 = cf tr k
  | 0, h => by obtain rfl : k = 0 := by omega
               rfl
  | n + 1, h => by
    by_cases e : k = n + 1
    · subst e; rfl
    · rw [← cf_get tr (k := k) (n := n) (by omega)]
      simp only [cfL]
      rw [List.getD_eq_getElem?_getD, List.getElem?_append_left (by rw [cfL_len]; omega), ← List.getD_eq_getElem?_getD]
theorem cf_zero (tr : Nat → Int) : cf tr 0 = 1 := rfl
theorem cfS_congr {tr cs ds : Nat → Int} {k : Nat} (h : ∀ q, q < k → cs q = ds q) : cfS tr cs k = cfS tr ds k := by
  unfold cfS
  rw [sigN_eq fun t ht => by rw [h _ (by omega)]]
theorem cf_succ (tr : Nat → Int) (k : Nat) : cf tr (k + 1) = wrap64 (Int.tdiv (wrap64 (-(cfS tr (cf tr) (k + 1)))) ((k + 1 : Nat) : Int)) := by
  have h := cfS_congr (tr := tr) (cs := fun q => (cfL tr k).getD q 0) (ds := cf tr) (k := k + 1) fun q hq => cf_get tr (by omega)
  rw [← h]
  unfold cf
  simp only [cfL]
  rw [List.getD_eq_getElem?_getD, List.getElem?_append_right (by rw [cfL_len]; omega), cfL_len, Nat.sub_self]; rfl
/-- The list of the coefficients when those down to K places below the highest one are found. -/
def chF (r : Nat) (tr : Nat → Int) (K : Nat) : Nat → Int := fun q => if r ≤ q + K then cf tr (r - q) else 0
theorem chF_step {r : Nat} {tr : Nat → Int} {K q : Nat} (hK : K + 1 ≤ r) (hq : q ≤ r) : chF r tr (K + 1) q = if q = r - (K + 1) then cf tr (K + 1) else chF r tr K q := by
  unfold chF
  by_cases h : q = r - (K + 1)
  · rw [if_pos h, if_pos (by omega), show r - q = K + 1 by omega]
  · rw [if_neg h]
    by_cases h2 : r ≤ q + K
    · rw [if_pos h2, if_pos (by omega)]
    · rw [if_neg h2, if_neg (by omega)]
/-- A square table that is read, none of whose blocks is g, in blocks from l0 on. -/
def TabN2 (W : World) (l0 : Nat) (g : Option Nat) (A : Option Addr) (r : Nat) (f : Tab) : Prop :=
  0 < r → ∃ b off, A = some ⟨b, off, none⟩ ∧ b < W.heap.size ∧ (some b ≠ g ∧ l0 ≤ b) ∧ ∀ i, i < r → ∃ bi oi ci, W.cell? ⟨b, off + i, none⟩ = some (.slice (some ⟨bi, oi, none⟩) r ci) ∧ bi < W.heap.size ∧ (some bi ≠ g ∧ l0 ≤ bi) ∧ ∀ j, j < r → W.cell? ⟨bi, oi + j, none⟩ = some (.int .i64 (f i j))
theorem TabN2.rd {W : World} {l0 : Nat} {g : Option Nat} {A : Option Addr} {r : Nat} {f : Tab} (h : TabN2 W l0 g A r f) : TabRd W W.heap.size A r (fun _ => r) f := by
  intro hr
  obtain ⟨b, off, e, h1, _, hc⟩ := h hr
  refine ⟨b, off, e, h1, fun i hi => ?_⟩
  obtain ⟨bi, oi, ci, x, h2, _, h3⟩ := hc i hi
  exact ⟨_, ci, x, fun _ => ⟨bi, oi, rfl, h2, h3⟩⟩
theorem TabN2.next {W W' : World} {l0 : Nat} {g : Option Nat} {A : Option Addr} {r : Nat} {f : Tab} (h : TabN2 W l0 g A r f) (hb : Below W.heap.size W W') : TabN2 W' l0 g A r f := by
  intro hr
  obtain ⟨b, off, e, h1, h1', hc⟩ := h hr
  refine ⟨b, off, e, Nat.lt_of_lt_of_le h1 hb.size, h1', fun i hi => ?_⟩
  obtain ⟨bi, oi, ci, x, h2, h2', h3⟩ := hc i hi
  exact ⟨bi, oi, ci, cellThru hb h1 x, Nat.lt_of_lt_of_le h2 hb.size, h2', fun j hj => cellThru hb h2 (h3 j hj)⟩
theorem TabN2.turn {W W2 : World} {l0 : Nat} {g g' : Option Nat} {A : Option Addr} {r : Nat} {f : Tab} (h : TabN2 W l0 g A r f) (hg : W.grownBy W2 g) (hv : g' = g ∨ ∃ b, g' = some b ∧ W.heap.size ≤ b) : TabN2 W2 l0 g' A r f := by
  have ne : ∀ c, c < W.heap.size → some c ≠ g → some c ≠ g' := by
    intro c hc h1 h2
    rcases hv with e | ⟨b', e, hb'⟩
    · rw [e] at h2; exact h1 h2
    · rw [e] at h2; have := Option.some.inj h2; omega
  intro hr
  obtain ⟨b, off, e, h1, h1', hc⟩ := h hr
  refine ⟨b, off, e, Nat.lt_of_lt_of_le h1 hg.size, ⟨ne b h1 h1'.1, h1'.2⟩, fun i hi => ?_⟩
  obtain ⟨bi, oi, ci, x, h2, h2', h3⟩ := hc i hi
  exact ⟨bi, oi, ci, (World.cell?_of_block (a := ⟨b, off + i, none⟩) (hg.block b h1 h1'.1)).trans x, Nat.lt_of_lt_of_le h2 hg.size, ⟨ne bi h2 h2'.1, h2'.2⟩, fun j hj => (World.cell?_of_block (a := ⟨bi, oi + j, none⟩) (hg.block bi h2 h2'.1)).trans (h3 j hj)⟩
theorem TabOwn.n2 {W : World} {lo : Nat} (l0 : Nat) {g : Option Nat} {A : Option Addr} {r : Nat} {f : Tab} (h : TabOwn W lo A r (fun _ => r) f) (hg : ∀ b, g = some b → b < lo) (hl : l0 ≤ lo) : TabN2 W l0 g A r f := by
  intro hr
  obtain ⟨b, off, bb, oo, e, H⟩ := h hr
  refine ⟨b, off, e, H.gz, ⟨fun e => by have := hg b e.symm; have := H.glo; omega, Nat.le_trans hl H.glo⟩, fun i hi => ?_⟩
  obtain ⟨Ai, ci, x, hA⟩ := H.head i hi
  obtain ⟨h1, h2, _⟩ := H.row i hi hr
  rw [hA hr] at x
  exact ⟨bb i, oo i, ci, x, h2, ⟨fun e => by have := hg _ e.symm; omega, Nat.le_trans hl h1⟩, fun j hj => (H.cell i j hi hj).1⟩
/-- A list of n square tables in blocks from l0 on. -/
structure MatsA2 (W : World) (l0 lo : Nat) (v : Value) (n r : Nat) (f : Nat → Tab) (xs : List Value) : Prop where
  own : W.ownsRow lo 59 1 v n xs
  got : ∀ i, i < n → ∃ A c, xs[i]? = some (.slice A r c) ∧ TabN2 W l0 v.ownBlock A r (f i)
theorem MatsA2.next {W W' : World} {l0 lo : Nat} {v : Value} {n r : Nat} {f : Nat → Tab} {xs : List Value} (h : MatsA2 W l0 lo v n r f xs) (hb : Below W.heap.size W W') : MatsA2 W' l0 lo v n r f xs :=
  ⟨ownNext8 h.own hb, fun i hi => by obtain ⟨A, c, h1, h2⟩ := h.got i hi; exact ⟨A, c, h1, h2.next hb⟩⟩
theorem MatsA2.push {W W2 : World} {l0 lo : Nat} {v v' : Value} {n r : Nat} {f : Nat → Tab} {xs : List Value} (h : MatsA2 W l0 lo v n r f xs) {A : Option Addr} {c : Nat} (hA : TabN2 W l0 v.ownBlock A r (f n))
    (hown : W2.ownsRow lo 59 1 v' (n + 1) (xs ++ [.slice A r c])) (hg : W.grownBy W2 v.ownBlock) (hv : v'.ownBlock = v.ownBlock ∨ ∃ b, v'.ownBlock = some b ∧ W.heap.size ≤ b) : MatsA2 W2 l0 lo v' (n + 1) r f (xs ++ [.slice A r c]) := by
  have hl : xs.length = n := by have := h.own.1; omega
  refine ⟨hown, fun i hi => ?_⟩
  by_cases e : i < n
  · obtain ⟨B, d, h1, h2⟩ := h.got i e
    exact ⟨B, d, by rw [List.getElem?_append_left (by omega)]; exact h1, h2.turn hg hv⟩
  · obtain rfl : i = n := by omega
    exact ⟨A, c, by rw [List.getElem?_append_right (by omega), hl, Nat.sub_self]; rfl, hA.turn hg hv⟩

set_option maxRecDepth 8000 in
set_option maxHeartbeats 4000000 in
theorem implPow3 (l0 : Nat) (F : Option Addr) (r cF K : Nat) (A : Option Addr) (cap : Nat) (a : Tab) (w : World) (hF : TabOwn w l0 F r (fun _ => r) (unitF 1)) (hl0 : l0 ≤ w.heap.size) (ha : TabRd w w.heap.size A r (fun _ => r) a) (hm : r ≤ 21) (hK : K ≤ 1000) :
    Calls Try.prog 91 #[.slice F r cF, .int .i64 K, .func (Fn.func 93) #[.slice A r cap] #[]] w fun e w' => ∃ A' c' xs, e = .returned (.slice A' (K + 1) c') ∧ Hid (MatsA2 w' l0 w.heap.size (.slice A' (K + 1) c') (K + 1) r (powF r a) xs) ∧ Below w.heap.size w w' := by
  have hcf : ∀ args W, (callFunc 93 args).run Try.prog W = .ok (.enter 93 args) W := by intro args W; kernel_rfl
  obtain ⟨i0, hi, hz0, hz1, hz2⟩ := infoMa_parts
  have HI := Lib.hid hi
  have HZ0 := Lib.hid hz0
  have HA := Lib.hid ha
  have HF := Lib.hid hF
  clear hi hz0 ha hF
  go_enter Try.func91, Try.ntmps91
  go_wp2
  go_loopg [7, 11] K (fun g s7 ix wr => ∃ (k n : Nat) (v : Value), k + g = K ∧ n = k + 1 ∧ ix = .int .i64 k ∧ s7 = v ∧ Hid (∃ xs, MatsA2 wr l0 w.heap.size v n r (powF r a) xs) ∧ Hid (Below w.heap.size w wr))
  case atStart =>
    refine ⟨0, 1, _, by omega, rfl, rfl, rfl, Lib.hid ⟨[.slice F r cF], World.ownsRow_lit w #[.slice F r cF] 1 (Nat.le_refl _) (by decide) rfl, fun i hi => ?_⟩, Lib.hid (belowAlloc (Below.refl _ _) _)⟩
    obtain rfl : i = 0 := by omega
    refine ⟨F, cF, rfl, ?_⟩
    have h : TabN2 w l0 (some w.heap.size) F r (unitF 1) := by
      intro hr
      obtain ⟨b, off, bb, oo, e, H⟩ := HF.out hr
      refine ⟨b, off, e, H.gz, ⟨fun e => by have := Option.some.inj e; have := H.gz; omega, H.glo⟩, fun i hi => ?_⟩
      obtain ⟨Ai, ci, x, hA⟩ := H.head i hi
      obtain ⟨h3, h2, _⟩ := H.row i hi hr
      rw [hA hr] at x
      exact ⟨bb i, oo i, ci, x, h2, ⟨fun e => by have := Option.some.inj e; omega, h3⟩, fun j hj => (H.cell i j hi hj).1⟩
    exact h.next (belowAlloc (Below.refl _ _) _)
  case round =>
    obtain ⟨k, n, v, hkg, hn, rfl, ev, HR, HB⟩ := hrel
    have ev := ev.symm
    subst ev
    cases gk with
    | zero =>
      obtain rfl : k = K := by omega
      obtain ⟨xs, hR⟩ := HR.out
      obtain ⟨A', c, rfl, _⟩ := ownForm8 hR.own
      subst hn
      have HTb := Lib.hid hR
      have B2 := HB.out
      clear hkg hR HR
      go_wp2
      go_ret
      exact ⟨A', c, xs, rfl, HTb, B2⟩
    | succ g =>
      obtain ⟨xs, hR⟩ := HR.out
      obtain ⟨V, cV, rfl, hcV, hg⟩ := ownForm8 hR.own
      obtain ⟨gV, rfl, hgV, hgz⟩ := hg (by omega)
      obtain ⟨Ak, ck, hxk, hNe⟩ := hR.got k (by omega)
      have x0 : wr.cell? ⟨gV, k, none⟩ = some (.slice Ak r ck) := (hR.own.cellAt k (by omega)).trans hxk
      have HLd := Lib.hid (implLdAll A r cap a Ak ck (powF r a k) wr ((HA.out.below HB.out).more HB.out.size) hNe.rd hm)
      have hw1 : IntKind.i64.wrap ((n : Int) - 1) = (k : Int) := (IntWalk.i64_in _ (by omega)).trans (by omega)
      have hw2 : wrap64 ((n : Int) - 1) = (k : Int) := by unfold wrap64; omega
      have hkn : (k : Int) < (n : Int) := by omega
      have hknN : k < n := by omega
      have hkK : k < K := by omega
      have hkKI : (k : Int) < (K : Int) := by omega
      have hn1 : n ≤ 1001 := by omega
      have HRo := Lib.hid hR
      have HNk := Lib.hid hn
      have HKG := Lib.hid hkg
      clear hg hxk hNe hR hkg hn hcV HR
      go_wp2_with fail
      refine HLd.out.mono ?_
      rintro e w2 ⟨Y, cY, rfl, HY, hb2⟩
      have HRo2 := Lib.hid (HRo.out.next hb2)
      have hown := HRo2.out.own
      have hi := HI.out
      have hz0 := HZ0.out
      have hs2 := hb2.size
      have hBs := HB.out.size
      have HBB2 : Hid (Below w.heap.size w w2) := Lib.hid (belowNext HB.out hb2)
      clear x0 hw1 hw2 hb2 HRo
      go_wp2_with (at_builtin; refine wpList_append_own_at _ rfl _ _ 93 rfl w.heap.size 59 i0 (.slice none 0 0) 1 24 Try.underlying93 hi hz0 hz1 hz2 rfl (by decide) (.slice (some ⟨gV, 0, none⟩) n cV) n xs rfl (World.ownsRow.alloc hown _) ⟨w2.heap.size, 0, none⟩ 1 1 [.slice Y r cY] rfl rfl (cell_one_new _ _ _) ?c2 ?c3 ?c4 ?c5 ?_)
      case c2 => first | rfl | (intro u hu; simp at hu; subst hu; rfl)
      case c3 => unfold maxLen; omega
      case c4 => omega
      case c5 => first | omega | (simp; omega)
      intro v' w3 hown' hgrow _ hat
      have HE : Hid (∃ xs, MatsA2 w3 l0 w.heap.size v' (n + 1) r (powF r a) xs) := Lib.hid (by
        have hb : Below w2.heap.size w2 (w2.alloc (.cells #[.slice Y r cY] 59)) := belowAlloc (Below.refl _ _) _
        refine ⟨_, (HRo2.out.next hb).push (A := Y) (c := cY) ?_ hown' hgrow (by
          rcases hat with e | e
          · exact .inl e
          · exact .inr ⟨_, e, by simp⟩)⟩
        have h : TabOwn w2 wr.heap.size Y r (fun _ => r) (powF r a n) := by
          have := HY.out
          rw [HNk.out]; exact this
        exact (h.next hb).n2 l0 (fun b e => by simp [Value.ownBlock] at e; omega) (by omega))
      have HB1 : Hid (Below w.heap.size w w3) := Lib.hid (below_grown8 (show Below w.heap.size w (w2.alloc _) from belowAlloc HBB2.out _) hgrow (fun j e => ownBlock8 hown j e) (by simp; omega))
      have hn2 : n + 1 = k + 1 + 1 := by have := HNk.out; omega
      clear hown hown' hgrow hi hz0 HRo2 hat HB HBB2 HY
      go_wp2
      go_roundg g
      case measure => omega
      case rel => exact ⟨k + 1, n + 1, v', by have := HKG.out; omega, hn2, by go_num, rfl, HE, HB1⟩

set_option maxRecDepth 8000 in
set_option maxHeartbeats 2000000 in
theorem implUpT2 (A : Option Addr) (r cap K : Nat) (a : Tab) (w : World) (ha : TabRd w w.heap.size A r (fun _ => r) a) (hm : r ≤ 21) (hK : K ≤ 1000) :
    Calls Try.prog 81 #[.slice A r cap, .int .i64 K] w fun e w' => ∃ A' c' xs, e = .returned (.slice A' (K + 1) c') ∧ Hid (MatsA2 w' w.heap.size w.heap.size (.slice A' (K + 1) c') (K + 1) r (powF r a) xs) ∧ Below w.heap.size w w' := by
  have HU := Lib.hid (fun W => implUnit r hm W)
  have HA := Lib.hid ha
  clear ha
  go_enter Try.func81, Try.ntmps81
  go_wp2_with fail
  refine (HU.out _).mono ?_
  rintro e w1 ⟨F, cF, rfl, hT, hb1⟩
  have HP := Lib.hid (implPow3 w.heap.size F r cF K A cap a w1 hT.out hb1.size ((HA.out.below hb1).more hb1.size) hm hK)
  clear hT
  go_wp2_with fail
  refine HP.out.mono ?_
  rintro e w2 ⟨A', c', xs, rfl, H2, hb2⟩
  have HM : Hid (MatsA2 w2 w.heap.size w.heap.size (.slice A' (K + 1) c') (K + 1) r (powF r a) xs) := Lib.hid ⟨ownLow8 H2.out.own hb1.size, H2.out.got⟩
  clear H2
  go_wp2
  go_ret
  exact ⟨A', c', xs, rfl, HM, belowNext hb1 hb2⟩
set_option maxRecDepth 8000 in
set_option maxHeartbeats 4000000 in
theorem implCha (A : Option Addr) (r cap : Nat) (a : Tab) (w : World) (ha : TabRd w w.heap.size A r (fun _ => r) a) (hm : r ≤ 21) :
    Calls Try.prog 53 #[.slice A r cap] w fun e w' => ∃ Y, e = .returned (.slice Y (r + 1) (r + 1)) ∧ Hid (RowOwn w' w.heap.size Y (r + 1) (chF r (fun i => trF r (powF r a i)) r)) ∧ Below w.heap.size w w' := by
  obtain ⟨tr, htr⟩ : ∃ tr : Nat → Int, (fun i => trF r (powF r a i)) = tr := ⟨_, rfl⟩
  have HTR : Hid (∀ i, trF r (powF r a i) = tr i) := Lib.hid (fun i => by rw [← htr])
  rw [htr]
  clear htr
  have HA := Lib.hid ha
  clear ha
  obtain ⟨i0, hi, hz0, hz1, hz2⟩ := infoI8_parts
  obtain ⟨M, hM⟩ : ∃ M : Nat, r + 1 = M := ⟨_, rfl⟩
  have hwM : IntKind.i64.wrap ((r : Int) + 1) = (M : Int) := (IntWalk.i64_in _ (by omega)).trans (by omega)
  have hrM : r < M := by omega
  have hrMI : (r : Int) < (M : Int) := by omega
  have hM22 : M ≤ 22 := by omega
  rw [hM]
  have HM := Lib.hid hM
  clear hM
  go_enter Try.func53, Try.ntmps53
  go_upto_region 4 with (at_make; refine wpList_make_full _ rfl _ _ 32 rfl w.heap.size 2 i0 (.int .i64 0) 1 Try.underlying32 hi hz0 hz1 .i64 .i64 _ _ M rfl rfl rfl rfl (by rw [hz2]; omega) (by unfold maxLen; omega) (by omega) ?_; intro w2 hown2 hgrow2; have y0 : w2.cell? ⟨w.heap.size, r, none⟩ = some (.int .i64 0) := (hown2.cellAt r (by omega)).trans (made8 M r hrM); have y1 : w2.frozen? ⟨w.heap.size, r, none⟩ = false := hown2.frozenAt _)
  obtain ⟨R, hR⟩ : ∃ R, w.heap.size = R := ⟨_, rfl⟩
  obtain ⟨w3, hw3⟩ : ∃ w3, w2.setCell ⟨R, r, none⟩ (.int .i64 1) = w3 := ⟨_, rfl⟩
  have HS0 : Hid (LdS w R M (chF r tr 0) w3) := Lib.hid (by
    subst hR
    rw [← hw3]
    have hL : LdS w w.heap.size M (fun _ => 0) w2 := ⟨belowGrown8 hgrow2, rfl, fun _ => (World.ownsRow.lt hown2 _ rfl).2, fun q hq => ⟨(hown2.cellAt q (by omega)).trans (made8 M q hq), hown2.frozenAt _⟩⟩
    refine (hL.put hrM 1).congr fun q hq => ?_
    unfold chF
    by_cases e : q = r
    · subst e; rw [if_pos rfl, if_pos (by omega), Nat.sub_self, cf_zero]
    · rw [if_neg e, if_neg (by have := HM.out; omega)])
  rw [hR, hw3]
  have hR0 := Lib.hid hR
  clear hown2 hgrow2 y0 y1 hi hz0 hw3 hwM
  have hU := Lib.hid (implUpT2 A r cap r a w3 ((HA.out.below HS0.out.B).more HS0.out.B.size) hm (by omega))
  go_wp2_with fail
  refine hU.out.mono ?_
  rintro e w4 ⟨A4, c4, xs, rfl, H4', hb4⟩
  have HS4 := Lib.hid (LdS.next HS0.out hb4)
  obtain ⟨V, cV, hV, hcV, hg⟩ := ownForm8 H4'.out.own
  obtain ⟨rfl, rfl⟩ : A4 = V ∧ c4 = cV := by injection hV with a _ b; exact ⟨a, b⟩
  obtain ⟨gV, rfl, hgV, hgz⟩ := hg (by omega)
  have HMs : Hid (∀ W : World, (∀ p : Addr, p.block ≠ R → p.block < w4.heap.size → W.cell? p = w4.cell? p) → w4.heap.size ≤ W.heap.size → ∀ i, i ≤ r → ∃ Ak ck, W.cell? ⟨gV, i, none⟩ = some (.slice Ak r ck) ∧ TabRd W W.heap.size Ak r (fun _ => r) (powF r a i)) := Lib.hid (fun W hW hWs i hi => by
    obtain ⟨Ak, ck, h1, h2⟩ := H4'.out.got i (by omega)
    have hR3 := HS0.out.z (by omega)
    refine ⟨Ak, ck, (hW _ (by show gV ≠ R; omega) hgz).trans ((H4'.out.own.cellAt i (by omega)).trans h1), fun h0 => ?_⟩
    obtain ⟨b, off, e, h3, h4, hc⟩ := h2 h0
    refine ⟨b, off, e, Nat.lt_of_lt_of_le h3 hWs, fun q hq => ?_⟩
    obtain ⟨bi, oi, ci, x, h5, h6, hx⟩ := hc q hq
    exact ⟨_, ci, (hW _ (by show b ≠ R; have := h4.2; omega) h3).trans x, fun _ => ⟨bi, oi, rfl, Nat.lt_of_lt_of_le h5 hWs, fun j hj => (hW _ (by show bi ≠ R; have := h6.2; omega) h5).trans (hx j hj)⟩⟩)
  obtain ⟨Q, hQ⟩ : ∃ Q : Nat, r + 1 = Q := ⟨_, rfl⟩
  rw [hQ]
  have HQ := Lib.hid hQ
  have HgZ := Lib.hid hgz
  have HgV : Hid (R < gV) := Lib.hid (by have := HS0.out.z (by omega); omega)
  clear H4' hV hcV hg hgV hU HS0 hb4 hQ
  go_wp2_with fail
  go_loopg [6, 7, 8] r (fun g s6 _ _ wr => ∃ K k : Nat, K + g = r ∧ k = K + 1 ∧ s6 = .int .i64 k ∧ Hid (LdS w R M (chF r tr K) wr) ∧ Hid ((∀ p : Addr, p.block ≠ R → p.block < w4.heap.size → wr.cell? p = w4.cell? p) ∧ w4.heap.size ≤ wr.heap.size))
  case atStart => exact ⟨0, 1, by omega, rfl, rfl, HS4, Lib.hid ⟨fun _ _ _ => rfl, Nat.le_refl _⟩⟩
  case round =>
    clear HS4
    obtain ⟨K, k, hKg, hk, rfl, HS, HO⟩ := hrel
    cases gk with
    | zero =>
      obtain rfl : K = r := by omega
      have d1 : decide ((k : Int) ≤ (K : Int)) = false := decide_eq_false (by omega)
      have d1n : decide (k ≤ K) = false := decide_eq_false (by omega)
      have HOw : Hid (RowOwn wr w.heap.size (some ⟨R, 0, none⟩) M (chF K tr K)) := Lib.hid HS.out.own
      have B2 := HS.out.B
      clear HS HO hKg hk
      go_wp2
      go_ret
      exact ⟨_, rfl, HOw, B2⟩
    | succ g =>
      have d1 : decide ((k : Int) ≤ (r : Int)) = true := decide_eq_true (by omega)
      have d1n : decide (k ≤ r) = true := decide_eq_true (by omega)
      have hKr : K + 1 ≤ r := by omega
      have hk22 : k ≤ 21 := by omega
      have HK := Lib.hid hk
      have HKG := Lib.hid hKg
      obtain ⟨p0, hp0⟩ : ∃ p0, r - k = p0 := ⟨_, rfl⟩
      have hw1 : IntKind.i64.wrap ((r : Int) - (k : Int)) = (p0 : Int) := (IntWalk.i64_in _ (by omega)).trans (by omega)
      have HP0 := Lib.hid hp0
      have hp022 : p0 ≤ 21 := by omega
      have hp0M : p0 < M := by omega
      have hp0MI : (p0 : Int) < (M : Int) := by omega
      clear hk hKg hp0
      go_wp2_with fail
      go_loopg [7, 8] k (fun g s7 s8 wx => ∃ (t i : Nat) (S : Int), t + g = k ∧ i = t + 1 ∧ s8 = .int .i64 i ∧ s7 = .int .i64 S ∧ Hid (S = wrap64 (sigN t fun t => cf tr (k - (t + 1)) * tr (t + 1))) ∧ Hid (LdS w R M (chF r tr K) wx) ∧ Hid ((∀ p : Addr, p.block ≠ R → p.block < w4.heap.size → wx.cell? p = w4.cell? p) ∧ w4.heap.size ≤ wx.heap.size))
      case atStart => exact ⟨0, 1, 0, by omega, rfl, rfl, rfl, Lib.hid (by simp [sigN, wrap64]), HS, HO⟩
      case round =>
        clear HS HO
        obtain ⟨t, i, S, htg, hit, rfl, rfl, HSm, HS, HO⟩ := hrel
        cases gk with
        | zero =>
          have e1 : t = k := by omega
          have d2 : decide ((i : Int) ≤ (k : Int)) = false := decide_eq_false (by omega)
          have d2n : decide (i ≤ k) = false := decide_eq_false (by omega)
          have HC : Hid (wrap64 (Int.tdiv (wrap64 (-S)) (k : Int)) = cf tr (K + 1)) := Lib.hid (by
            rw [cf_succ, HSm.out, e1, HK.out]; rfl)
          have hk0 : ¬ (k : Int) = 0 := by have := HK.out; omega
          have hk0n : ¬ k = 0 := by have := HK.out; omega
          obtain ⟨y0, y1⟩ := HS.out.cell p0 hp0M
          obtain ⟨ov, hov⟩ : ∃ ov, chF r tr K p0 = ov := ⟨_, rfl⟩
          rw [hov] at y0
          have hRz := HS.out.z (by omega)
          clear htg hit e1 HSm hov
          go_wp2
          go_roundg g
          case measure => omega
          case rel =>
            refine ⟨K + 1, k + 1, by have := HKG.out; omega, by have := HK.out; omega, by go_num, Lib.hid ((HS.out.put hp0M _).congr fun q hq => ?_), Lib.hid ⟨fun p h1 h2 => ?_, by simpa using HO.out.2⟩⟩
            · have hp := HP0.out
              have hk := HK.out
              have hMm := HM.out
              rw [chF_step hKr (by omega)]
              by_cases e : q = p0
              · rw [if_pos e, if_pos (by omega)]; exact HC.out
              · rw [if_neg e, if_neg (by omega)]
            · rw [World.cell?_setCell_other _ _ _ _ (by intro e; subst e; exact h1 rfl)]
              exact HO.out.1 p h1 h2
        | succ gt =>
          have d2 : decide ((i : Int) ≤ (k : Int)) = true := decide_eq_true (by omega)
          have d2n : decide (i ≤ k) = true := decide_eq_true (by omega)
          have htk : t < k := by omega
          obtain ⟨q0, hq0⟩ : ∃ q0, p0 + i = q0 := ⟨_, rfl⟩
          have hw2 : IntKind.i64.wrap ((p0 : Int) + (i : Int)) = (q0 : Int) := (IntWalk.i64_in _ (by omega)).trans (by omega)
          have hpr : p0 + k = r := by have := HP0.out; have := HK.out; omega
          have hq0M : q0 < M := by omega
          have hq0MI : (q0 : Int) < (M : Int) := by omega
          have hiQ : (i : Int) < (Q : Int) := by have := HQ.out; omega
          have hiQn : i < Q := by have := HQ.out; omega
          have hi22 : i ≤ 21 := by omega
          have HTG := Lib.hid htg
          have HIT := Lib.hid hit
          obtain ⟨y0, _⟩ := HS.out.cell q0 hq0M
          have hcv : chF r tr K q0 = cf tr (k - (t + 1)) := by
            unfold chF
            rw [if_pos (by have := HK.out; omega), show r - q0 = k - (t + 1) by omega]
          rw [hcv] at y0
          obtain ⟨Ak, ck, x0, hTb⟩ := HMs.out wr HO.out.1 HO.out.2 i (by omega)
          have HTb := Lib.hid hTb
          have HTr : Hid (∀ W, Below wr.heap.size wr W → Calls Try.prog 60 #[.slice Ak r ck] W fun e w' => e = .returned (.int .i64 (tr i)) ∧ Below W.heap.size W w') := Lib.hid (fun W hB => (implTr Ak r ck (powF r a i) W ((HTb.out.below hB).more hB.size) (by omega)).mono fun e w' h => ⟨by rw [h.1, HTR.out i], by rw [h.2]; exact Below.refl _ _⟩)
          obtain ⟨cv, hcv2⟩ : ∃ cv, cf tr (k - (t + 1)) = cv := ⟨_, rfl⟩
          obtain ⟨tv, htv⟩ : ∃ tv, tr i = tv := ⟨_, rfl⟩
          rw [hcv2] at y0
          rw [htv] at HTr
          have HN : Hid (wrap64 (S + wrap64 (cv * tv)) = wrap64 (sigN (t + 1) fun t => cf tr (k - (t + 1)) * tr (t + 1))) := Lib.hid (by rw [HSm.out, ← hcv2, ← htv, hit]; exact wrap_step2 t fun t => cf tr (k - (t + 1)) * tr (t + 1))
          have S0 : (H4 wr ⟨R, q0, none⟩ ⟨gV, i, none⟩ ⟨gV, i, none⟩ ⟨gV, i, none⟩ (.int .i64 cv) (.slice Ak r ck) (.slice Ak r ck) (.slice Ak r ck)) wr := ⟨Below.refl _ _, HS.out.z (by omega), by have := HO.out.2; have := HgZ.out; show gV < _; omega, by have := HO.out.2; have := HgZ.out; show gV < _; omega, by have := HO.out.2; have := HgZ.out; show gV < _; omega, y0, x0, x0, x0⟩
          clear htg hit hq0 hcv y0 x0 hTb hcv2 htv HSm hpr
          go_wp2_with fail
          refine wp_region_held_drew (S := (H4 wr ⟨R, q0, none⟩ ⟨gV, i, none⟩ ⟨gV, i, none⟩ ⟨gV, i, none⟩ (.int .i64 cv) (.slice Ak r ck) (.slice Ak r ck) (.slice Ak r ck))) (by kernel_rfl) ?_ (fun hHeld => ?_)
          · exact S0.on (Below.refl _ _).drew
          refine wpAnyH_take (i := 0) (v := ?_) rfl (by kernel_rfl) (by kernel_rfl) (by kernel_rfl) (fun _ _ _ h => h) (Or.inl ⟨by kernel_rfl, ?_⟩) hHeld ?_
          rotate_left
          · intro w hSw; obtain ⟨B, z1, z2, z3, z4, x1, x2, x3, x4⟩ := hSw; first | (go_simp; done) | (go_simp; with_reducible rfl)
          refine wpAnyH_take (i := 1) (v := ?_) rfl (by kernel_rfl) (by kernel_rfl) (by kernel_rfl) (fun _ _ _ h => h) (Or.inl ⟨by kernel_rfl, ?_⟩) hHeld ?_
          rotate_left
          · intro w hSw; obtain ⟨B, z1, z2, z3, z4, x1, x2, x3, x4⟩ := hSw; first | (go_simp; done) | (go_simp; with_reducible rfl)
          refine wpAnyH_take (i := 2) (v := ?_) rfl (by kernel_rfl) (by kernel_rfl) (by kernel_rfl) (fun _ _ _ h => h) (Or.inl ⟨by kernel_rfl, ?_⟩) hHeld ?_
          rotate_left
          · intro w hSw; obtain ⟨B, z1, z2, z3, z4, x1, x2, x3, x4⟩ := hSw; first | (go_simp; done) | (go_simp; with_reducible rfl)
          refine wpAnyH_take (i := 3) (v := ?_) rfl (by kernel_rfl) (by kernel_rfl) (by kernel_rfl) (fun _ _ _ h => h) (Or.inl ⟨by kernel_rfl, ?_⟩) hHeld ?_
          rotate_left
          · intro w hSw; obtain ⟨B, z1, z2, z3, z4, x1, x2, x3, x4⟩ := hSw; first | (go_simp; done) | (go_simp; with_reducible rfl)
          refine wpAnyH_take (i := 4) (v := ?_) rfl (by kernel_rfl) (by kernel_rfl) (by kernel_rfl) (fun _ _ _ h => h) (Or.inl ⟨by kernel_rfl, ?_⟩) hHeld ?_
          rotate_left
          · intro w hSw; obtain ⟨B, z1, z2, z3, z4, x1, x2, x3, x4⟩ := hSw; first | (go_simp; done) | (go_simp; with_reducible rfl)
          refine wpAnyH_take (i := 5) (v := ?_) rfl (by kernel_rfl) (by kernel_rfl) (by kernel_rfl) (fun _ _ _ h => h) (Or.inl ⟨by kernel_rfl, ?_⟩) hHeld ?_
          rotate_left
          · intro w hSw; obtain ⟨B, z1, z2, z3, z4, x1, x2, x3, x4⟩ := hSw; first | (go_simp; done) | (go_simp; with_reducible rfl)
          refine wpAnyH_take (i := 6) (v := ?_) rfl (by kernel_rfl) (by kernel_rfl) (by kernel_rfl) (fun _ _ _ h => h) (Or.inl ⟨by kernel_rfl, ?_⟩) hHeld ?_
          rotate_left
          · intro w hSw; obtain ⟨B, z1, z2, z3, z4, x1, x2, x3, x4⟩ := hSw; first | (go_simp; done) | (go_simp; with_reducible rfl)
          refine wpAnyH_take (i := 7) (v := ?_) rfl (by kernel_rfl) (by kernel_rfl) (by kernel_rfl) (fun _ _ _ h => h) (Or.inl ⟨by kernel_rfl, ?_⟩) hHeld ?_
          rotate_left
          · intro w hSw; obtain ⟨B, z1, z2, z3, z4, x1, x2, x3, x4⟩ := hSw; first | (go_simp; done) | (go_simp; with_reducible rfl)
          refine wpAnyH_take (i := 8) (v := ?_) rfl (by kernel_rfl) (by kernel_rfl) (by kernel_rfl) (fun _ _ _ h => h) (Or.inl ⟨by kernel_rfl, ?_⟩) hHeld ?_
          rotate_left
          · intro w hSw; obtain ⟨B, z1, z2, z3, z4, x1, x2, x3, x4⟩ := hSw; first | (go_simp; done) | (go_simp; with_reducible rfl)
          refine wpAnyH_take (i := 9) (v := ?_) rfl (by kernel_rfl) (by kernel_rfl) (by kernel_rfl) (fun _ _ _ h => h) (Or.inl ⟨by kernel_rfl, ?_⟩) hHeld ?_
          rotate_left
          · intro w hSw; obtain ⟨B, z1, z2, z3, z4, x1, x2, x3, x4⟩ := hSw; first | (go_simp; done) | (go_simp; with_reducible rfl)
          refine wpAnyH_take (i := 10) (v := ?_) rfl (by kernel_rfl) (by kernel_rfl) (by kernel_rfl) (fun _ _ _ h => h) (Or.inl ⟨by kernel_rfl, ?_⟩) hHeld ?_
          rotate_left
          · intro w hSw; obtain ⟨B, z1, z2, z3, z4, x1, x2, x3, x4⟩ := hSw; first | (go_simp; done) | (go_simp; with_reducible rfl)
          refine wpAnyH_take (i := 11) (v := ?_) rfl (by kernel_rfl) (by kernel_rfl) (by kernel_rfl) (fun _ _ _ h => h) (Or.inl ⟨by kernel_rfl, ?_⟩) hHeld ?_
          rotate_left
          · intro w hSw; obtain ⟨B, z1, z2, z3, z4, x1, x2, x3, x4⟩ := hSw; first | (go_simp; done) | (go_simp; with_reducible rfl)
          refine wpAnyH_take (i := 12) (v := ?_) rfl (by kernel_rfl) (by kernel_rfl) (by kernel_rfl) (fun _ _ _ h => h) (Or.inl ⟨by kernel_rfl, ?_⟩) hHeld ?_
          rotate_left
          · intro w hSw; obtain ⟨B, z1, z2, z3, z4, x1, x2, x3, x4⟩ := hSw; first | (go_simp; done) | (go_simp; with_reducible rfl)
          refine wpAnyH_ready (rs := [13]) (by kernel_rfl) (by simp) ?_
          refine AllReadyH.cons rfl (fun K hK => ?_) AllReadyH.nil
          go_simp
          go_wp2_with (go_at_call 60; (with_reducible refine (HTr.out _ hHeld.B).mono ?_); rintro e w11 ⟨rfl, hb11⟩)
          have S11 := hHeld.on hb11
          refine hK.out _ _ ?_ (fun hHeld => ?_)
          · exact S11
          clear hK K
          refine wpAnyH_take (i := 14) (v := ?_) rfl (by kernel_rfl) (by kernel_rfl) (by kernel_rfl) (fun _ _ _ h => h) (Or.inl ⟨by kernel_rfl, ?_⟩) hHeld ?_
          rotate_left
          · intro w hSw; obtain ⟨B, z1, z2, z3, z4, x1, x2, x3, x4⟩ := hSw; first | (go_simp; done) | (go_simp; with_reducible rfl)
          refine wpAnyH_take (i := 15) (v := ?_) rfl (by kernel_rfl) (by kernel_rfl) (by kernel_rfl) (fun _ _ _ h => h) (Or.inl ⟨by kernel_rfl, ?_⟩) hHeld ?_
          rotate_left
          · intro w hSw; obtain ⟨B, z1, z2, z3, z4, x1, x2, x3, x4⟩ := hSw; first | (go_simp; done) | (go_simp; with_reducible rfl)
          refine wpAnyH_take (i := 16) (v := ?_) rfl (by kernel_rfl) (by kernel_rfl) (by kernel_rfl) (fun _ _ _ h => h) (Or.inl ⟨by kernel_rfl, ?_⟩) hHeld ?_
          rotate_left
          · intro w hSw; obtain ⟨B, z1, z2, z3, z4, x1, x2, x3, x4⟩ := hSw; first | (go_simp; done) | (go_simp; with_reducible rfl)
          refine wpAnyH_done (by kernel_rfl) ?_ _
          have hb11 : Below wr.heap.size wr w11 := S11.B
          have HS2 := Lib.hid (LdS.next HS.out hb11)
          have HO2 : Hid ((∀ p : Addr, p.block ≠ R → p.block < w4.heap.size → w11.cell? p = w4.cell? p) ∧ w4.heap.size ≤ w11.heap.size) := Lib.hid ⟨fun p h1 h2 => (hb11.cell (p := p) (Nat.lt_of_lt_of_le h2 HO.out.2)).trans (HO.out.1 p h1 h2), Nat.le_trans HO.out.2 hb11.size⟩
          clear S0 S11 hHeld hb11 HS HO HTr HTb
          go_wp2
          go_roundg gt
          case measure => omega
          case rel => exact ⟨t + 1, i + 1, _, by have := HTG.out; omega, by have := HIT.out; omega, by go_num, rfl, HN, HS2, HO2⟩

theorem sumN_mulL8 (c : Int) (f : Nat → Int) (n : Nat) : sigN n (fun i => c * f i) = c * sigN n f := sigN_mulL c f n
/-- The powers, in whole numbers. -/
def pwT (r : Nat) (a : Tab) : Nat → Tab
  | 0 => unitF 1
  | t + 1 => fun i j => sigN r fun q => pwT r a t i q * a q j
theorem pow_cg (r : Nat) (a : Tab) : ∀ (t i j : Nat), Cg (powF r a t i j) (pwT r a t i j)
  | 0, _, _ => Cg.refl _
  | t + 1, i, _ => (Cg.wrap _).trans (sigN_cg fun q _ => (pow_cg r a t i q).mul (Cg.refl _))
theorem unit_left {r : Nat} {a : Tab} {i j : Nat} (hj : j < r) : sigN r (fun q => a i q * unitF 1 q j) = a i j := by
  rw [← sigN_one (a i j) j hj]
  refine sigN_eq fun q _ => ?_
  unfold unitF
  by_cases e : q = j
  · subst e; rw [if_pos rfl, if_pos rfl, Int.mul_one]
  · rw [if_neg e, if_neg e, Int.mul_zero]
theorem unit_right {r : Nat} {a : Tab} {i j : Nat} (hi : i < r) : sigN r (fun q => unitF 1 i q * a q j) = a i j := by
  rw [← sigN_one (a i j) i hi]
  refine sigN_eq fun q _ => ?_
  unfold unitF
  by_cases e : q = i
  · subst e; rw [if_pos rfl, if_pos rfl, Int.one_mul]
  · rw [if_neg (fun x => e x.symm), if_neg e, Int.zero_mul]
theorem pw_left {r : Nat} {a : Tab} : ∀ (t : Nat) {i j : Nat}, i < r → j < r → sigN r (fun q => a i q * pwT r a t q j) = pwT r a (t + 1) i j
  | 0, i, j, hi, hj => by
    show sigN r (fun q => a i q * unitF 1 q j) = sigN r fun q => unitF 1 i q * a q j
    rw [unit_left hj, unit_right hi]
  | t + 1, i, j, hi, hj => by
    show sigN r (fun q => a i q * sigN r fun s => pwT r a t q s * a s j) = sigN r fun s => pwT r a (t + 1) i s * a s j
    have h1 : sigN r (fun q => a i q * sigN r fun s => pwT r a t q s * a s j) = sigN r fun q => sigN r fun s => a i q * pwT r a t q s * a s j := sigN_eq fun q _ => by
      rw [← sumN_mulL8]
      exact sigN_eq fun s _ => by rw [Int.mul_assoc]
    rw [h1, sigN_swap]
    refine sigN_eq fun s hs => ?_
    rw [sigN_mulR, pw_left t hi hs]
/-- The tables of the model. -/
def nowF (r : Nat) (a : Tab) (cs : Nat → Int) : Nat → Tab
  | 0 => unitF 0
  | k + 1 => fun i j => if i = j then wrap64 (mulF r a (nowF r a cs k) i j + cs k) else mulF r a (nowF r a cs k) i j
theorem sigN_shift (f : Nat → Int) : ∀ n, sigN (n + 1) f = f 0 + sigN n fun t => f (t + 1)
  | 0 => by simp [sigN]
  | n + 1 => by
    have h := sigN_shift f n
    simp only [sigN] at h ⊢
    rw [h]; omega
theorem mul_now {r : Nat} {a : Tab} {cs : Nat → Int} {k : Nat} (h : ∀ i j, i < r → j < r → Cg (nowF r a cs k i j) (sigN k fun t => cs (k - 1 - t) * pwT r a t i j)) {i j : Nat} (hi : i < r) (hj : j < r) :
    Cg (mulF r a (nowF r a cs k) i j) (sigN k fun t => cs (k - 1 - t) * pwT r a (t + 1) i j) := by
  refine (Cg.wrap _).trans ((sigN_cg fun q hq => (Cg.refl (a i q)).mul (h q j hq hj)).trans ?_)
  have e : sigN r (fun q => a i q * sigN k fun t => cs (k - 1 - t) * pwT r a t q j) = sigN k fun t => cs (k - 1 - t) * pwT r a (t + 1) i j := by
    have h1 : sigN r (fun q => a i q * sigN k fun t => cs (k - 1 - t) * pwT r a t q j) = sigN r fun q => sigN k fun t => cs (k - 1 - t) * (a i q * pwT r a t q j) := sigN_eq fun q _ => by
      rw [← sumN_mulL8]
      exact sigN_eq fun t _ => by rw [← Int.mul_assoc, Int.mul_comm (a i q), Int.mul_assoc]
    rw [h1, sigN_swap]
    refine sigN_eq fun t _ => ?_
    rw [sigN_mulL, pw_left t hi hj]
  rw [e]
  exact Cg.refl _
theorem now_cg {r : Nat} {a : Tab} {cs : Nat → Int} : ∀ (k i j : Nat), i < r → j < r → Cg (nowF r a cs k i j) (sigN k fun t => cs (k - 1 - t) * pwT r a t i j)
  | 0, i, j, _, _ => by
    show Cg (unitF 0 i j) 0
    unfold unitF
    split <;> exact Cg.refl _
  | k + 1, i, j, hi, hj => by
    have hm := mul_now (a := a) (cs := cs) (fun i j hi hj => now_cg k i j hi hj) hi hj
    have hs : sigN (k + 1) (fun t => cs (k + 1 - 1 - t) * pwT r a t i j) = cs k * pwT r a 0 i j + sigN k fun t => cs (k - 1 - t) * pwT r a (t + 1) i j := by
      rw [sigN_shift]
      show cs k * pwT r a 0 i j + sigN k (fun t => cs (k - (t + 1)) * pwT r a (t + 1) i j) = _
      rw [sigN_eq (g := fun t => cs (k - 1 - t) * pwT r a (t + 1) i j) fun t _ => by rw [show k - (t + 1) = k - 1 - t by omega]]
    rw [hs]
    show Cg (if i = j then wrap64 (mulF r a (nowF r a cs k) i j + cs k) else mulF r a (nowF r a cs k) i j) (cs k * (if i = j then 1 else 0) + sigN k fun t => cs (k - 1 - t) * pwT r a (t + 1) i j)
    by_cases e : i = j
    · rw [if_pos e, if_pos e, Int.mul_one, Int.add_comm (cs k)]
      exact (Cg.wrap _).trans (hm.add (Cg.refl _))
    · rw [if_neg e, if_neg e, Int.mul_zero, Int.zero_add]
      exact hm
/-- Both ways have the same number to divide. -/
theorem tr_now (r : Nat) (a : Tab) (cs : Nat → Int) (k : Nat) : trF r (mulF r a (nowF r a cs (k + 1))) = cfS (fun i => trF r (powF r a i)) cs (k + 1) := by
  unfold trF cfS
  refine Cg.eq ?_
  refine (sigN_cg fun i hi => mul_now (a := a) (cs := cs) (fun i j hi hj => now_cg (k + 1) i j hi hj) hi hi).trans ?_
  rw [sigN_swap]
  refine sigN_cg fun t _ => ?_
  rw [sigN_mulL, show k + 1 - 1 - t = k + 1 - (t + 1) by omega]
  exact (Cg.refl _).mul ((sigN_cg fun i _ => (pow_cg r a (t + 1) i i).symm).trans (Cg.wrap _).symm)

/-- The list of the coefficients that is being filled. -/
structure OutS (w : World) (R M : Nat) (f : Nat → Int) (W : World) : Prop where
  B : Below w.heap.size w W
  lo : w.heap.size ≤ R
  z : R < W.heap.size
  cell : ∀ j, j < M → W.cell? ⟨R, j, none⟩ = some (.int .i64 (f j)) ∧ W.frozen? ⟨R, j, none⟩ = false
theorem OutS.put {w W : World} {R M : Nat} {f : Nat → Int} (H : OutS w R M f W) {j : Nat} (hj : j < M) (v : Int) : OutS w R M (fun q => if q = j then v else f q) (W.setCell ⟨R, j, none⟩ (.int .i64 v)) := by
  refine ⟨H.B.setCell H.lo _, H.lo, by simpa using H.z, fun q hq => ⟨?_, by simpa using (H.cell q hq).2⟩⟩
  by_cases e : q = j
  · subst e; rw [if_pos rfl]; exact World.cell?_setCell_same _ _ _ (H.cell q hq).1
  · rw [if_neg e, World.cell?_setCell_other _ _ _ _ (by intro e2; injection e2; omega)]; exact (H.cell q hq).1
theorem OutS.congr {w W : World} {R M : Nat} {f f' : Nat → Int} (H : OutS w R M f W) (e : ∀ q, q < M → f q = f' q) : OutS w R M f' W := ⟨H.B, H.lo, H.z, fun j hj => by rw [← e j hj]; exact H.cell j hj⟩
theorem OutS.next {w W W1 : World} {R M : Nat} {f : Nat → Int} (H : OutS w R M f W) (hb : Below W.heap.size W W1) : OutS w R M f W1 :=
  ⟨belowNext H.B hb, H.lo, Nat.lt_of_lt_of_le H.z hb.size, fun j hj => ⟨cellThru hb H.z (H.cell j hj).1, frozThru hb H.z (H.cell j hj).2⟩⟩
/-- A cell of a later block was written. -/
theorem OutS.other {w W : World} {R M : Nat} {f : Nat → Int} (H : OutS w R M f W) {b o : Nat} (hb : R < b) (v : Value) : OutS w R M f (W.setCell ⟨b, o, none⟩ v) :=
  ⟨H.B.setCell (by show w.heap.size ≤ b; have := H.lo; omega) _, H.lo, by simpa using H.z, fun j hj => ⟨by rw [World.cell?_setCell_other _ _ _ _ (by intro e2; injection e2; omega)]; exact (H.cell j hj).1, by simpa using (H.cell j hj).2⟩⟩
theorem OutS.own {w W : World} {R M : Nat} {f : Nat → Int} (H : OutS w R M f W) : RowOwn W w.heap.size (some ⟨R, 0, none⟩) M f := fun _ => ⟨R, 0, rfl, H.lo, H.z, fun j hj => by rw [Nat.zero_add]; exact H.cell j hj⟩
/-- A table whose blocks are not R is read after a change of R alone. -/
theorem tab_avoid {W : World} {lo R : Nat} {A : Option Addr} {n : Nat} {ln : Nat → Nat} {f : Tab} (h : TabOwn W lo A n ln f) (hR : R < lo ∨ W.heap.size ≤ R) {W' : World} (hW : ∀ p : Addr, p.block ≠ R → p.block < W.heap.size → W'.cell? p = W.cell? p) (hs : W.heap.size ≤ W'.heap.size) : TabRd W' W'.heap.size A n ln f := by
  intro hn
  obtain ⟨g, off, bb, oo, e, H⟩ := h hn
  have hg := H.glo
  have hgz := H.gz
  refine ⟨g, off, e, Nat.lt_of_lt_of_le hgz hs, fun i hi => ?_⟩
  obtain ⟨Ai, ci, x, hA⟩ := H.head i hi
  refine ⟨Ai, ci, (hW _ (by show g ≠ R; omega) hgz).trans x, fun h0 => ?_⟩
  obtain ⟨h1, h2, _⟩ := H.row i hi h0
  exact ⟨bb i, oo i, hA h0, Nat.lt_of_lt_of_le h2 hs, fun j hj => (hW _ (by show bb i ≠ R; omega) h2).trans (H.cell i j hi hj).1⟩

set_option maxRecDepth 8000 in
set_option maxHeartbeats 8000000 in
theorem specCha (A : Option Addr) (r cap : Nat) (a : Tab) (w : World) (ha : TabRd w w.heap.size A r (fun _ => r) a) (hm : r ≤ 21) :
    Calls Try.prog 48 #[.slice A r cap] w fun e w' => ∃ Y, e = .returned (.slice Y (r + 1) (r + 1)) ∧ Hid (RowOwn w' w.heap.size Y (r + 1) (chF r (fun i => trF r (powF r a i)) r)) ∧ Below w.heap.size w w' := by
  obtain ⟨tr, htr⟩ : ∃ tr : Nat → Int, (fun i => trF r (powF r a i)) = tr := ⟨_, rfl⟩
  obtain ⟨cs, hcs⟩ : ∃ cs : Nat → Int, cf tr = cs := ⟨_, rfl⟩
  have HTN : Hid (∀ K, wrap64 (Int.tdiv (wrap64 (-(trF r (mulF r a (nowF r a cs (K + 1)))))) ((K + 1 : Nat) : Int)) = cs (K + 1)) := Lib.hid (fun K => by
    rw [tr_now, htr, ← hcs]; exact (cf_succ tr K).symm)
  have HCS : Hid (∀ K q, r ≤ q + K → chF r tr K q = cs (r - q)) := Lib.hid (fun K q h => by unfold chF; rw [if_pos h, hcs])
  have HCt : Hid (∀ K q, K + 1 ≤ r → q ≤ r → chF r tr (K + 1) q = if q = r - (K + 1) then cs (K + 1) else chF r tr K q) := Lib.hid (fun K q h h' => by rw [chF_step h h', hcs])
  rw [htr]
  have hc0 : ∀ q, q ≤ r → chF r tr 0 q = if q = r then 1 else 0 := fun q hq => by
    unfold chF
    by_cases e : q = r
    · subst e; rw [if_pos (by omega), if_pos rfl, Nat.sub_self, cf_zero]
    · rw [if_neg (by omega), if_neg e]
  have HC0 := Lib.hid hc0
  clear htr hcs hc0
  have HA := Lib.hid ha
  clear ha
  obtain ⟨i0, hi, hz0, hz1, hz2⟩ := infoI8_parts
  obtain ⟨M, hM⟩ : ∃ M : Nat, r + 1 = M := ⟨_, rfl⟩
  have hwM : IntKind.i64.wrap ((r : Int) + 1) = (M : Int) := (IntWalk.i64_in _ (by omega)).trans (by omega)
  have hrM : r < M := by omega
  have hrMI : (r : Int) < (M : Int) := by omega
  have hM22 : M ≤ 22 := by omega
  rw [hM]
  have HM := Lib.hid hM
  have hmk : ∀ W : World, (Instr.makeSlice 32 (.int .i64 (M : Int)) (.int .i64 (M : Int))).run Try.prog W = .ok (.slice (some ⟨W.heap.size, 0, none⟩) M M) (W.alloc (.cells (madeCells (Value.int .i64 0).cells (M * 1)) 2)) := fun W => by
    have h := run_make (P := Try.prog) (w := W) 32 2 i0 (.int .i64 0) Try.underlying32 hi hz0 .i64 .i64 (M : Int) (M : Int) (by omega) (Int.le_refl _) (by rw [hz2]; omega) (by omega)
    simp only [Int.toNat_natCast, hz1] at h
    exact h
  have hmo : ∀ (W : World), ∀ j, j < M → (W.alloc (.cells (madeCells (Value.int .i64 0).cells (M * 1)) 2)).cell? ⟨W.heap.size, j, none⟩ = some (.int .i64 0) ∧ (W.alloc (.cells (madeCells (Value.int .i64 0).cells (M * 1)) 2)).frozen? ⟨W.heap.size, j, none⟩ = false := fun W j hj => by
    have h := World.ownsRow_lit W (madeCells (Value.int .i64 0).cells (M * 1)) M (e := 2) (size := 1) (Nat.le_refl W.heap.size) (by unfold maxLen; omega) (size_madeCells _ _)
    exact ⟨(h.cellAt j (by omega)).trans (made8 M j hj), h.frozenAt _⟩
  have eM : madeCells (Value.int .i64 0).cells (M * 1) = madeCells #[Value.int .i64 0] M := by simp [Value.cells]
  rw [eM] at hmo
  have HMO := Lib.hid hmo
  clear eM
  have HU := Lib.hid (fun W => specUnit8 r 0 (by omega) W)
  clear hM hmo hi hz0
  go_enter Try.func48, Try.ntmps48
  go_upto_region 2 with fail
  go_cut [4, 5] (fun s4 s5 wy => ∃ (R : Nat) (U : Option Addr) (cU : Nat), s4 = .slice (some ⟨R, 0, none⟩) M M ∧ s5 = .slice U r cU ∧ Hid (OutS w R M (fun _ => 0) wy ∧ ∀ W' : World, (∀ p : Addr, p.block ≠ R → p.block < wy.heap.size → W'.cell? p = wy.cell? p) → wy.heap.size ≤ W'.heap.size → TabRd W' W'.heap.size U r (fun _ => r) (unitF 0)))
  case first =>
    go_region_with (first | (go_at_call 78; (with_reducible refine (HU.out _).mono ?_); rintro e w1 ⟨U, cU, rfl, hT, hb1⟩))
    all_goals
      go_wp2_with fail
      go_meet
      refine ⟨_, _, _, rfl, rfl, Lib.hid ?_⟩
    · have hbA : Below w.heap.size w (w.alloc (.cells (madeCells #[Value.int .i64 0] M) 2)).drew := (belowAlloc (Below.refl _ _) _).drew
      have hzA : w.heap.size < (w.alloc (.cells (madeCells #[Value.int .i64 0] M) 2)).drew.heap.size := by simp
      refine ⟨⟨belowNext hbA hb1, Nat.le_refl _, Nat.lt_of_lt_of_le hzA hb1.size, fun j hj => ?_⟩, fun W' hW hs => tab_avoid hT.out (Or.inl hzA) hW hs⟩
      obtain ⟨h1, h2⟩ := HMO.out w j hj
      exact ⟨(hb1.cell (p := ⟨w.heap.size, j, none⟩) hzA).trans (by simpa using h1), (hb1.frozen (p := ⟨w.heap.size, j, none⟩) hzA).trans (by simp [h2])⟩
    · have hbA : Below w1.heap.size w1 (w1.alloc (.cells (madeCells #[Value.int .i64 0] M) 2)) := belowAlloc (Below.refl _ _) _
      have hb1 : Below w.heap.size w w1 := ((Below.refl w.heap.size w).drew).trans hb1
      refine ⟨⟨belowNext hb1 hbA, hb1.size, by simp, fun j hj => HMO.out w1 j hj⟩, fun W' hW hs => tab_avoid hT.out (Or.inr (Nat.le_refl _)) (fun p h1 h2 => (hW p h1 (Nat.lt_of_lt_of_le h2 hbA.size)).trans (hbA.cell h2)) (Nat.le_trans hbA.size hs)⟩
  case rest =>
    obtain ⟨R, U, cU, rfl, rfl, HC⟩ := hcut
    obtain ⟨y0, y1⟩ := HC.out.1.cell r hrM
    have HS0 : Hid (OutS w R M (chF r tr 0) (wc.setCell ⟨R, r, none⟩ (.int .i64 1)) ∧ TabRd (wc.setCell ⟨R, r, none⟩ (.int .i64 1)) (wc.setCell ⟨R, r, none⟩ (.int .i64 1)).heap.size U r (fun _ => r) (nowF r a cs 0)) := Lib.hid ⟨(HC.out.1.put hrM 1).congr fun q hq => (HC0.out q (by have := HM.out; omega)).symm, HC.out.2 _ (fun p h1 _ => World.cell?_setCell_other _ _ _ _ (by intro e; subst e; exact h1 rfl)) (by simp)⟩
    clear HC HU HC0 hmk HMO hwM
    go_wp2
    go_loopg [5, 6, 7, 8] r (fun g s5 s6 _ _ wr => ∃ (K k : Nat) (B : Option Addr) (c : Nat), K + g = r ∧ k = K + 1 ∧ s6 = .int .i64 k ∧ s5 = .slice B r c ∧ Hid (OutS w R M (chF r tr K) wr ∧ TabRd wr wr.heap.size B r (fun _ => r) (nowF r a cs K)))
    case atStart => exact ⟨0, 1, U, cU, by omega, rfl, rfl, rfl, HS0⟩
    case round =>
      clear HS0 y0 y1
      obtain ⟨K, k, B, c, hKg, hk, rfl, rfl, HS⟩ := hrel
      cases gk with
      | zero =>
        obtain rfl : K = r := by omega
        have d1 : decide ((k : Int) ≤ (K : Int)) = false := decide_eq_false (by omega)
        have d1n : decide (k ≤ K) = false := decide_eq_false (by omega)
        have HOw : Hid (RowOwn wr w.heap.size (some ⟨R, 0, none⟩) M (chF K tr K)) := Lib.hid HS.out.1.own
        have B2 := HS.out.1.B
        clear HS hKg hk
        go_wp2
        go_ret
        exact ⟨_, rfl, HOw, B2⟩
      | succ g =>
        have d1 : decide ((k : Int) ≤ (r : Int)) = true := decide_eq_true (by omega)
        have d1n : decide (k ≤ r) = true := decide_eq_true (by omega)
        have hKr : K + 1 ≤ r := by omega
        have hk22 : k ≤ 21 := by omega
        have hr0 : 0 < r := by omega
        have HK := Lib.hid hk
        have HKG := Lib.hid hKg
        obtain ⟨p0, hp0⟩ : ∃ p0, r - k = p0 := ⟨_, rfl⟩
        obtain ⟨p1, hp1⟩ : ∃ p1, r - K = p1 := ⟨_, rfl⟩
        have hw1 : IntKind.i64.wrap ((r : Int) - (k : Int)) = (p0 : Int) := (IntWalk.i64_in _ (by omega)).trans (by omega)
        have hw2 : IntKind.i64.wrap ((p0 : Int) + 1) = (p1 : Int) := (IntWalk.i64_in _ (by omega)).trans (by omega)
        have HP0 := Lib.hid hp0
        have HP1 := Lib.hid hp1
        have hp0M : p0 < M := by omega
        have hp0MI : (p0 : Int) < (M : Int) := by omega
        have hp1M : p1 < M := by omega
        have hp1MI : (p1 : Int) < (M : Int) := by omega
        have HTi := Lib.hid (specTimes8 A r cap a B c (nowF r a cs K) wr ((HA.out.below HS.out.1.B).more HS.out.1.B.size) HS.out.2 (by omega))
        obtain ⟨ov, hov⟩ : ∃ ov, cs K = ov := ⟨_, rfl⟩
        have HOv := Lib.hid hov
        clear hk hKg hp0 hp1 hov
        go_wp2_with fail
        refine HTi.out.mono ?_
        rintro e w5 ⟨B2, c2, rfl, hT, hb5⟩
        obtain ⟨gN, offN, bb, oo, rfl, hTab⟩ := hT.out hr0
        have HRlt : Hid (R < wr.heap.size) := Lib.hid HS.out.1.z
        obtain ⟨X, hX⟩ : ∃ X, wr.heap.size = X := ⟨_, rfl⟩
        rw [hX] at hTab HRlt
        have HI0 : Hid (OutS w R M (chF r tr K) w5 ∧ TabAt w5 X gN offN bb oo r (fun _ => r) (fun i' j => if i' < 0 then nowF r a cs (K + 1) i' j else mulF r a (nowF r a cs K) i' j)) := Lib.hid ⟨HS.out.1.next hb5, hTab.congr fun i j _ _ => by rw [if_neg (by omega)]⟩
        clear HS HTi hT hb5 hTab hX
        go_wp2
        go_loopg [7, 8] r (fun gi ix _ wx => ∃ i : Nat, i + gi = r ∧ ix = .int .i64 i ∧ Hid (OutS w R M (chF r tr K) wx ∧ TabAt wx X gN offN bb oo r (fun _ => r) (fun i' j => if i' < i then nowF r a cs (K + 1) i' j else mulF r a (nowF r a cs K) i' j)))
        case atStart => exact ⟨0, by omega, rfl, HI0⟩
        case round =>
          clear HI0
          obtain ⟨i, hig, rfl, HI⟩ := hrel
          cases gk with
          | zero =>
            obtain rfl : i = r := by omega
            have HNow : Hid (TabOwn wr X (some ⟨gN, offN, none⟩) i (fun _ => i) (nowF i a cs (K + 1))) := Lib.hid (fun _ => ⟨gN, offN, bb, oo, rfl, HI.out.2.congr fun i' j hi' _ => by rw [if_pos hi']⟩)
            have HO := Lib.hid HI.out.1
            have HT2 := Lib.hid (specTimes8 A i cap a (some ⟨gN, offN, none⟩) c2 (nowF i a cs (K + 1)) wr ((HA.out.below HO.out.B).more HO.out.B.size) HNow.out.rd (by omega))
            obtain ⟨V, hV⟩ : ∃ V, trF i (mulF i a (nowF i a cs (K + 1))) = V := ⟨_, rfl⟩
            have HV := Lib.hid hV
            have HC : Hid (wrap64 (Int.tdiv (wrap64 (-V)) (k : Int)) = cs (K + 1)) := Lib.hid (by rw [← hV, HK.out]; exact HTN.out K)
            have hk0 : ¬ (k : Int) = 0 := by have := HK.out; omega
            have hk0n : ¬ k = 0 := by have := HK.out; omega
            clear HI hig hV
            go_wp2_with fail
            refine HT2.out.mono ?_
            rintro e w6 ⟨Y, cY, rfl, hT, hb6⟩
            have HTr := Lib.hid (specTr8 Y i cY (mulF i a (nowF i a cs (K + 1))) w6 hT.out.rd (by omega))
            rw [HV.out] at HTr
            have HO6 := Lib.hid (HO.out.next hb6)
            have HN6 := Lib.hid (HNow.out.next hb6)
            clear hT HT2 hb6 HO HNow
            go_wp2_with fail
            refine HTr.out.mono ?_
            rintro e w7 ⟨rfl, rfl⟩
            obtain ⟨y0, y1⟩ := HO6.out.cell p0 hp0M
            obtain ⟨ov2, hov2⟩ : ∃ ov, chF i tr K p0 = ov := ⟨_, rfl⟩
            rw [hov2] at y0
            have hRz := HO6.out.z
            clear hov2 HTr
            go_wp2
            go_roundg g
            case measure => omega
            case rel =>
              refine ⟨K + 1, k + 1, some ⟨gN, offN, none⟩, c2, by have := HKG.out; omega, by have := HK.out; omega, by go_num, rfl, Lib.hid ⟨(HO6.out.put hp0M _).congr fun q hq => ?_, tab_avoid HN6.out (Or.inl HRlt.out) (fun p h1 _ => World.cell?_setCell_other _ _ _ _ (by intro e; subst e; exact h1 rfl)) (by simp)⟩⟩
              have hp := HP0.out
              have hk := HK.out
              have hMm := HM.out
              rw [HCt.out K q hKr (by omega)]
              by_cases e : q = p0
              · rw [if_pos e, if_pos (by omega)]; exact HC.out
              · rw [if_neg e, if_neg (by omega)]
          | succ gi =>
            have hir : i < r := by omega
            have hiI : (i : Int) < (r : Int) := by omega
            obtain ⟨Ai, ci, x0, hAi⟩ := HI.out.2.head i hir
            obtain rfl := hAi hr0
            obtain ⟨x1, x2⟩ := HI.out.2.cell i i hir hir
            have hgz := HI.out.2.gz
            obtain ⟨hb1, hb2, hb3⟩ := HI.out.2.row i hir hr0
            obtain ⟨y0, _⟩ := HI.out.1.cell p1 hp1M
            have hy : chF r tr K p1 = ov := by rw [HCS.out K p1 (by have := HP1.out; omega), ← HOv.out, show r - p1 = K by have := HP1.out; omega]
            rw [hy] at y0
            obtain ⟨mv, hmv⟩ : ∃ mv, (if i < i then nowF r a cs (K + 1) i i else mulF r a (nowF r a cs K) i i) = mv := ⟨_, rfl⟩
            have HMv : Hid (mulF r a (nowF r a cs K) i i = mv) := Lib.hid (by rw [← hmv, if_neg (by omega)])
            rw [hmv] at x1
            have hRz := HI.out.1.z
            have HIG := Lib.hid hig
            have HRb : Hid (R < bb i) := Lib.hid (Nat.lt_of_lt_of_le HRlt.out hb1)
            clear hAi hy hmv hig hb1 hb3
            go_wp2_with fail
            go_region
            all_goals
              go_wp2
              go_roundg gi
              case measure => omega
              case rel =>
                refine ⟨i + 1, by have := HIG.out; omega, by go_num, Lib.hid ⟨(HI.out.1.other HRb.out _).next (Below.refl _ _).drew, TabAt.next ((HI.out.2.put hir hir (wrap64 (mv + ov))).congr fun i' j _ _ => ?_) (Below.refl _ _).drew⟩⟩
                show _ = if i' < i + 1 then (if i' = j then wrap64 (mulF r a (nowF r a cs K) i' j + cs K) else mulF r a (nowF r a cs K) i' j) else mulF r a (nowF r a cs K) i' j
                by_cases e : i' = i
                · rw [e, if_pos (show i < i + 1 by omega), if_neg (show ¬ i < i by omega)]
                  by_cases e2 : j = i
                  · rw [e2, if_pos ⟨rfl, rfl⟩, if_pos rfl, HMv.out, HOv.out]
                  · rw [if_neg (fun x => e2 x.2), if_neg (fun x => e2 x.symm)]
                · rw [if_neg (fun x => e x.1)]
                  by_cases e2 : i' < i
                  · rw [if_pos e2, if_pos (by omega)]; rfl
                  · rw [if_neg e2, if_neg (by omega)]

theorem RowOwn.int {w : World} {lo : Nat} {A : Option Addr} {n : Nat} {f : Nat → Int} (h : RowOwn w lo A n f) : IntOwn w lo A (rngL n f) := by
  intro hl
  have hn : 0 < n := by
    rcases Nat.eq_zero_or_pos n with h0 | h0
    · subst h0; exact absurd rfl hl
    · exact h0
  obtain ⟨b, off, e, h1, h2, h3⟩ := h hn
  refine ⟨b, off, e, h1, h2, fun i x hi => ?_⟩
  obtain ⟨a, rfl⟩ := rngL_at hi
  exact h3 i a
def pP8 (n d : Int) : List Int := if c8 n d = 0 then rngL ((prL (o8 n d).length).length + 1) (chF (prL (o8 n d).length).length (fun i => trF (prL (o8 n d).length).length (powF (prL (o8 n d).length).length (mxF (o8 n d)) i)) (prL (o8 n d).length).length) else []
theorem pP8_len (n d : Int) : (pP8 n d).length ≤ 1000000000000 := by
  have h := prL_len (o8_len n d)
  unfold pP8
  split
  · rw [rngL_len]; omega
  · simp

set_option maxRecDepth 8000 in
set_option maxHeartbeats 2000000 in
theorem specPP (n d : Int) (w : World) : Calls Try.prog 29 #[ang n d] w (ResInt w (pP8 n d) (c8 n d)) := by
  have HO := Lib.hid (fun w => specOrb8 n d w)
  have hm := o8_len n d
  have ha := o8_ang n d
  have e1 : pP8 n d = if c8 n d = 0 then rngL ((prL (o8 n d).length).length + 1) (chF (prL (o8 n d).length).length (fun i => trF (prL (o8 n d).length).length (powF (prL (o8 n d).length).length (mxF (o8 n d)) i)) (prL (o8 n d).length).length) else [] := rfl
  rw [e1]
  clear e1
  by_cases h : c8 n d = 0
  · rw [if_pos h, h]
    rw [h] at HO
    clear h
    generalize o8 n d = L at *
    obtain ⟨N, hN⟩ : ∃ N, (prL L.length).length = N := ⟨_, rfl⟩
    have hN21 := prL_len hm
    rw [hN] at hN21 ⊢
    have HM := Lib.hid (fun A cap W (hr : AngRow W W.heap.size A L) => specMx A L.length cap L N W hr rfl hm ha hN)
    generalize mxF L = a at *
    have HC := Lib.hid (fun A cap W ht => specCha A N cap a W ht hN21)
    generalize chF N (fun i => trF N (powF N a i)) N = f at *
    obtain ⟨m, hml⟩ : ∃ m, L.length = m := ⟨_, rfl⟩
    have HLm := Lib.hid hml
    rw [hml] at HM
    clear hN hml ha
    go_enter Try.func29, Try.ntmps29
    go_wp2_with fail
    refine (HO.out _).mono ?_
    rintro e w1 ⟨A, cap, rfl, hA, hb1⟩
    rw [HLm.out]
    have B1 : Below w.heap.size w w1 := by
      (repeat' (first | (with_reducible exact Below.refl _ _) | (with_reducible assumption) | (with_reducible refine belowNext ?_ (by with_reducible assumption)) | (with_reducible refine belowAlloc ?_ _) | (with_reducible refine Below.drew ?_) | (with_reducible refine below_drewN ?_ _) | (with_reducible refine Below.setCell ?_ ?_ _) | go_size | (with_reducible refine sizeOf' ?_) | (with_reducible refine sizeAdd ?_) | (dsimp only; first | (with_reducible refine sizeOf' ?_) | (with_reducible refine sizeAdd ?_))))
    go_wp2_with fail
    refine (HM.out A cap _ hA.row).mono ?_
    rintro e w2 ⟨A2, c2, rfl, hT, hb2⟩
    have B2 := belowNext B1 hb2
    clear hA hb1 hb2 B1
    go_wp2_with fail
    refine (HC.out A2 c2 _ hT.out.rd).mono ?_
    rintro e w3 ⟨Y, rfl, hY, hb3⟩
    have HY := Lib.hid hY.out.int
    clear hT hY
    go_wp2
    go_ret2
    refine ⟨Y, N + 1, by rw [rngL_len]; rfl, ?_, belowNext B2 hb3⟩
    intro hl
    obtain ⟨b, off, e, h1, h2, h3⟩ := HY.out hl
    exact ⟨b, off, e, Nat.le_trans B2.size h1, h2, h3⟩
  · rw [if_neg h]
    have hC : (c8 n d == 0) = false := beq_eq_false_iff_ne.2 h
    generalize c8 n d = C at *
    clear h hm ha
    go_enter Try.func29, Try.ntmps29
    go_wp2_with fail
    refine (HO.out _).mono ?_
    rintro e w1 ⟨A, cap, rfl, hA, hb1⟩
    clear hA
    go_wp2
    go_ret2
    refine ⟨none, 0, rfl, ownI_nil, ?_⟩
    (repeat' (first | (with_reducible exact Below.refl _ _) | (with_reducible assumption) | (with_reducible refine belowNext ?_ (by with_reducible assumption)) | (with_reducible refine belowAlloc ?_ _) | (with_reducible refine Below.drew ?_) | (with_reducible refine below_drewN ?_ _) | (with_reducible refine Below.setCell ?_ ?_ _) | go_size | (with_reducible refine sizeOf' ?_) | (with_reducible refine sizeAdd ?_) | (dsimp only; first | (with_reducible refine sizeOf' ?_) | (with_reducible refine sizeAdd ?_))))

set_option maxRecDepth 8000 in
set_option maxHeartbeats 2000000 in
theorem implPP (n d : Int) (w : World) : Calls Try.prog 30 #[ang n d] w (ResInt w (pP8 n d) (c8 n d)) := by
  have HO := Lib.hid (fun w => implPT n d w)
  have hm := o8_len n d
  have ha := o8_ang n d
  have e1 : pP8 n d = if c8 n d = 0 then rngL ((prL (o8 n d).length).length + 1) (chF (prL (o8 n d).length).length (fun i => trF (prL (o8 n d).length).length (powF (prL (o8 n d).length).length (mxF (o8 n d)) i)) (prL (o8 n d).length).length) else [] := rfl
  rw [e1]
  clear e1
  generalize o8 n d = L at *
  generalize c8 n d = C at *
  by_cases hC : C = 0
  · subst hC
    rw [if_pos rfl]
    obtain ⟨N, hN⟩ : ∃ N, (prL L.length).length = N := ⟨_, rfl⟩
    have hN21 := prL_len hm
    rw [hN] at hN21 ⊢
    have HM := Lib.hid (fun A cap A2 cap2 W (hr : AngRow W W.heap.size A L) ht => implMx A L.length cap A2 N cap2 L W hr rfl hm ha ht hN)
    generalize mxF L = a at *
    have HC := Lib.hid (fun A cap W ht => implCha A N cap a W ht hN21)
    generalize chF N (fun i => trF N (powF N a i)) N = f at *
    obtain ⟨m, hml⟩ : ∃ m, L.length = m := ⟨_, rfl⟩
    have HLm := Lib.hid hml
    rw [hml] at HM hN
    have HNn := Lib.hid hN
    clear hN hml ha
    go_enter Try.func30, Try.ntmps30
    go_wp2_with fail
    refine (HO.out _).mono ?_
    rintro e w1 ⟨A, cap, A2, cap2, rfl, hA, ht, hb1⟩
    rw [HLm.out] at ht ⊢
    rw [HNn.out] at ht ⊢
    have HR := Lib.hid hA.row
    have HT := Lib.hid ht.rd
    have B1 : Below w.heap.size w w1 := by
      (repeat' (first | (with_reducible exact Below.refl _ _) | (with_reducible assumption) | (with_reducible refine belowNext ?_ (by with_reducible assumption)) | (with_reducible refine belowAlloc ?_ _) | (with_reducible refine Below.drew ?_) | (with_reducible refine below_drewN ?_ _) | (with_reducible refine Below.setCell ?_ ?_ _) | go_size | (with_reducible refine sizeOf' ?_) | (with_reducible refine sizeAdd ?_) | (dsimp only; first | (with_reducible refine sizeOf' ?_) | (with_reducible refine sizeAdd ?_))))
    clear hA ht
    go_wp2_with fail
    refine (HM.out A cap A2 cap2 _ ((HR.out.below (belowAlloc (Below.refl _ _) _)).more (belowAlloc (Below.refl _ _) _).size) ((HT.out.below (belowAlloc (Below.refl _ _) _)).more (belowAlloc (Below.refl _ _) _).size)).mono ?_
    rintro e w2 ⟨A3, c3, rfl, hT, hb2⟩
    have B2 : Below w.heap.size w w2 := by
      (repeat' (first | (with_reducible exact Below.refl _ _) | (with_reducible assumption) | (with_reducible refine belowNext ?_ (by with_reducible assumption)) | (with_reducible refine belowAlloc ?_ _) | (with_reducible refine Below.drew ?_) | (with_reducible refine below_drewN ?_ _) | (with_reducible refine Below.setCell ?_ ?_ _) | go_size | (with_reducible refine sizeOf' ?_) | (with_reducible refine sizeAdd ?_) | (dsimp only; first | (with_reducible refine sizeOf' ?_) | (with_reducible refine sizeAdd ?_))))
    clear hb1 hb2 HR HT HM
    go_wp2_with fail
    refine (HC.out A3 c3 _ hT.out.rd).mono ?_
    rintro e w3 ⟨Y, rfl, hY, hb3⟩
    have HY := Lib.hid hY.out.int
    clear hT hY
    go_wp2
    go_ret2
    refine ⟨Y, N + 1, by rw [rngL_len]; rfl, ?_, belowNext B2 hb3⟩
    intro hl
    obtain ⟨b, off, e, h1, h2, h3⟩ := HY.out hl
    exact ⟨b, off, e, Nat.le_trans B2.size h1, h2, h3⟩
  · rw [if_neg hC]
    have hC' : (C == 0) = false := beq_eq_false_iff_ne.2 hC
    clear hC hm ha
    go_enter Try.func30, Try.ntmps30
    go_wp2_with fail
    refine (HO.out _).mono ?_
    rintro e w1 ⟨A, cap, A2, cap2, rfl, hA, ht, hb1⟩
    clear hA ht
    go_wp2
    go_ret2
    refine ⟨none, 0, rfl, ownI_nil, ?_⟩
    (repeat' (first | (with_reducible exact Below.refl _ _) | (with_reducible assumption) | (with_reducible refine belowNext ?_ (by with_reducible assumption)) | (with_reducible refine belowAlloc ?_ _) | (with_reducible refine Below.drew ?_) | (with_reducible refine below_drewN ?_ _) | (with_reducible refine Below.setCell ?_ ?_ _) | go_size | (with_reducible refine sizeOf' ?_) | (with_reducible refine sizeAdd ?_) | (dsimp only; first | (with_reducible refine sizeOf' ?_) | (with_reducible refine sizeAdd ?_))))

set_option maxHeartbeats 2000000 in
theorem lawPairPolynomial (n d : Int) (_ : (Lit.int .i64 n).wf = true) (_ : (Lit.int .i64 d).wf = true) (w : World) :
    Calls Try.prog 7 #[ang n d] w fun e w' => e = .returned (.bool true) ∧ Below w.heap.size w w' := by
  have HA := Lib.hid (fun w => specPP n d w)
  have HB := Lib.hid (fun w => implPP n d w)
  have hlen : (pP8 n d).length ≤ 1000000000000 := pP8_len n d
  generalize pP8 n d = l at *
  generalize c8 n d = C at *
  obtain ⟨len, hl⟩ : ∃ len, l.length = len := ⟨_, rfl⟩
  rw [hl] at hlen
  have HL := Lib.hid hl
  clear hl
  go_enter Try.func7, Try.ntmps7
  go_wp2_with fail
  refine (toAngX _ _ _).mono ?_
  rintro e w1 ⟨rfl, rfl⟩
  go_wp2_with fail
  refine (HA.out _).mono ?_
  rintro e w2 ⟨A, cap, rfl, ha, hb2⟩
  rw [HL.out]
  have hc2 := bcell hb2
  have c0 : w2.cell? ⟨w.heap.size, 0, none⟩ = some (.int .i64 n) := cellThru hb2 (by simp <;> omega) (by simp [go_sem])
  have c1 : w2.cell? ⟨w.heap.size, 1, none⟩ = some (.int .i64 d) := cellThru hb2 (by simp <;> omega) (by simp [go_sem])
  have z2 : w.heap.size < w2.heap.size := by have := hb2.size; simp at this; omega
  have B2 : Below w.heap.size w w2 := by
    (repeat' (first | (with_reducible exact Below.refl _ _) | (with_reducible assumption) | (with_reducible refine belowNext ?_ (by with_reducible assumption)) | (with_reducible refine belowAlloc ?_ _) | (with_reducible refine Below.drew ?_) | (with_reducible refine below_drewN ?_ _) | (with_reducible refine Below.setCell ?_ ?_ _) | go_size | (with_reducible refine sizeOf' ?_) | (with_reducible refine sizeAdd ?_) | (dsimp only; first | (with_reducible refine sizeOf' ?_) | (with_reducible refine sizeAdd ?_))))
  clear hc2 hb2
  have R := Lib.hid ha.row
  clear ha
  go_wp2_with fail
  refine (toAngX _ _ _).mono ?_
  rintro e w3 ⟨rfl, rfl⟩
  go_wp2_with fail
  refine (HB.out _).mono ?_
  rintro e w4 ⟨A', cap', rfl, ha', hb4⟩
  rw [HL.out]
  have s4 := hb4.size
  simp at s4
  have z4 : w.heap.size < w4.heap.size := by omega
  have B24 : Below w2.heap.size w2 w4 := by
    (repeat' (first | (with_reducible exact Below.refl _ _) | (with_reducible assumption) | (with_reducible refine belowNext ?_ (by with_reducible assumption)) | (with_reducible refine belowAlloc ?_ _) | (with_reducible refine Below.drew ?_) | (with_reducible refine below_drewN ?_ _) | (with_reducible refine Below.setCell ?_ ?_ _) | go_size | (with_reducible refine sizeOf' ?_) | (with_reducible refine sizeAdd ?_) | (dsimp only; first | (with_reducible refine sizeOf' ?_) | (with_reducible refine sizeAdd ?_))))
  have c0 : w4.cell? ⟨w.heap.size, 0, none⟩ = some (.int .i64 n) := cellThru B24 z2 c0
  have c1 : w4.cell? ⟨w.heap.size, 1, none⟩ = some (.int .i64 d) := cellThru B24 z2 c1
  have R4 := Lib.hid (R.out.below B24)
  have Rs4 := Lib.hid (R4.out.more B24.size)
  have Q4 := Lib.hid ha'
  clear ha' hb4
  go_wp2_with fail
  refine (eqIntS _ _ _ _ _ l _ Q4.out.row Rs4.out HL.out (by omega)).mono ?_
  rintro e w5 ⟨rfl, hb5⟩
  have hb5 : Below w4.heap.size w4 w5 := by obtain ⟨nq, e⟩ := hb5.out; rw [e]; exact below_drewN (Below.refl _ _) nq
  have c0 : w5.cell? ⟨w.heap.size, 0, none⟩ = some (.int .i64 n) := cellThru hb5 z4 c0
  have c1 : w5.cell? ⟨w.heap.size, 1, none⟩ = some (.int .i64 d) := cellThru hb5 z4 c1
  have z5 : w.heap.size < w5.heap.size := by have := hb5.size; omega
  have R5 := Lib.hid (R4.out.below (hb5.mono B24.size))
  have Q5 := Lib.hid (Q4.out.next hb5)
  have B25 : Below w2.heap.size w2 w5 := belowNext B24 hb5
  go_wp2_with fail
  refine (markInt _ _ _ l _ _ _ Q5.out HL.out (by omega) (by omega) hlen).mono ?_
  rintro e w6 ⟨rfl, H6⟩
  simp only [World.size_alloc] at H6
  have b6 := H6.out.2.mono (show w2.heap.size ≤ w2.heap.size + 1 + 1 + 1 by omega)
  have c0 : w6.cell? ⟨w.heap.size, 0, none⟩ = some (.int .i64 n) := (b6.cell (p := ⟨w.heap.size, 0, none⟩) z2).trans c0
  have c1 : w6.cell? ⟨w.heap.size, 1, none⟩ = some (.int .i64 d) := (b6.cell (p := ⟨w.heap.size, 1, none⟩) z2).trans c1
  have z6 : w.heap.size < w6.heap.size := by have := b6.size; omega
  have R6 := Lib.hid (R5.out.below b6)
  have Q6 := Lib.hid H6.out.1
  have B26 : Below w2.heap.size w2 w6 := B25.trans b6
  have nn : (1 + (len : Int) < 0) = False := by simp; omega
  clear b6 H6 hb5
  go_wp2_with fail
  refine (heldInt _ _ _ _ _ Q6.out.row (by omega) (by omega) hlen).mono ?_
  rintro e w7 ⟨rfl, rfl⟩
  go_wp2_with fail
  refine (toAngX _ _ _).mono ?_
  rintro e w8 ⟨rfl, rfl⟩
  go_wp2_with fail
  refine (HB.out _).mono ?_
  rintro e w9 ⟨A'', cap'', rfl, ha'', hb9⟩
  rw [HL.out]
  have s9 := hb9.size
  simp at s9
  have B69 : Below w6.heap.size w6 w9 := by
    (repeat' (first | (with_reducible exact Below.refl _ _) | (with_reducible assumption) | (with_reducible refine belowNext ?_ (by with_reducible assumption)) | (with_reducible refine belowAlloc ?_ _) | (with_reducible refine Below.drew ?_) | (with_reducible refine below_drewN ?_ _) | (with_reducible refine Below.setCell ?_ ?_ _) | go_size | (with_reducible refine sizeOf' ?_) | (with_reducible refine sizeAdd ?_) | (dsimp only; first | (with_reducible refine sizeOf' ?_) | (with_reducible refine sizeAdd ?_))))
  have B29 : Below w2.heap.size w2 w9 := belowNext B26 B69
  have R9 := Lib.hid ((R6.out.below (B69.mono B26.size)).more B29.size)
  have Q9 := Lib.hid (Q6.out.next B69)
  have P9 := Lib.hid ha''.row
  clear ha'' hb9
  go_wp2_with fail
  refine (eqIntS _ _ _ _ _ l _ P9.out R9.out HL.out (by omega)).mono ?_
  rintro e w10 ⟨rfl, hb10⟩
  have hb10 : Below w9.heap.size w9 w10 := by obtain ⟨nq, e⟩ := hb10.out; rw [e]; exact below_drewN (Below.refl _ _) nq
  have Q10 := Lib.hid (Q9.out.next hb10)
  go_wp2_with fail
  refine (heldInt _ _ _ _ _ Q10.out.row (by omega) (by omega) hlen).mono ?_
  rintro e w11 ⟨rfl, rfl⟩
  go_wp2
  go_ret
  exact ⟨rfl, belowNext (belowNext B2 B29) hb10⟩
end Go.Proofs.Ytjomgbjiognmmaa

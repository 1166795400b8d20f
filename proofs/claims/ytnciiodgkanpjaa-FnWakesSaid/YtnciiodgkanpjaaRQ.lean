/-
  Contracts: the partner of an angle, as the program tells it.
  Contracts: the ray pairs of a period, as the model joins them: the loops.
  Contracts: the ray pairs of a period, as the model joins them.
  Contracts: the pair of an angle, as the model finds it.
  Contracts: the pair and the partner of an angle, as the model tells them.
-/
import Derived.Test.YtnciiodgkanpjaaRG
import Derived.Test.YtnciiodgkanpjaaR13
import Derived.BigQuiet
namespace Go.Proofs.Ytnciiodgkanpjaa
open Go.RowKit

/-- What PartnerOf answers. -/
def paA (n d : Int) : Int × Int := if poC n d = 0 then (if eqA (poP n d).1 (poP n d).2.1 n d then ((poP n d).2.2.1, (poP n d).2.2.2) else ((poP n d).1, (poP n d).2.1)) else (0, 0)
theorem pa_cases (n d : Int) : (poC n d ≠ 0 ∧ paA n d = (0, 0)) ∨ (poC n d = 0 ∧ eqA (poP n d).1 (poP n d).2.1 n d = true ∧ paA n d = ((poP n d).2.2.1, (poP n d).2.2.2)) ∨ (poC n d = 0 ∧ eqA (poP n d).1 (poP n d).2.1 n d = false ∧ paA n d = ((poP n d).1, (poP n d).2.1)) := by
  unfold paA
  by_cases h : poC n d = 0
  · cases h2 : eqA (poP n d).1 (poP n d).2.1 n d
    · exact .inr (.inr ⟨h, rfl, by simp [h]⟩)
    · exact .inr (.inl ⟨h, rfl, by simp [h]⟩)
  · exact .inl ⟨h, by simp [h]⟩

/-- What holds in the model's loops: the list so far, in a row of its own; the angles; the marks of those that are joined (their block: U). -/
structure SJ (w : World) (lo U : Nat) (L : List (Lf4 × Nat)) (A : List (Int × Int)) (N : Nat) (Aa : Option Addr) (M : List (Nat × Nat)) (s0 : Value) (W : World) : Prop where
  own : W.ownsRow lo 52 4 s0 (plOf L A N M).length (flatP ((plOf L A N M).map (·.1)))
  far : ∀ g, s0.ownBlock = some g → g < w.heap.size ∨ U < g
  row : A ≠ [] → ∃ b off, Aa = some ⟨b, off, none⟩ ∧ w.heap.size ≤ b ∧ b < U ∧ ∀ i n d, A[i]? = some (n, d) → W.cell? ⟨b, off + i * 2, none⟩ = some (.int .i64 n) ∧ W.cell? ⟨b, off + i * 2 + 1, none⟩ = some (.int .i64 d)
  uz : U < W.heap.size
  used : ∀ j, j < A.length → ∃ b, W.cell? ⟨U, j, none⟩ = some (.bool b)
  free : ∀ o, W.frozen? ⟨U, o, none⟩ = false
  bel : Below lo w W
  uw : w.heap.size ≤ U
  lw : lo ≤ w.heap.size
theorem cellBelow {W W1 : World} (hb : Below W.heap.size W W1) {p : Addr} {v : Value} (h : W.cell? p = some v) : W1.cell? p = some v := by
  have hlt : p.block < W.heap.size := by
    rcases Nat.lt_or_ge p.block W.heap.size with h1 | h1
    · exact h1
    · simp [World.cell?, Array.getElem?_eq_none h1] at h
  exact (hb.cell hlt).trans h
theorem SJ.next {w W W1 : World} {lo U N : Nat} {L : List (Lf4 × Nat)} {A : List (Int × Int)} {Aa : Option Addr} {M : List (Nat × Nat)} {s0 : Value} (h : SJ w lo U L A N Aa M s0 W) (hb : Below W.heap.size W W1) : SJ w lo U L A N Aa M s0 W1 := by
  refine ⟨ownsKeep h.own hb, h.far, fun hne => ?_, Nat.lt_of_lt_of_le h.uz hb.size, fun j hj => ?_, fun o => frozThru hb h.uz (h.free o), h.bel.trans (hb.mono ?_), h.uw, h.lw⟩
  · obtain ⟨b, off, e, h1, h2, h3⟩ := h.row hne
    exact ⟨b, off, e, h1, h2, fun i n d hi => ⟨cellBelow hb (h3 i n d hi).1, cellBelow hb (h3 i n d hi).2⟩⟩
  · obtain ⟨b, hc⟩ := h.used j hj
    exact ⟨b, cellBelow hb hc⟩
  · exact Nat.le_trans h.lw h.bel.size
theorem SJ.mark {w W : World} {lo U N : Nat} {L : List (Lf4 × Nat)} {A : List (Int × Int)} {Aa : Option Addr} {M : List (Nat × Nat)} {s0 : Value} (h : SJ w lo U L A N Aa M s0 W) (k : Nat) (hk : k < A.length) (t : Bool) : SJ w lo U L A N Aa M s0 (W.setCell ⟨U, k, none⟩ (.bool t)) := by
  refine ⟨ownsRow_setCell_other h.own (fun e => by have := h.far _ e; have := h.uw; dsimp only at *; omega) _, h.far, fun hne => ?_, by simpa using h.uz, fun j hj => ?_, fun o => by simpa using h.free o, h.bel.setCell (Nat.le_trans h.lw h.uw) _, h.uw, h.lw⟩
  · obtain ⟨b, off, e, h1, h2, h3⟩ := h.row hne
    have ne : ∀ x, (⟨U, k, none⟩ : Addr) ≠ ⟨b, x, none⟩ := fun x e => by injection e with e1; omega
    exact ⟨b, off, e, h1, h2, fun i n d hi => ⟨(World.cell?_setCell_other _ _ _ _ (ne _)).trans (h3 i n d hi).1, (World.cell?_setCell_other _ _ _ _ (ne _)).trans (h3 i n d hi).2⟩⟩
  · obtain ⟨b, hc⟩ := h.used j hj
    by_cases hjk : j = k
    · subst hjk; exact ⟨t, World.cell?_setCell_same _ _ _ hc⟩
    · exact ⟨b, (World.cell?_setCell_other _ _ _ _ (fun e => by injection e with _ e1; omega)).trans hc⟩
theorem SJ.app {w W W1 : World} {lo U N i k : Nat} {L : List (Lf4 × Nat)} {A : List (Int × Int)} {Aa : Option Addr} {M : List (Nat × Nat)} {s0 s1 : Value} (h : SJ w lo U L A N Aa M s0 W)
    (hg : W.grownBy W1 s0.ownBlock) (hloc : s1.ownBlock = s0.ownBlock ∨ s1.ownBlock = some W.heap.size)
    (ho : W1.ownsRow lo 52 4 s1 ((plOf L A N M).length + 1) (flatP ((plOf L A N M).map (·.1)) ++ flatP [lfOf (at_ A i) (at_ A k)])) : SJ w lo U L A N Aa (M ++ [(i, k)]) s1 W1 := by
  have nU : some U ≠ s0.ownBlock := fun e => by have := h.far U e.symm; have := h.uw; omega
  have lows : ∀ r, s0.ownBlock = some r → lo ≤ r := fun r e => by
    rcases h.own.2 with ⟨hv, _⟩ | ⟨g0, c0, cur, hv, hv2, _⟩
    · rw [hv] at e; simp [Value.ownBlock] at e
    · rw [hv] at e; simp [Value.ownBlock] at e; omega
  refine ⟨?_, fun g e => ?_, fun hne => ?_, Nat.lt_of_lt_of_le h.uz hg.size, fun j hj => ?_, fun o => ?_, h.bel.grown hg (Nat.le_trans h.lw h.bel.size) lows, h.uw, h.lw⟩
  · rw [plOf_snoc, List.length_append, List.map_append, flatP_app]
    exact ho
  · rcases hloc with e2 | e2
    · exact h.far g (e2 ▸ e)
    · rw [e2] at e
      have := Option.some.inj e
      have := h.uz
      omega
  · obtain ⟨b, off, e, h1, h2, h3⟩ := h.row hne
    have hb : b < W.heap.size := Nat.lt_trans h2 h.uz
    have nb : some b ≠ s0.ownBlock := fun e => by have := h.far b e.symm; omega
    exact ⟨b, off, e, h1, h2, fun i n d hi => ⟨(World.cell?_of_block (hg.block b hb nb)).trans (h3 i n d hi).1, (World.cell?_of_block (hg.block b hb nb)).trans (h3 i n d hi).2⟩⟩
  · obtain ⟨b, hc⟩ := h.used j hj
    exact ⟨b, (World.cell?_of_block (hg.block U h.uz nU)).trans hc⟩
  · exact (World.frozen?_of_block (hg.block U h.uz nU)).trans (h.free o)
/-- The marks from i on are right. -/
def marksOk (U : Nat) (A : List (Int × Int)) (M : List (Nat × Nat)) (i : Nat) (W : World) : Prop := ∀ j, i ≤ j → j < A.length → W.cell? ⟨U, j, none⟩ = some (.bool ((upOf M).contains j))
theorem marksOk.next {U i : Nat} {A : List (Int × Int)} {M : List (Nat × Nat)} {W W1 : World} (h : marksOk U A M i W) (hb : Below W.heap.size W W1) : marksOk U A M i W1 := fun j h1 h2 => cellBelow hb (h j h1 h2)
theorem marksOk.grown {U i : Nat} {A : List (Int × Int)} {M : List (Nat × Nat)} {W W1 : World} {row : Option Nat} (h : marksOk U A M i W) (hg : W.grownBy W1 row) (hU : U < W.heap.size) (hne : some U ≠ row) : marksOk U A M i W1 := fun j h1 h2 => (World.cell?_of_block (hg.block U hU hne)).trans (h j h1 h2)
theorem marksOk.put {U i k q : Nat} {A : List (Int × Int)} {M : List (Nat × Nat)} {W : World} (h : marksOk U A M i W) (hk : k < i) (hq : ∃ b, W.cell? ⟨U, q, none⟩ = some b) : marksOk U A (M ++ [(k, q)]) i ((W.setCell ⟨U, k, none⟩ (.bool true)).setCell ⟨U, q, none⟩ (.bool true)) := by
  intro j h1 h2
  have n1 : (⟨U, k, none⟩ : Addr) ≠ ⟨U, j, none⟩ := fun e => by injection e with _ e1; omega
  by_cases e : j = q
  · subst e
    obtain ⟨b, hb⟩ := hq
    rw [World.cell?_setCell_same _ _ _ ((World.cell?_setCell_other _ _ _ _ n1).trans hb), upOf_snoc]
    simp
  · have n2 : (⟨U, q, none⟩ : Addr) ≠ ⟨U, j, none⟩ := fun e' => by injection e' with _ e1; omega
    rw [World.cell?_setCell_other _ _ _ _ n2, World.cell?_setCell_other _ _ _ _ n1, h j h1 h2, upOf_snoc]
    simp [e]

theorem cell_four_newP (w : World) (a b c d : Value) (t : TypeId) : ∀ j u, [a, b, c, d][j]? = some u → (w.alloc (.cells #[a, b, c, d] t)).cell? ((⟨w.heap.size, 0, none⟩ : Addr).add j) = some u := by
  intro j u hj
  match j, hj with
  | 0, hj => simp at hj; subst hj; simp [Addr.add]
  | 1, hj => simp at hj; subst hj; simp [Addr.add]
  | 2, hj => simp at hj; subst hj; simp [Addr.add]
  | 3, hj => simp at hj; subst hj; simp [Addr.add]
theorem madeFalse (n j : Nat) (h : j < n) : (madeCells (Value.bool false).cells (n * 1)).toList[j]? = some (.bool false) := by
  simp [madeCells, Value.cells, h, Nat.mod_one]
theorem belowGrownP {A B : World} (h : A.grownBy B none) : Below A.heap.size A B := ⟨h.os, h.tape, h.output, h.size, fun k hk => h.block k hk (by simp)⟩

set_option maxRecDepth 100000 in
set_option maxHeartbeats 1000000 in
theorem specJoin (N : Nat) (lo : Nat) (A0 : Option Addr) (cap0 : Nat) (L : List (Lf4 × Nat)) (w : World) (h1 : 2 ≤ N) (h8 : N ≤ 8) (hL : allP L) (hlen : L.length ≤ 100000) (hlo : lo ≤ w.heap.size)
    (hown : w.ownsRow lo 52 4 (.slice A0 L.length cap0) L.length (flatP (L.map (·.1)))) :
    Calls Try.prog 95 #[.slice A0 L.length cap0, .int .i64 N] w fun e w' => ∃ A' cap', e = .returned (.slice A' (plOf L (angF N (2 ^ N - 1 : Nat) (2 ^ N - 1)) N (joinM L (angF N (2 ^ N - 1 : Nat) (2 ^ N - 1)) N)).length cap') ∧
      w'.ownsRow lo 52 4 (.slice A' (plOf L (angF N (2 ^ N - 1 : Nat) (2 ^ N - 1)) N (joinM L (angF N (2 ^ N - 1 : Nat) (2 ^ N - 1)) N)).length cap') (plOf L (angF N (2 ^ N - 1 : Nat) (2 ^ N - 1)) N (joinM L (angF N (2 ^ N - 1 : Nat) (2 ^ N - 1)) N)).length (flatP ((plOf L (angF N (2 ^ N - 1 : Nat) (2 ^ N - 1)) N (joinM L (angF N (2 ^ N - 1 : Nat) (2 ^ N - 1)) N)).map (·.1))) ∧ Below lo w w' := by
  have HA := Lib.hid (specAoP N w (by omega) h8)
  have hp := pow_le8 h8
  have hq : 4 ≤ 2 ^ N := by
    obtain ⟨m, rfl⟩ : ∃ m, N = m + 2 := ⟨N - 2, by omega⟩
    have := pow_ge1 m
    rw [Nat.pow_succ, Nat.pow_succ]; omega
  have HAsc := Lib.hid (angF_Asc (N := N) (D := 2 ^ N - 1) (by omega) (by omega))
  have hAl := angF_len N (2 ^ N - 1 : Nat) (2 ^ N - 1)
  generalize angF N (2 ^ N - 1 : Nat) (2 ^ N - 1) = A at *
  have hA300 : A.length ≤ 255 := by omega
  clear hp hq hAl
  obtain ⟨len, hl⟩ : ∃ len, A.length = len := ⟨_, rfl⟩
  rw [hl] at hA300 HA
  have HLen := Lib.hid hl
  have HM := Lib.hid hown
  have HLP := Lib.hid hL
  clear hl hown hL
  obtain ⟨i0, hi, hz0, hz1, hz2⟩ := info_parts infoP
  obtain ⟨j0, ji, jz0, jz1, jz2⟩ := info_parts infoBR
  go_enter Try.func95, Try.ntmps95
  go_wp2_with fail
  refine HA.out.mono ?_
  rintro e w1 ⟨Aa, cap, hcap, rfl, hown, hb1⟩
  have HB1 := Lib.hid hb1
  have HO1 := Lib.hid hown
  have hz := hb1.size
  clear hown hb1
  go_wp2_with (at_make; refine wpList_make_full _ rfl _ _ 111 rfl w1.heap.size 4 j0 (.bool false) 1 Try.underlying111 ji jz0 jz1 .i64 .i64 _ _ len rfl rfl rfl rfl (by rw [jz2]; omega) (by unfold maxLen; omega) (by omega) ?_; intro w2 hown2 hgrow2)
  obtain ⟨U, hU⟩ : ∃ U, w1.heap.size = U := ⟨_, rfl⟩
  rw [hU] at hown2 hz
  have uz : U < w2.heap.size := by
    rcases hown2.2 with ⟨hv, _⟩ | ⟨g0, c0, cur, hv, _, hh, _⟩
    · cases hv
    · injection hv with hv
      injection hv with hv
      injection hv with hv
      rw [← hv] at hh
      rcases Nat.lt_or_ge U w2.heap.size with h1 | h1
      · exact h1
      · rw [Array.getElem?_eq_none h1] at hh; cases hh
  have mk0 : ∀ j, j < A.length → w2.cell? ⟨U, j, none⟩ = some (.bool false) := fun j hj => by
    have := HLen.out
    have e := hown2.cellAt j (by omega)
    rw [e, madeFalse _ _ (by omega)]
  have up : Below w1.heap.size w1 w2 := belowGrownP hgrow2
  have start : SJ w lo U L A N Aa [] (.slice A0 L.length cap0) w2 := by
    have e : plOf L A N [] = L := by simp [plOf]
    refine ⟨?_, fun g e => ?_, fun hne => ?_, uz, fun j hj => ⟨_, mk0 j hj⟩, fun o => hown2.frozenAt o, (HB1.out.mono hlo).trans (up.mono (by omega)), hz, hlo⟩
    · rw [e]; exact ownsKeep (ownsKeep HM.out HB1.out) up
    · have hlt := HM.out
      rcases hlt.2 with ⟨hv, _⟩ | ⟨g0, c0, cur, hv, _, hh, _⟩
      · rw [hv] at e; simp [Value.ownBlock] at e
      · rw [hv] at e
        simp [Value.ownBlock] at e
        subst e
        exact .inl (Array.getElem?_eq_some_iff.1 hh).1
    · obtain ⟨b, off, e, h1, h2, h3⟩ := HO1.out hne
      exact ⟨b, off, e, h1, by omega, fun i n d hi => ⟨cellBelow up (h3 i n d hi).1, cellBelow up (h3 i n d hi).2.1⟩⟩
  have HS := Lib.hid start
  have HK : Hid (marksOk U A [] 0 w2) := Lib.hid (fun j _ hj => mk0 j hj)
  have e0 : plOf L A N [] = L := by simp [plOf]
  have HE0 := Lib.hid e0
  clear hown2 hgrow2 up mk0 start e0 uz HM HB1 HO1 HA
  go_wp2_with fail
  try rw [hU]
  clear hU
  go_loopg [0, 7] len (fun g s0 s7 wr => ∃ (i : Nat) (M : List (Nat × Nat)) (Av : Option Addr) (cv : Nat), i + g = len ∧ s0 = .slice Av (plOf L A N M).length cv ∧ s7 = .int .i64 i ∧ M.length ≤ i ∧ Hid (Joined A.length i M) ∧ Hid (allM L A N (A.length - i) i M = joinM L A N) ∧ Hid (SJ w lo U L A N Aa M s0 wr) ∧ Hid (marksOk U A M i wr))
  case atStart => exact ⟨0, [], A0, cap0, by omega, by rw [HE0.out], rfl, Nat.le_refl _, Lib.hid (Joined.nil _), Lib.hid rfl, HS, HK⟩
  case round =>
    clear HS HK
    obtain ⟨k, M, Av, cv, hkg, rfl, rfl, hMk, HJ, HE, HS, HK⟩ := hrel
    cases gk with
    | zero =>
      obtain rfl : k = len := by omega
      have hM : M = joinM L A N := by
        have := HE.out
        rw [show A.length - k = 0 by have := HLen.out; omega] at this
        exact this
      subst hM
      go_wp2
      go_ret
      exact ⟨Av, cv, rfl, HS.out.own, HS.out.bel⟩
    | succ g =>
      have hlt : k < len := by omega
      have hkl : k < A.length := by have := HLen.out; omega
      obtain ⟨MT, hMT⟩ : ∃ MT, (if (upOf M).contains k then M else rowM L A N M k (A.length - (k + 1)) (k + 1)) = MT := ⟨_, rfl⟩
      have HE2 : Hid (allM L A N (A.length - (k + 1)) (k + 1) MT = joinM L A N) := Lib.hid (by
        rw [← HE.out, ← hMT]
        have e : A.length - k = (A.length - (k + 1)) + 1 := by omega
        rw [e]; rfl)
      have HJ2 : Hid (Joined A.length (k + 1) MT) := Lib.hid (by
        rw [← hMT]
        split
        · exact HJ.out.mono
        · next hc => exact rowM_Joined HJ.out (by simpa using hc) _ _ (by omega) (by omega))
      have hMT1 : MT.length ≤ k + 1 := by
        rw [← hMT]
        split
        · omega
        · have := rowM_len L A N M k (A.length - (k + 1)) (k + 1); omega
      have HMT := Lib.hid hMT
      have c0 := HK.out k (Nat.le_refl _) hkl
      obtain ⟨t0, ht0⟩ : ∃ t, (upOf M).contains k = t := ⟨_, rfl⟩
      rw [ht0] at c0
      have H1 : Hid (t0 = true → M = MT) := Lib.hid (fun h => by rw [← HMT.out, ht0, h]; rfl)
      have H2 : Hid (t0 = false → M = M ∧ (upOf M).contains k = false ∧ rowM L A N M k (A.length - (k + 1)) (k + 1) = MT) := Lib.hid (fun h => ⟨rfl, ht0.trans h, by rw [← HMT.out, ht0, h]; rfl⟩)
      have HK1 : Hid (marksOk U A M (k + 1) wr) := Lib.hid (fun j h1 h2 => HK.out j (by omega) h2)
      clear hMT ht0 HE HMT HK
      go_wp2_with fail
      go_loopg [0, 8] (len - (k + 1)) (fun g2 s0 s8 wx => ∃ (q : Nat) (M2 : List (Nat × Nat)) (t : Bool) (Av : Option Addr) (cv : Nat), q + g2 = len ∧ k + 1 ≤ q ∧ s0 = .slice Av (plOf L A N M2).length cv ∧ s8 = .int .i64 q ∧ Hid (SJ w lo U L A N Aa M2 s0 wx) ∧ Hid (marksOk U A M2 (k + 1) wx) ∧ wx.cell? ⟨U, k, none⟩ = some (.bool t) ∧
          Hid (t = true → M2 = MT) ∧ Hid (t = false → M2 = M ∧ (upOf M).contains k = false ∧ rowM L A N M k (A.length - q) q = MT))
      case atStart => exact ⟨k + 1, M, t0, Av, cv, by omega, Nat.le_refl _, rfl, by go_num, HS, HK1, c0, H1, Lib.hid (fun h => ⟨rfl, (H2.out h).2⟩)⟩
      case round =>
        clear HS HK1 c0 H1 H2
        obtain ⟨q, M2, t, Av2, cv2, hqg, hkq, rfl, rfl, HS, HK, c0, H1, H2⟩ := hrel
        cases gk with
        | zero =>
          have hql : ¬ ((q : Int) < (len : Int)) := by omega
          have hM2 : M2 = MT := by
            cases t
            · obtain ⟨e1, _, e2⟩ := H2.out rfl
              rw [← e2, show A.length - q = 0 by have := HLen.out; omega, e1]; rfl
            · exact H1.out rfl
          subst hM2
          go_wp2
          go_roundg g
          case measure => omega
          case rel => exact ⟨k + 1, M2, Av2, cv2, by omega, rfl, by go_num, hMT1, HJ2, HE2, HS, HK⟩
        | succ g2 =>
          have hql : q < len := by omega
          have hqA : q < A.length := by have := HLen.out; omega
          cases t
          · obtain ⟨rfl, hck, hrow⟩ := H2.out rfl
            have HCK := Lib.hid hck
            have HRW := Lib.hid hrow
            clear H1 H2 hck hrow
            have hne : A ≠ [] := by intro h; rw [h] at hkl; simp at hkl
            obtain ⟨gA, off, rfl, hgl, hgU, hcells⟩ := HS.out.row hne
            obtain ⟨x0, x1⟩ := hcells k (at_ A k).1 (at_ A k).2 (at_some hkl)
            obtain ⟨y0, y1⟩ := hcells q (at_ A q).1 (at_ A q).2 (at_some hqA)
            obtain ⟨⟨n, d⟩, hnd⟩ : ∃ p, at_ A k = p := ⟨_, rfl⟩
            obtain ⟨⟨m, c⟩, hmc⟩ : ∃ p, at_ A q = p := ⟨_, rfl⟩
            rw [hnd] at x0 x1
            rw [hmc] at y0 y1
            have HP : Hid (lfOf (at_ A k) (at_ A q) = (n, d, m, c)) := Lib.hid (by rw [hnd, hmc]; rfl)
            have HOK : Hid (okP (n, d, m, c) = true) := Lib.hid (by rw [← HP.out]; exact HAsc.out.ok (by omega) hqA)
            dsimp only at x0 x1 y0 y1
            have cq := HK.out q hkq hqA
            have hUz := HS.out.uz
            have hgz : gA < wr.heap.size := Nat.lt_trans hgU hUz
            clear hcells hne hnd hmc
            go_wp2_with fail
            go_region
            have up9 : Below wr.heap.size wr (wr.alloc (.cells #[.int .i64 n, .int .i64 d, .int .i64 m, .int .i64 c] 52)).drew := (belowAlloc (Below.refl _ _) _).drew
            have HS9 := Lib.hid (HS.out.next up9)
            have HK9 := Lib.hid (HK.out.next up9)
            have c09 : (wr.alloc (.cells #[.int .i64 n, .int .i64 d, .int .i64 m, .int .i64 c] 52)).drew.cell? ⟨U, k, none⟩ = some (.bool false) := cellBelow up9 c0
            have cq9 := cellBelow up9 cq
            have p0 : (wr.alloc (.cells #[.int .i64 n, .int .i64 d, .int .i64 m, .int .i64 c] 52)).drew.cell? ⟨wr.heap.size, 0, none⟩ = some (.int .i64 n) := by simp [go_sem]
            have p1 : (wr.alloc (.cells #[.int .i64 n, .int .i64 d, .int .i64 m, .int .i64 c] 52)).drew.cell? ⟨wr.heap.size, 1, none⟩ = some (.int .i64 d) := by simp [go_sem]
            have p2 : (wr.alloc (.cells #[.int .i64 n, .int .i64 d, .int .i64 m, .int .i64 c] 52)).drew.cell? ⟨wr.heap.size, 2, none⟩ = some (.int .i64 m) := by simp [go_sem]
            have p3 : (wr.alloc (.cells #[.int .i64 n, .int .i64 d, .int .i64 m, .int .i64 c] 52)).drew.cell? ⟨wr.heap.size, 3, none⟩ = some (.int .i64 c) := by simp [go_sem]
            have hz9 : wr.heap.size < (wr.alloc (.cells #[.int .i64 n, .int .i64 d, .int .i64 m, .int .i64 c] 52)).drew.heap.size := by simp
            generalize (wr.alloc (.cells #[.int .i64 n, .int .i64 d, .int .i64 m, .int .i64 c] 52)).drew = w9 at *
            generalize wr.heap.size = B9 at *
            clear x0 x1 y0 y1 c0 cq up9 hUz hgz HS HK
            have HAP := Lib.hid (allP_plOf (N := N) HLP.out HAsc.out HJ.out)
            have HFr := Lib.hid (specFree n d m c Av2 (plOf L A N M2).length cv2 (plOf L A N M2) w9 HOK.out HAP.out (rowP_of (by simp) HS9.out.own) rfl (by unfold plOf; simp only [List.length_append, List.length_map]; omega))
            obtain ⟨t2, ht2⟩ : ∃ t, (upOf M2).contains q = t := ⟨_, rfl⟩
            rw [ht2] at cq9
            have HT2 := Lib.hid ht2
            clear ht2
            cases t2
            · obtain ⟨R, hR⟩ : ∃ R, crossAny (n, d, m, c) (plOf L A N M2) = R := ⟨_, rfl⟩
              rw [hR] at HFr
              have HR := Lib.hid hR
              clear hR
              cases R
              · have hfit : Hid (fits L A N M2 k q = true) := Lib.hid (by unfold fits; rw [HT2.out, HP.out, HR.out]; rfl)
                go_wp2_with fail
                refine HFr.out.mono ?_
                rintro e w10 ⟨rfl, hb10⟩
                have HS10 := Lib.hid (HS9.out.next hb10)
                have HK10 := Lib.hid (HK9.out.next hb10)
                have c010 := cellBelow hb10 c09
                have cq10 := cellBelow hb10 cq9
                have p0 := cellBelow hb10 p0
                have p1 := cellBelow hb10 p1
                have p2 := cellBelow hb10 p2
                have p3 := cellBelow hb10 p3
                clear hb10 c09 cq9 HFr HS9 HK9 hz9
                have hlo10 : lo ≤ w10.heap.size := Nat.le_trans hlo HS10.out.bel.size
                have hUz10 := HS10.out.uz
                have hpl : (plOf L A N M2).length ≤ 100300 := by unfold plOf; simp only [List.length_append, List.length_map]; omega
                go_wp2_with (at_builtin; refine wpList_append_own_at _ rfl _ _ 47 rfl lo 52 i0 (.agg #[.int .i64 0, .int .i64 0, .int .i64 0, .int .i64 0]) 4 32 Try.underlying47 hi hz0 hz1 hz2 rfl (by decide) _ _ _ rfl (HS10.out.own.alloc _) ⟨w10.heap.size, 0, none⟩ 1 1 [.int .i64 n, .int .i64 d, .int .i64 m, .int .i64 c] rfl rfl ?c1 ?c2 ?c3 ?c4 ?c5 ?_)
                case c1 => exact cell_four_newP _ _ _ _ _ _
                case c2 => intro u hu; simp at hu; rcases hu with rfl | rfl | rfl | rfl <;> rfl
                case c3 => unfold maxLen; omega
                case c4 => omega
                case c5 => simp; omega
                intro v' w11 hown' hgrow _ hloc
                obtain ⟨gn, capn, rfl⟩ := ownsRow_succ hown'
                have up10 : Below w10.heap.size w10 (w10.alloc (.cells #[.int .i64 n, .int .i64 d, .int .i64 m, .int .i64 c] 52)) := belowAlloc (Below.refl _ _) _
                have nU : some U ≠ (Value.slice Av2 (plOf L A N M2).length cv2).ownBlock := fun e => by have := HS10.out.far U e.symm; have := HS10.out.uw; omega
                have HS11 := Lib.hid ((HS10.out.next up10).app (i := k) (k := q) hgrow (by rw [World.size_alloc]; exact hloc) (by rw [HP.out]; exact hown'))
                have HK11 := Lib.hid ((HK10.out.next up10).grown hgrow (by simp; omega) nU)
                obtain ⟨bk, ck⟩ := HS11.out.used k hkl
                obtain ⟨bq, cq⟩ := HS11.out.used q hqA
                have fk := HS11.out.free k
                have fq := HS11.out.free q
                have HW := Lib.hid ((rowM_yes hqA hfit.out).symm.trans HRW.out)
                have hlp : (plOf L A N (M2 ++ [(k, q)])).length = (plOf L A N M2).length + 1 := by rw [plOf_snoc, List.length_append]; rfl
                have HLP2 := Lib.hid hlp
                have hqk : ¬ q = k := by omega
                have hkq' : ¬ k = q := by omega
                clear hown' hgrow hloc nU up10 p0 p1 p2 p3 c010 cq10 hlp
                go_wp2
                go_roundg g2
                case measure => omega
                case rel =>
                  have n1 : (⟨U, k, none⟩ : Addr) ≠ ⟨U, q, none⟩ := fun e => by injection e with _ e1; omega
                  exact ⟨q + 1, M2 ++ [(k, q)], true, _, _, by omega, by omega, by rw [HLP2.out], by go_num, Lib.hid ((HS11.out.mark k hkl true).mark q hqA true), Lib.hid (HK11.out.put (by omega) ⟨_, cq⟩), (World.cell?_setCell_other _ _ _ _ n1.symm).trans (World.cell?_setCell_same _ _ _ ck), Lib.hid (fun _ => HW.out), Lib.hid (fun h => by cases h)⟩
              · go_wp2_with fail
                refine HFr.out.mono ?_
                rintro e w10 ⟨rfl, hb10⟩
                have HS10 := Lib.hid (HS9.out.next hb10)
                have HK10 := Lib.hid (HK9.out.next hb10)
                have c010 := cellBelow hb10 c09
                have hfit : fits L A N M2 k q = false := by unfold fits; rw [HT2.out, HP.out, HR.out]; rfl
                have HW := Lib.hid ((rowM_next hqA hfit).symm.trans HRW.out)
                clear hb10 c09 cq9 HFr hfit
                go_wp2
                go_roundg g2
                case measure => omega
                case rel => exact ⟨q + 1, M2, false, Av2, cv2, by omega, by omega, rfl, by go_num, HS10, HK10, c010, Lib.hid (fun h => by cases h), Lib.hid (fun _ => ⟨rfl, HCK.out, HW.out⟩)⟩
            · have hfit : fits L A N M2 k q = false := by unfold fits; rw [HT2.out]; rfl
              have HW := Lib.hid ((rowM_next hqA hfit).symm.trans HRW.out)
              clear hfit HFr
              go_wp2
              go_roundg g2
              case measure => omega
              case rel => exact ⟨q + 1, M2, false, Av2, cv2, by omega, by omega, rfl, by go_num, HS9, HK9, c09, Lib.hid (fun h => by cases h), Lib.hid (fun _ => ⟨rfl, HCK.out, HW.out⟩)⟩
          · have hM2 : M2 = MT := H1.out rfl
            subst hM2
            go_wp2
            go_roundg g
            case measure => omega
            case rel => exact ⟨k + 1, M2, Av2, cv2, by omega, rfl, by go_num, hMT1, HJ2, HE2, HS, HK⟩

set_option maxRecDepth 100000 in
set_option maxHeartbeats 1000000 in
theorem specPairs (n : Nat) (w : World) (h1 : 1 ≤ n) (h8 : n ≤ 8) :
    Calls Try.prog 75 #[.int .i64 n] w fun e w' => ∃ A cap, e = .returned (.slice A (upK (n - 1)).length cap) ∧ w'.ownsRow w.heap.size 52 4 (.slice A (upK (n - 1)).length cap) (upK (n - 1)).length (flatP ((upK (n - 1)).map (·.1))) ∧ Below w.heap.size w w' := by
  go_enter Try.func75, Try.ntmps75
  go_wp2_with fail
  have HS : Hid ((w.alloc (.cells #[] 52)).ownsRow w.heap.size 52 4 (.slice (some ⟨w.heap.size, 0, none⟩) (upK 0).length 0) (upK 0).length (flatP ((upK 0).map (·.1)))) := Lib.hid ⟨rfl, .inr ⟨w.heap.size, 0, #[], rfl, Nat.le_refl _, heap_alloc_new w (.cells #[] 52), by simp [upK], by unfold maxLen; omega, rfl, rfl⟩⟩
  have HB : Hid (Below w.heap.size w (w.alloc (.cells #[] 52))) := Lib.hid (belowAlloc (Below.refl _ _) _)
  go_loopg [3, 4] (n - 1) (fun g s3 s4 wr => ∃ (m : Nat) (A : Option Addr) (cap : Nat), m + g = n - 1 ∧ s3 = .slice A (upK m).length cap ∧ s4 = .int .i64 ((m + 2 : Nat) : Int) ∧ Hid (wr.ownsRow w.heap.size 52 4 s3 (upK m).length (flatP ((upK m).map (·.1)))) ∧ Hid (Below w.heap.size w wr))
  case atStart => exact ⟨0, _, _, by omega, rfl, rfl, HS, HB⟩
  case round =>
    clear HS HB
    obtain ⟨m, A, cap, hmg, rfl, rfl, HM, HB⟩ := hrel
    cases gk with
    | zero =>
      obtain rfl : m = n - 1 := by omega
      have n1 : ¬ (((n - 1 + 2 : Nat) : Int) ≤ (n : Int)) := by omega
      have n2 : (n : Int) < ((n - 1 + 2 : Nat) : Int) := by omega
      generalize ((n - 1 + 2 : Nat) : Int) = I at *
      go_wp2
      go_ret
      exact ⟨A, cap, rfl, HM.out, HB.out⟩
    | succ g =>
      have HC := Lib.hid (specJoin (m + 2) w.heap.size A cap (upK m) wr (by omega) (by omega) (upK_ok m (by omega)) (by have := upK_len m (by omega); omega) HB.out.size HM.out)
      have n1 : ((m + 2 : Nat) : Int) ≤ (n : Int) := by omega
      have b1 : ((m + 2 : Nat) : Int) ≤ 8 := by omega
      have b2 : 0 ≤ ((m + 2 : Nat) : Int) := by omega
      have e3 : Hid (((m + 2 : Nat) : Int) + 1 = ((m + 1 + 2 : Nat) : Int)) := Lib.hid (by omega)
      generalize ((m + 2 : Nat) : Int) = I at *
      go_wp2_with fail
      refine HC.out.mono ?_
      rintro e w1 ⟨A1, cap1, rfl, hm1, hg1⟩
      have HM1 := Lib.hid hm1
      have HB1 := Lib.hid (HB.out.trans hg1)
      clear hm1 hg1
      go_wp2
      go_roundg g
      case measure => omega
      case rel => exact ⟨m + 1, A1, cap1, by omega, rfl, by first | rfl | exact congrArg (Value.int .i64) e3.out | exact congrArg (Value.int .i64) (by omega), HM1, HB1⟩

theorem per_range {p : Int × Int} (h : Red p) : (2 ≤ shortP p.2 → perS p = shortP p.2) ∧ (shortP p.2 < 2 → ¬ (2 ≤ perS p ∧ perS p ≤ 8)) := by
  have hle := shortP_le p.2
  constructor
  · intro h2
    exact (per_short h (by omega) hle).2 rfl
  · rintro h2 ⟨h3, h4⟩
    have := (per_short h (n := perS p) (by omega) h4).1 rfl
    omega

set_option maxHeartbeats 1000000 in
theorem specCode (n d : Int) (w : World) :
    Calls Try.prog 89 #[ang n d] w fun e w' => e = .returned (.int .i64 (poC n d)) ∧ Below w.heap.size w w' := by
  have HI := Lib.hid (fun w => specIs1 n d w)
  rcases po_cases n d with ⟨h1, h2, _⟩ | ⟨h1, h2, h3, _⟩ | ⟨h1, h2, h3, _⟩
  · rw [h2]
    rw [h1] at HI
    clear h1 h2
    go_enter Try.func89, Try.ntmps89
    go_wp2_with fail
    refine (HI.out _).mono ?_
    rintro e w1 ⟨rfl, hb1⟩
    obtain ⟨hc1, hf1⟩ := bcell hb1
    have hz1_0 : w.heap.size < w1.heap.size := by have := hb1.size; first | omega | (simp at this; omega)
    go_wp2
    go_ret
    refine ⟨rfl, ?_⟩
    (repeat' (first | (with_reducible exact Below.refl _ _) | (with_reducible assumption) | (with_reducible refine belowNext ?_ (by with_reducible assumption)) | (with_reducible refine belowAlloc ?_ _) | (with_reducible refine Below.drew ?_) | (with_reducible refine below_drewN ?_ _) | (with_reducible refine Below.setCell ?_ ?_ _) | go_size | (with_reducible refine sizeOf' ?_) | (with_reducible refine sizeAdd ?_) | (dsimp only; first | (with_reducible refine sizeOf' ?_) | (with_reducible refine sizeAdd ?_))))
  · rw [h3]
    have HR := per_range (ang_red h1)
    have HS := Lib.hid (fun w => specPer n d w (ang_red h1))
    rw [h1] at HI
    have hn := HR.2 h2
    generalize perS (n, d) = sp at *
    have t : (decide ((2 : Int) ≤ (sp : Int)) && decide ((sp : Int) ≤ 8)) = false := by
      by_cases a : 2 ≤ sp
      · have : ¬ sp ≤ 8 := fun b => hn ⟨a, b⟩
        simp; omega
      · simp; omega
    clear h1 h2 h3 HR hn
    go_enter Try.func89, Try.ntmps89
    go_wp2_with fail
    refine (HI.out _).mono ?_
    rintro e w1 ⟨rfl, hb1⟩
    obtain ⟨hc1, hf1⟩ := bcell hb1
    have hz1_0 : w.heap.size < w1.heap.size := by have := hb1.size; first | omega | (simp at this; omega)
    go_wp2_with fail
    refine (HS.out _).mono ?_
    rintro e w2 ⟨rfl, hb2⟩
    obtain ⟨hc2, hf2⟩ := bcell hb2
    have hz2_0 : w.heap.size < w2.heap.size := by have := hb2.size; first | omega | (simp at this; omega)
    go_wp2_with fail
    refine (inRange _ _ _ _).mono ?_
    rintro e w3 ⟨rfl, rfl⟩
    rw [t]
    go_wp2
    go_ret
    refine ⟨rfl, ?_⟩
    (repeat' (first | (with_reducible exact Below.refl _ _) | (with_reducible assumption) | (with_reducible refine belowNext ?_ (by with_reducible assumption)) | (with_reducible refine belowAlloc ?_ _) | (with_reducible refine Below.drew ?_) | (with_reducible refine below_drewN ?_ _) | (with_reducible refine Below.setCell ?_ ?_ _) | go_size | (with_reducible refine sizeOf' ?_) | (with_reducible refine sizeAdd ?_) | (dsimp only; first | (with_reducible refine sizeOf' ?_) | (with_reducible refine sizeAdd ?_))))
  · rw [h3]
    have HR := per_range (ang_red h1)
    have HS := Lib.hid (fun w => specPer n d w (ang_red h1))
    have hle := shortP_le d
    have hn : perS (n, d) = shortP d := HR.1 h2
    rw [h1] at HI
    rw [hn] at HS
    generalize shortP d = sp at *
    have t : (decide ((2 : Int) ≤ (sp : Int)) && decide ((sp : Int) ≤ 8)) = true := by simp; omega
    clear h1 h2 h3 HR hn
    go_enter Try.func89, Try.ntmps89
    go_wp2_with fail
    refine (HI.out _).mono ?_
    rintro e w1 ⟨rfl, hb1⟩
    obtain ⟨hc1, hf1⟩ := bcell hb1
    have hz1_0 : w.heap.size < w1.heap.size := by have := hb1.size; first | omega | (simp at this; omega)
    go_wp2_with fail
    refine (HS.out _).mono ?_
    rintro e w2 ⟨rfl, hb2⟩
    obtain ⟨hc2, hf2⟩ := bcell hb2
    have hz2_0 : w.heap.size < w2.heap.size := by have := hb2.size; first | omega | (simp at this; omega)
    go_wp2_with fail
    refine (inRange _ _ _ _).mono ?_
    rintro e w3 ⟨rfl, rfl⟩
    rw [t]
    go_wp2
    go_ret
    refine ⟨rfl, ?_⟩
    (repeat' (first | (with_reducible exact Below.refl _ _) | (with_reducible assumption) | (with_reducible refine belowNext ?_ (by with_reducible assumption)) | (with_reducible refine belowAlloc ?_ _) | (with_reducible refine Below.drew ?_) | (with_reducible refine below_drewN ?_ _) | (with_reducible refine Below.setCell ?_ ?_ _) | go_size | (with_reducible refine sizeOf' ?_) | (with_reducible refine sizeAdd ?_) | (dsimp only; first | (with_reducible refine sizeOf' ?_) | (with_reducible refine sizeAdd ?_))))

theorem findP_skip (x : Int × Int) : ∀ (l : List (Lf4 × Nat)) (k : Nat), (∀ j, j < k → ∀ q, l[j]? = some q → inP x q.1 = false) → findP x l = findP x (l.drop k)
  | _, 0, _ => rfl
  | [], k + 1, _ => by simp
  | q :: l, k + 1, h => by
    have h0 := h 0 (by omega) q rfl
    have e : findP x (q :: l) = findP x l := by simp [findP, h0]
    rw [e, List.drop_succ_cons]
    exact findP_skip x l k (fun j hj r hr => h (j + 1) (by omega) r (by simpa using hr))
theorem findP_hit {x : Int × Int} {l : List (Lf4 × Nat)} {k : Nat} {q : Lf4 × Nat} (h : ∀ j, j < k → ∀ q, l[j]? = some q → inP x q.1 = false) (hq : l[k]? = some q) (hi : inP x q.1 = true) : findP x l = q.1 := by
  rw [findP_skip x l k h]
  obtain ⟨hk, rfl⟩ := List.getElem?_eq_some_iff.1 hq
  rw [List.drop_eq_getElem_cons hk]
  simp [findP, hi]
theorem findP_end {x : Int × Int} {l : List (Lf4 × Nat)} {k : Nat} (h : ∀ j, j < k → ∀ q, l[j]? = some q → inP x q.1 = false) (hk : k = l.length) : findP x l = (0, 0, 0, 0) := by
  rw [findP_skip x l k h, hk, List.drop_length]; rfl

set_option maxRecDepth 100000 in
set_option maxHeartbeats 1000000 in
theorem specPair (n d : Int) (w : World) (h1 : isAng n d = true) (h2 : 2 ≤ shortP d) :
    Calls Try.prog 90 #[ang n d] w fun e w' => e = .returned (leafV (poP n d).1 (poP n d).2.1 (poP n d).2.2.1 (poP n d).2.2.2) ∧ Below w.heap.size w w' := by
  have HS := Lib.hid (fun w => specPer n d w (ang_red h1))
  have h3 : poP n d = findP (n, d) (upK (shortP d - 1)) := by unfold poP; simp [h1, h2]
  have hle := shortP_le d
  have hn : perS (n, d) = shortP d := (per_range (ang_red h1)).1 h2
  rw [hn] at HS
  have HX := Lib.hid h3
  generalize poP n d = V at *
  generalize shortP d = sp at *
  have HU := Lib.hid (fun w => specPairs sp w (by omega) hle)
  have hll := upK_len (sp - 1) (by omega)
  generalize upK (sp - 1) = l at *
  obtain ⟨len, hl⟩ : ∃ len, l.length = len := ⟨_, rfl⟩
  rw [hl] at HU hll
  have HL := Lib.hid hl
  have hlen : len ≤ 100000 := by omega
  clear h1 h2 h3 hn hl hll
  go_enter Try.func90, Try.ntmps90
  go_wp2_with fail
  refine (HS.out _).mono ?_
  rintro e w1 ⟨rfl, hb1⟩
  obtain ⟨hc1, hf1⟩ := bcell hb1
  have hz1_0 : w.heap.size < w1.heap.size := by have := hb1.size; first | omega | (simp at this; omega)
  have hz1_1 : w.heap.size + 1 < w1.heap.size := by have := hb1.size; first | omega | (simp at this; omega)
  have q1_0_0 : w1.cell? ⟨w.heap.size, 0, none⟩ = some (.int .i64 n) := cellThru hb1 (by simp <;> omega) (by simp [go_sem])
  have q1_0_1 : w1.cell? ⟨w.heap.size, 1, none⟩ = some (.int .i64 d) := cellThru hb1 (by simp <;> omega) (by simp [go_sem])
  have q1_1_0 : w1.cell? ⟨w.heap.size + 1, 0, none⟩ = some (.int .i64 0) := cellThru hb1 (by simp <;> omega) (by simp [go_sem])
  have q1_1_1 : w1.cell? ⟨w.heap.size + 1, 1, none⟩ = some (.int .i64 0) := cellThru hb1 (by simp <;> omega) (by simp [go_sem])
  have q1_1_2 : w1.cell? ⟨w.heap.size + 1, 2, none⟩ = some (.int .i64 0) := cellThru hb1 (by simp <;> omega) (by simp [go_sem])
  have q1_1_3 : w1.cell? ⟨w.heap.size + 1, 3, none⟩ = some (.int .i64 0) := cellThru hb1 (by simp <;> omega) (by simp [go_sem])
  have j1_1_0 : w1.frozen? ⟨w.heap.size + 1, 0, none⟩ = false := frozThru hb1 (by simp <;> omega) (by simp [go_sem])
  have j1_1_1 : w1.frozen? ⟨w.heap.size + 1, 1, none⟩ = false := frozThru hb1 (by simp <;> omega) (by simp [go_sem])
  have j1_1_2 : w1.frozen? ⟨w.heap.size + 1, 2, none⟩ = false := frozThru hb1 (by simp <;> omega) (by simp [go_sem])
  have j1_1_3 : w1.frozen? ⟨w.heap.size + 1, 3, none⟩ = false := frozThru hb1 (by simp <;> omega) (by simp [go_sem])
  have B1 : Below w.heap.size w w1 := by
    (repeat' (first | (with_reducible exact Below.refl _ _) | (with_reducible assumption) | (with_reducible refine belowNext ?_ (by with_reducible assumption)) | (with_reducible refine belowAlloc ?_ _) | (with_reducible refine Below.drew ?_) | (with_reducible refine below_drewN ?_ _) | (with_reducible refine Below.setCell ?_ ?_ _) | go_size | (with_reducible refine sizeOf' ?_) | (with_reducible refine sizeAdd ?_) | (dsimp only; first | (with_reducible refine sizeOf' ?_) | (with_reducible refine sizeAdd ?_))))
  go_wp2_with fail
  refine (HU.out _).mono ?_
  rintro e w2 ⟨A, cap, rfl, ho2, hb2⟩
  have HB2 : Hid (Below w.heap.size w w2) := Lib.hid (belowNext B1 hb2)
  have HR2 : Hid (LfRow w2 w2.heap.size A (l.map (·.1))) := Lib.hid (rowP_of (by rw [List.length_map]; exact HL.out) ho2)
  have x0 := cellThru hb2 hz1_0 q1_0_0
  have x1 := cellThru hb2 hz1_0 q1_0_1
  have HC2 : Hid (Cells4 w2 (w.heap.size + 1) 0 0 0 0 0) := Lib.hid ⟨cellThru hb2 hz1_1 q1_1_0, cellThru hb2 hz1_1 q1_1_1, cellThru hb2 hz1_1 q1_1_2, cellThru hb2 hz1_1 q1_1_3⟩
  have HF2 : Hid (Free4 w2 (w.heap.size + 1) 0) := Lib.hid ⟨frozThru hb2 hz1_1 j1_1_0, frozThru hb2 hz1_1 j1_1_1, frozThru hb2 hz1_1 j1_1_2, frozThru hb2 hz1_1 j1_1_3⟩
  clear hc1 hf1 hb1 ho2 hb2 q1_0_0 q1_0_1 q1_1_0 q1_1_1 q1_1_2 q1_1_3 j1_1_0 j1_1_1 j1_1_2 j1_1_3 B1 hz1_0 hz1_1
  go_wp2_with fail
  go_loopg [4] len (fun g s4 wr => ∃ k : Nat, k + g = len ∧ s4 = .int .i64 k ∧ Hid (∀ j, j < k → ∀ q, l[j]? = some q → inP (n, d) q.1 = false) ∧ Hid (∃ nq, wr = w2.drewN nq))
  case atStart => exact ⟨0, by omega, rfl, Lib.hid (fun j hj => absurd hj (by omega)), Lib.hid ⟨0, rfl⟩⟩
  case round =>
    obtain ⟨k, hkg, rfl, HN, HW⟩ := hrel
    obtain ⟨nq0, rfl⟩ := HW.out
    obtain ⟨r0, r1, r2, r3⟩ := HC2.out
    obtain ⟨f0, f1, f2, f3⟩ := HF2.out
    have r1' : w2.cell? ⟨w.heap.size + 1, 1, none⟩ = some (.int .i64 0) := r1
    have r2' : w2.cell? ⟨w.heap.size + 1, 2, none⟩ = some (.int .i64 0) := r2
    have r3' : w2.cell? ⟨w.heap.size + 1, 3, none⟩ = some (.int .i64 0) := r3
    have f1' : w2.frozen? ⟨w.heap.size + 1, 1, none⟩ = false := f1
    have f2' : w2.frozen? ⟨w.heap.size + 1, 2, none⟩ = false := f2
    have f3' : w2.frozen? ⟨w.heap.size + 1, 3, none⟩ = false := f3
    cases gk with
    | zero =>
      obtain rfl : k = len := by omega
      have hv : V = (0, 0, 0, 0) := by rw [HX.out]; exact findP_end HN.out HL.out.symm
      subst hv
      have hB := HB2.out
      go_wp2
      refine bodyPost_ret (v := leafV 0 0 0 0) (by simp [results, Try.results90, go_sem, r0, r1', r2', r3']) rfl ⟨rfl, ?_⟩
      have hle1 : w.heap.size ≤ w.heap.size + 1 := Nat.le_succ _
      exact ((((below_drewN hB _).setCell hle1 _).setCell hle1 _).setCell hle1 _).setCell hle1 _
    | succ g =>
      have hlt : k < len := by omega
      have hkl : k < l.length := by have := HL.out; omega
      obtain ⟨⟨⟨p1, p2, p3, p4⟩, per⟩, hq⟩ : ∃ q, l[k]? = some q := ⟨_, List.getElem?_eq_getElem hkl⟩
      have hne : l.map (·.1) ≠ [] := by intro h; rw [List.map_eq_nil_iff] at h; rw [h] at hkl; simp at hkl
      obtain ⟨g0, off, rfl, hgb, hcells⟩ := HR2.out hne
      obtain ⟨y0, y1, y2, y3⟩ := hcells k p1 p2 p3 p4 (by rw [List.getElem?_map, hq]; rfl)
      have HQ := Lib.hid hq
      obtain ⟨t1, ht1⟩ : ∃ t, eqA p1 p2 n d = t := ⟨_, rfl⟩
      obtain ⟨t2, ht2⟩ : ∃ t, eqA p3 p4 n d = t := ⟨_, rfl⟩
      have Q1 := fun W => eqlAng p1 p2 n d W
      have Q2 := fun W => eqlAng p3 p4 n d W
      rw [ht1] at Q1
      rw [ht2] at Q2
      have HIn : Hid (inP (n, d) (p1, p2, p3, p4) = (t1 || t2)) := Lib.hid (by unfold inP; rw [← ht1, ← ht2])
      clear hcells hne hq ht1 ht2
      cases t1 <;> cases t2
      all_goals
        go_wp2_with fail
        go_quiet (fail)
        go_wp2
      · go_roundg g
        case measure => omega
        case rel =>
          refine ⟨k + 1, by omega, by go_num, Lib.hid (fun j hj q hq => ?_), Lib.hid ⟨_, rfl⟩⟩
          by_cases hjk : j = k
          · subst hjk
            rw [HQ.out] at hq
            injection hq with hq
            rw [← hq]; exact HIn.out
          · exact HN.out j (by omega) q hq
      · have hv : V = (p1, p2, p3, p4) := by rw [HX.out]; exact findP_hit HN.out HQ.out (by rw [HIn.out]; rfl)
        subst hv
        have hB := HB2.out
        refine bodyPost_ret (v := leafV p1 p2 p3 p4) (by simp [results, Try.results90, go_sem, r0, r1', r2', r3']) rfl ⟨rfl, ?_⟩
        have hle1 : w.heap.size ≤ w.heap.size + 1 := Nat.le_succ _
        exact ((((below_drewN hB _).setCell hle1 _).setCell hle1 _).setCell hle1 _).setCell hle1 _
      · have hv : V = (p1, p2, p3, p4) := by rw [HX.out]; exact findP_hit HN.out HQ.out (by rw [HIn.out]; rfl)
        subst hv
        have hB := HB2.out
        refine bodyPost_ret (v := leafV p1 p2 p3 p4) (by simp [results, Try.results90, go_sem, r0, r1', r2', r3']) rfl ⟨rfl, ?_⟩
        have hle1 : w.heap.size ≤ w.heap.size + 1 := Nat.le_succ _
        exact ((((below_drewN hB _).setCell hle1 _).setCell hle1 _).setCell hle1 _).setCell hle1 _
      · have hv : V = (p1, p2, p3, p4) := by rw [HX.out]; exact findP_hit HN.out HQ.out (by rw [HIn.out]; rfl)
        subst hv
        have hB := HB2.out
        refine bodyPost_ret (v := leafV p1 p2 p3 p4) (by simp [results, Try.results90, go_sem, r0, r1', r2', r3']) rfl ⟨rfl, ?_⟩
        have hle1 : w.heap.size ≤ w.heap.size + 1 := Nat.le_succ _
        exact ((((below_drewN hB _).setCell hle1 _).setCell hle1 _).setCell hle1 _).setCell hle1 _

set_option maxHeartbeats 1000000 in
theorem specPairOf (n d : Int) (w : World) :
    Calls Try.prog 68 #[ang n d] w fun e w' => e = .returned (res5 (poP n d) (poC n d)) ∧ Below w.heap.size w w' := by
  have HC := Lib.hid (fun w => specCode n d w)
  by_cases hc : poC n d = 0
  · have hcase : isAng n d = true ∧ 2 ≤ shortP d := by
      rcases po_cases n d with ⟨h1, h2, h3⟩ | ⟨h1, h2, h3, h4⟩ | ⟨h1, h2, h3, h4⟩
      · omega
      · omega
      · exact ⟨h1, h2⟩
    have HP := Lib.hid (fun w => specPair n d w hcase.1 hcase.2)
    rw [hc] at HC ⊢
    generalize poP n d = V at *
    obtain ⟨a, b, x, y⟩ := V
    dsimp only at HP ⊢
    clear hc hcase
    go_enter Try.func68, Try.ntmps68
    go_wp2_with fail
    refine (HC.out _).mono ?_
    rintro e w1 ⟨rfl, hb1⟩
    obtain ⟨hc1, hf1⟩ := bcell hb1
    have hz1_0 : w.heap.size < w1.heap.size := by have := hb1.size; first | omega | (simp at this; omega)
    have hz1_1 : w.heap.size + 1 < w1.heap.size := by have := hb1.size; first | omega | (simp at this; omega)
    have q1_1_0 : w1.cell? ⟨w.heap.size + 1, 0, none⟩ = some (.int .i64 0) := cellThru hb1 (by simp <;> omega) (by simp [go_sem])
    have q1_1_1 : w1.cell? ⟨w.heap.size + 1, 1, none⟩ = some (.int .i64 0) := cellThru hb1 (by simp <;> omega) (by simp [go_sem])
    have q1_1_2 : w1.cell? ⟨w.heap.size + 1, 2, none⟩ = some (.int .i64 0) := cellThru hb1 (by simp <;> omega) (by simp [go_sem])
    have q1_1_3 : w1.cell? ⟨w.heap.size + 1, 3, none⟩ = some (.int .i64 0) := cellThru hb1 (by simp <;> omega) (by simp [go_sem])
    go_wp2_with fail
    refine (HP.out _).mono ?_
    rintro e w2 ⟨rfl, hb2⟩
    obtain ⟨hc2, hf2⟩ := bcell hb2
    have hz2_0 : w.heap.size < w2.heap.size := by have := hb2.size; first | omega | (simp at this; omega)
    have hz2_1 : w.heap.size + 1 < w2.heap.size := by have := hb2.size; first | omega | (simp at this; omega)
    have q2_1_0 : w2.cell? ⟨w.heap.size + 1, 0, none⟩ = some (.int .i64 0) := by first | exact cellThru hb2 hz1_1 q1_1_0 | (refine cellThru hb2 ?_ (cellThru (belowAlloc (Below.refl _ _) _) hz1_1 q1_1_0); first | omega | (simp; omega)) | (refine cellThru hb2 ?_ (cellThru (belowAlloc (belowAlloc (Below.refl _ _) _) _) hz1_1 q1_1_0); first | omega | (simp; omega)) | (refine cellThru hb2 ?_ ?_; (first | omega | (simp; omega) | go_size); simp [go_sem, q1_1_0])
    have q2_1_1 : w2.cell? ⟨w.heap.size + 1, 1, none⟩ = some (.int .i64 0) := by first | exact cellThru hb2 hz1_1 q1_1_1 | (refine cellThru hb2 ?_ (cellThru (belowAlloc (Below.refl _ _) _) hz1_1 q1_1_1); first | omega | (simp; omega)) | (refine cellThru hb2 ?_ (cellThru (belowAlloc (belowAlloc (Below.refl _ _) _) _) hz1_1 q1_1_1); first | omega | (simp; omega)) | (refine cellThru hb2 ?_ ?_; (first | omega | (simp; omega) | go_size); simp [go_sem, q1_1_1])
    have q2_1_2 : w2.cell? ⟨w.heap.size + 1, 2, none⟩ = some (.int .i64 0) := by first | exact cellThru hb2 hz1_1 q1_1_2 | (refine cellThru hb2 ?_ (cellThru (belowAlloc (Below.refl _ _) _) hz1_1 q1_1_2); first | omega | (simp; omega)) | (refine cellThru hb2 ?_ (cellThru (belowAlloc (belowAlloc (Below.refl _ _) _) _) hz1_1 q1_1_2); first | omega | (simp; omega)) | (refine cellThru hb2 ?_ ?_; (first | omega | (simp; omega) | go_size); simp [go_sem, q1_1_2])
    have q2_1_3 : w2.cell? ⟨w.heap.size + 1, 3, none⟩ = some (.int .i64 0) := by first | exact cellThru hb2 hz1_1 q1_1_3 | (refine cellThru hb2 ?_ (cellThru (belowAlloc (Below.refl _ _) _) hz1_1 q1_1_3); first | omega | (simp; omega)) | (refine cellThru hb2 ?_ (cellThru (belowAlloc (belowAlloc (Below.refl _ _) _) _) hz1_1 q1_1_3); first | omega | (simp; omega)) | (refine cellThru hb2 ?_ ?_; (first | omega | (simp; omega) | go_size); simp [go_sem, q1_1_3])
    go_wp2
    refine bodyPost_ret (v := res5 (a, b, x, y) 0) (by simp [results, Try.results68, go_sem, q2_1_0, q2_1_1, q2_1_2, q2_1_3]) rfl ⟨rfl, ?_⟩
    (repeat' (first | (with_reducible exact Below.refl _ _) | (with_reducible assumption) | (with_reducible refine belowNext ?_ (by with_reducible assumption)) | (with_reducible refine belowAlloc ?_ _) | (with_reducible refine Below.drew ?_) | (with_reducible refine below_drewN ?_ _) | (with_reducible refine Below.setCell ?_ ?_ _) | go_size | (with_reducible refine sizeOf' ?_) | (with_reducible refine sizeAdd ?_) | (dsimp only; first | (with_reducible refine sizeOf' ?_) | (with_reducible refine sizeAdd ?_))))
  · have hcase : poP n d = (0, 0, 0, 0) := by
      rcases po_cases n d with ⟨h1, h2, h3⟩ | ⟨h1, h2, h3, h4⟩ | ⟨h1, h2, h3, h4⟩
      · exact h3
      · exact h4
      · exact absurd h3 hc
    rw [hcase]
    have hcb : (poC n d == 0) = false := beq_eq_false_iff_ne.2 hc
    generalize poC n d = c at *
    clear hcase
    go_enter Try.func68, Try.ntmps68
    go_wp2_with fail
    refine (HC.out _).mono ?_
    rintro e w1 ⟨rfl, hb1⟩
    obtain ⟨hc1, hf1⟩ := bcell hb1
    have hz1_0 : w.heap.size < w1.heap.size := by have := hb1.size; first | omega | (simp at this; omega)
    have hz1_1 : w.heap.size + 1 < w1.heap.size := by have := hb1.size; first | omega | (simp at this; omega)
    have q1_1_0 : w1.cell? ⟨w.heap.size + 1, 0, none⟩ = some (.int .i64 0) := cellThru hb1 (by simp <;> omega) (by simp [go_sem])
    have q1_1_1 : w1.cell? ⟨w.heap.size + 1, 1, none⟩ = some (.int .i64 0) := cellThru hb1 (by simp <;> omega) (by simp [go_sem])
    have q1_1_2 : w1.cell? ⟨w.heap.size + 1, 2, none⟩ = some (.int .i64 0) := cellThru hb1 (by simp <;> omega) (by simp [go_sem])
    have q1_1_3 : w1.cell? ⟨w.heap.size + 1, 3, none⟩ = some (.int .i64 0) := cellThru hb1 (by simp <;> omega) (by simp [go_sem])
    go_wp2
    refine bodyPost_ret (v := res5 (0, 0, 0, 0) c) (by simp [results, Try.results68, go_sem, q1_1_0, q1_1_1, q1_1_2, q1_1_3]) rfl ⟨rfl, ?_⟩
    (repeat' (first | (with_reducible exact Below.refl _ _) | (with_reducible assumption) | (with_reducible refine belowNext ?_ (by with_reducible assumption)) | (with_reducible refine belowAlloc ?_ _) | (with_reducible refine Below.drew ?_) | (with_reducible refine below_drewN ?_ _) | (with_reducible refine Below.setCell ?_ ?_ _) | go_size | (with_reducible refine sizeOf' ?_) | (with_reducible refine sizeAdd ?_) | (dsimp only; first | (with_reducible refine sizeOf' ?_) | (with_reducible refine sizeAdd ?_))))

end Go.Proofs.Ytnciiodgkanpjaa

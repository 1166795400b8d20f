/-
  Contracts: the ray pairs of a period, as the program joins them.
-/
import Derived.Test.YtabddjfgbhnldaaR8
import Derived.Test.YtabddjfgbhnldaaR4
import Derived.Test.YtabddjfgbhnldaaR1
import Derived.Deep.LoopGhost
import Derived.WalkMore
namespace Go.Proofs.Ytabddjfgbhnldaa
open Go.RowKit

theorem zeroBool (w : World) : (zeroValue 4).run Try.prog w = .ok (.bool false) w := by kernel_rfl
theorem cell_grown {W W' : World} {b : Nat} (hg : W.grownBy W' (some b)) {es : Array MapEntry} {c : Nat} (h : W.heap[b]? = some (.map es c)) {p : Addr} {v : Value} (hc : W.cell? p = some v) : W'.cell? p = some v := by
  by_cases e : p.block = b
  · unfold World.cell? at hc
    rw [e, h] at hc
    simp at hc
  · have hlt : p.block < W.heap.size := by
      rcases Nat.lt_or_ge p.block W.heap.size with h1 | h1
      · exact h1
      · simp [World.cell?, Array.getElem?_eq_none h1] at hc
    exact (World.cell?_of_block (hg.block p.block hlt (fun h => e (Option.some.inj h)))).trans hc
theorem belowG {W W1 : World} (hb : Below W.heap.size W W1) : W.grownBy W1 none := ⟨hb.os, hb.tape, hb.output, hb.size, fun i hi _ => hb.block i hi⟩

theorem cellG {W W' : World} {row : Option Nat} (hg : W.grownBy W' row) {b o : Nat} {v : Value} (hlt : b < W.heap.size) (hne : some b ≠ row) (hc : W.cell? ⟨b, o, none⟩ = some v) : W'.cell? ⟨b, o, none⟩ = some v :=
  (World.cell?_of_block (hg.block b hlt hne)).trans hc
theorem AngRow.carry {W W' : World} {B : Nat} {Aa : Option Addr} {l : List (Int × Int)} (h : AngRow W B Aa l) (hc : ∀ (p : Addr) v, p.block < B → W.cell? p = some v → W'.cell? p = some v) : AngRow W' B Aa l := by
  intro hl
  obtain ⟨b, off, e, hb, hx⟩ := h hl
  exact ⟨b, off, e, hb, fun i n d hi => ⟨hc _ _ hb (hx i n d hi).1, hc _ _ hb (hx i n d hi).2⟩⟩

/-- What holds between two rounds of the joining: M: what is joined; b, J: the blocks of the maps of pairs and of joined angles. -/
structure JoinI (w : World) (b J : Nat) (L : List (Lf4 × Nat)) (A : List (Int × Int)) (N : Nat) (Aa : Option Addr) (M : List (Nat × Nat)) (W : World) : Prop where
  gr : w.grownBy W (some b)
  mp : W.ownsMap Try.prog 28 (plainElem Try.prog 2) b (plOf L A N M).length (pD (plOf L A N M))
  mj : W.ownsMap Try.prog 25 (plainElem Try.prog 4) J M.length (jD A (upOf M))
  row : AngRow W J Aa A
  lo : w.heap.size ≤ J
  hb : b < w.heap.size
theorem JoinI.turn {w W W1 : World} {b J N : Nat} {L : List (Lf4 × Nat)} {A : List (Int × Int)} {Aa : Option Addr} {M : List (Nat × Nat)} {row : Option Nat} (h : JoinI w b J L A N Aa M W) (hg : W.grownBy W1 row) (hr : ∀ r, row = some r → J < r) : JoinI w b J L A N Aa M W1 := by
  have h1 := h.lo
  have h2 := h.hb
  have h3 := h.mj.lt
  refine ⟨h.gr.andThen hg (fun j hj => .inl (by have := hr j hj; omega)), h.mp.kept hg (fun e => by have := hr b e.symm; omega), h.mj.kept hg (fun e => by have := hr J e.symm; omega), h.row.carry (fun p v hp hc => ?_), h1, h2⟩
  exact (World.cell?_of_block (hg.block p.block (by omega) (fun e => by have := hr _ e.symm; omega))).trans hc
theorem JoinI.next {w W W1 : World} {b J N : Nat} {L : List (Lf4 × Nat)} {A : List (Int × Int)} {Aa : Option Addr} {M : List (Nat × Nat)} (h : JoinI w b J L A N Aa M W) (hb : Below W.heap.size W W1) : JoinI w b J L A N Aa M W1 :=
  h.turn (belowG hb) (fun r e => by cases e)
theorem JoinI.put {w W W1 W2 : World} {b J N i k : Nat} {L : List (Lf4 × Nat)} {A : List (Int × Int)} {Aa : Option Addr} {M : List (Nat × Nat)} (h : JoinI w b J L A N Aa M W)
    (m1 : W1.ownsMap Try.prog 28 (plainElem Try.prog 2) b ((plOf L A N M).length + 1) ((pD (plOf L A N M)).put (kp (lfOf (at_ A i) (at_ A k))) (.lit (.int .i64 (N : Int))))) (g1 : W.grownBy W1 (some b))
    (m2 : W2.ownsMap Try.prog 25 (plainElem Try.prog 4) J (M.length + 1) ((jD A (upOf M)).put (kl (at_ A k)) (.lit (.bool true)))) (g2 : W1.grownBy W2 (some J)) : JoinI w b J L A N Aa (M ++ [(i, k)]) W2 := by
  have h1 := h.lo
  have h2 := h.hb
  have h3 := h.mj.lt
  have hs := g1.size
  obtain ⟨es, clock, hbm, _⟩ := h.mp
  refine ⟨(h.gr.andThen g1 (fun j hj => .inr hj)).andThen g2 (fun j hj => .inl (by cases hj; exact h1)), ?_, ?_, ?_, h1, h2⟩
  · have := m1.kept g2 (fun e => by have := Option.some.inj e; omega)
    rw [plOf_snoc, pD_snoc, List.length_append]
    exact this
  · rw [upOf_snoc, jD_snoc, List.length_append]
    exact m2
  · refine h.row.carry (fun p v hp hc => ?_)
    have c1 := cell_grown g1 hbm hc
    exact (World.cell?_of_block (g2.block p.block (by omega) (fun e => by have := Option.some.inj e; omega))).trans c1

/-- The boxes of a round: the lower angle, the upper one, their pair. -/
structure Bx (W : World) (B7 B9 : Nat) (n d m c : Int) : Prop where
  z : B9 + 1 < W.heap.size
  z7 : B7 < B9
  a0 : W.cell? ⟨B7, 0, none⟩ = some (.int .i64 n)
  a1 : W.cell? ⟨B7, 1, none⟩ = some (.int .i64 d)
  b0 : W.cell? ⟨B9, 0, none⟩ = some (.int .i64 m)
  b1 : W.cell? ⟨B9, 1, none⟩ = some (.int .i64 c)
  c0 : W.cell? ⟨B9 + 1, 0, none⟩ = some (.int .i64 n)
  c1 : W.cell? ⟨B9 + 1, 1, none⟩ = some (.int .i64 d)
  c2 : W.cell? ⟨B9 + 1, 2, none⟩ = some (.int .i64 m)
  c3 : W.cell? ⟨B9 + 1, 3, none⟩ = some (.int .i64 c)
theorem Bx.turn {W W1 : World} {B7 B9 : Nat} {n d m c : Int} {row : Option Nat} (h : Bx W B7 B9 n d m c) (hg : W.grownBy W1 row) (hr : ∀ r, row = some r → r ≠ B7 ∧ r ≠ B9 ∧ r ≠ B9 + 1) : Bx W1 B7 B9 n d m c := by
  obtain ⟨z, z7, a0, a1, b0, b1, c0, c1, c2, c3⟩ := h
  have n7 : some B7 ≠ row := fun e => (hr B7 e.symm).1 rfl
  have n9 : some B9 ≠ row := fun e => (hr B9 e.symm).2.1 rfl
  have n10 : some (B9 + 1) ≠ row := fun e => (hr (B9 + 1) e.symm).2.2 rfl
  exact ⟨Nat.lt_of_lt_of_le z hg.size, z7, cellG hg (by omega) n7 a0, cellG hg (by omega) n7 a1, cellG hg (by omega) n9 b0, cellG hg (by omega) n9 b1, cellG hg z n10 c0, cellG hg z n10 c1, cellG hg z n10 c2, cellG hg z n10 c3⟩
theorem Bx.next {W W1 : World} {B7 B9 : Nat} {n d m c : Int} (h : Bx W B7 B9 n d m c) (hb : Below W.heap.size W W1) : Bx W1 B7 B9 n d m c := h.turn (belowG hb) (fun r e => by cases e)

set_option maxRecDepth 100000 in
set_option maxHeartbeats 1000000 in
theorem implJoin (N : Nat) (b : Nat) (L : List (Lf4 × Nat)) (w : World) (h1 : 2 ≤ N) (h8 : N ≤ 8) (hL : allP L) (hlen : L.length ≤ 100000)
    (hm : w.ownsMap Try.prog 28 (plainElem Try.prog 2) b L.length (pD L)) :
    Calls Try.prog 50 #[.int .i64 N, .map (some b)] w fun e w' => e = .returned (.tuple #[]) ∧ w'.ownsMap Try.prog 28 (plainElem Try.prog 2) b (plOf L (angF N (2 ^ N - 1 : Nat) (2 ^ N - 1)) N (joinM L (angF N (2 ^ N - 1 : Nat) (2 ^ N - 1)) N)).length (pD (plOf L (angF N (2 ^ N - 1 : Nat) (2 ^ N - 1)) N (joinM L (angF N (2 ^ N - 1 : Nat) (2 ^ N - 1)) N))) ∧ w.grownBy w' (some b) := by
  have hmm := @run_makeMap Try.prog
  have HA := Lib.hid (implAoP N w (by omega) h8)
  have hp := pow_le8 h8
  have hq : 4 ≤ 2 ^ N := by
    obtain ⟨m, rfl⟩ : ∃ m, N = m + 2 := ⟨N - 2, by omega⟩
    have := pow_ge1 m
    rw [Nat.pow_succ, Nat.pow_succ]; omega
  have HAsc := Lib.hid (angF_Asc (N := N) (D := 2 ^ N - 1) (by omega) (by omega))
  have hAl := angF_len N (2 ^ N - 1 : Nat) (2 ^ N - 1)
  generalize angF N (2 ^ N - 1 : Nat) (2 ^ N - 1) = A at *
  have hA300 : A.length ≤ 255 := by omega
  clear hp hq hAl
  obtain ⟨len, hl⟩ : ∃ len, A.length = len := ⟨_, rfl⟩
  rw [hl] at hA300 HA
  have HLen := Lib.hid hl
  have HM := Lib.hid hm
  have HLP := Lib.hid hL
  clear hl hm hL
  go_enter Try.func50, Try.ntmps50
  go_wp2
  go_step3
  go_wp2_with fail
  refine HA.out.mono ?_
  rintro e w1 ⟨Aa, cap, hcap, rfl, hown, hb1⟩
  have start : JoinI w b (w1.heap.size) L A N Aa [] (w1.alloc (.map #[] 0)) := by
    have h0 : b < w.heap.size := HM.out.lt
    have m1 : (w1.alloc (.map #[] 0)).ownsMap Try.prog 28 (plainElem Try.prog 2) b (plOf L A N []).length (pD (plOf L A N [])) := by
      have e : plOf L A N [] = L := by simp [plOf]
      rw [e]
      exact (HM.out.kept (belowG hb1) (by simp)).alloc _
    refine ⟨(belowG (belowAlloc hb1 _)).but _, m1, World.ownsMap_made _ _ _ _, hown.row.below (belowAlloc (Below.refl _ _) _), ?_, h0⟩
    exact hb1.size
  have HS := Lib.hid start
  have hz := hb1.size
  clear hown hb1 start
  obtain ⟨J, hJ⟩ : ∃ J, w1.heap.size = J := ⟨_, rfl⟩
  rw [hJ] at HS
  go_wp2_with fail
  clear hJ
  clear hmm
  go_step3
  go_wp2_with fail
  go_loopg [17] len (fun g s17 wr => ∃ (k : Nat) (M : List (Nat × Nat)), k + g = len ∧ s17 = .int .i64 k ∧ M.length ≤ k ∧ Hid (Joined A.length k M) ∧ Hid (allM L A N (A.length - k) k M = joinM L A N) ∧ Hid (JoinI w b J L A N Aa M wr))
  case atStart => exact ⟨0, [], by omega, rfl, Nat.le_refl _, Lib.hid (Joined.nil _), Lib.hid rfl, HS⟩
  case round =>
    obtain ⟨k, M, hkg, rfl, hMk, HJ, HE, HI⟩ := hrel
    cases gk with
    | zero =>
      obtain rfl : k = len := by omega
      have hM : M = joinM L A N := by
        have := HE.out
        rw [show A.length - k = 0 by have := HLen.out; omega] at this
        exact this
      subst hM
      go_wp2
      rw [Exit.noGoto_normal]
      go_end0
      exact ⟨rfl, HI.out.mp, HI.out.gr⟩
    | succ g =>
      have hlt : k < len := by omega
      have hkl : k < A.length := by have := HLen.out; omega
      have hne : A ≠ [] := by intro h; rw [h] at hkl; simp at hkl
      obtain ⟨gA, off, rfl, hgb, hcells⟩ := HI.out.row hne
      obtain ⟨x0, x1⟩ := hcells k (at_ A k).1 (at_ A k).2 (at_some hkl)
      have HCl := Lib.hid hcells
      have HK := Lib.hid (angKey (at_ A k).1 (at_ A k).2 (red_wf (ang_red (HAsc.out.is k _ (at_some hkl)).1)).1 (red_wf (ang_red (HAsc.out.is k _ (at_some hkl)).1)).2)
      have HC := Lib.hid (jD_at HAsc.out (U := upOf M) (fun j hj => by
        unfold upOf at hj
        rw [List.mem_map] at hj
        obtain ⟨m, hm, rfl⟩ := hj
        exact (HJ.out.lt m hm).2.1) hkl)
      have HMJ := Lib.hid HI.out.mj
      have hJlt := HI.out.mj.lt
      clear hcells hne
      obtain ⟨⟨n, d⟩, hnd⟩ : ∃ p, at_ A k = p := ⟨_, rfl⟩
      rw [hnd] at x0 x1 HK HC
      have HND := Lib.hid hnd
      clear hnd
      dsimp only at x0 x1 HK HC
      cases hc : (upOf M).contains k
      all_goals
        rw [hc] at HC
        have HCC := Lib.hid hc
        clear hc
        go_wp2_with fail
        go_step3
        go_wp2_with (at_lookup; refine wpList_lookup_own_bool _ rfl _ _ 82 rfl 25 4 angLaw Try.underlying82 Try.underlying4 (zeroBool _) J M.length _ rfl (HMJ.out.alloc _) _ _ rfl HK.out _ HC.out ?_)
      · have HI1 := Lib.hid (HI.out.next (belowAlloc (Below.refl _ _) (.cells #[.int .i64 n, .int .i64 d] 25)))
        have z7 : wr.heap.size < (wr.alloc (.cells #[.int .i64 n, .int .i64 d] 25)).heap.size := by simp
        have c70 : (wr.alloc (.cells #[.int .i64 n, .int .i64 d] 25)).cell? ⟨wr.heap.size, 0, none⟩ = some (.int .i64 n) := by simp [go_sem]
        have c71 : (wr.alloc (.cells #[.int .i64 n, .int .i64 d] 25)).cell? ⟨wr.heap.size, 1, none⟩ = some (.int .i64 d) := by simp [go_sem]
        have hB7 : J < wr.heap.size := hJlt
        have hrow0 : len - (k + 1) = 0 → rowM L A N M k (A.length - (k + 1)) (k + 1) = M := fun h => by
          have e : A.length - (k + 1) = 0 := by have := HLen.out; omega
          rw [e]; rfl
        have HR0 := Lib.hid hrow0
        clear hrow0 HMJ HI x0 x1 HK HC
        go_frame
        go_step3
        go_wp2_with fail
        · have hz0 : len - (k + 1) = 0 := by omega
          rw [hz0]
          go_loopg [30] 0 (fun g2 s30 wx => g2 = 0 ∧ s30 = .int .i64 0 ∧ Hid (JoinI w b J L A N (some ⟨gA, off, none⟩) M wx))
          case atStart => exact ⟨rfl, rfl, HI1⟩
          case round =>
            obtain ⟨rfl, rfl, HI2⟩ := hrel
            go_wp2
            rw [Exit.noGoto_normal]
            go_wp2
            have hce : cap = k + 1 := by omega
            rw [← hce]
            go_roundg g
            case measure => omega
            case rel => exact ⟨k + 1, M, by omega, by go_num, by omega, Lib.hid HJ.out.mono, Lib.hid (by rw [← HE.out, allM_row hkl HCC.out, HR0.out hz0]), HI2⟩
        · generalize wr.alloc (.cells #[.int .i64 n, .int .i64 d] 25) = wa at *
          generalize wr.heap.size = B7 at *
          go_loopg [30] (len - (k + 1)) (fun g2 s30 wx => ∃ j : Nat, j + g2 = len - (k + 1) ∧ s30 = .int .i64 j ∧ Hid (rowM L A N M k (A.length - (k + 1 + j)) (k + 1 + j) = rowM L A N M k (A.length - (k + 1)) (k + 1)) ∧ Hid (JoinI w b J L A N (some ⟨gA, off, none⟩) M wx) ∧ B7 < wx.heap.size ∧ wx.cell? ⟨B7, 0, none⟩ = some (.int .i64 n) ∧ wx.cell? ⟨B7, 1, none⟩ = some (.int .i64 d))
          case atStart => exact ⟨0, by omega, rfl, Lib.hid rfl, HI1, z7, c70, c71⟩
          case round =>
            clear HI1 z7 c70 c71
            obtain ⟨j, hjg, rfl, HR, HI, z7, c70, c71⟩ := hrel
            cases gk with
            | zero =>
              have hjl : j = len - (k + 1) := by omega
              go_wp2
              rw [Exit.noGoto_normal]
              go_wp2
              go_roundg g
              case measure => omega
              case rel => exact ⟨k + 1, M, by omega, by go_num, by omega, Lib.hid HJ.out.mono, Lib.hid (by
                rw [← HE.out, allM_row hkl HCC.out, ← HR.out]
                have e : A.length - (k + 1 + j) = 0 := by have := HLen.out; omega
                rw [e]; rfl), HI⟩
            | succ g2 =>
              have hq : k + 1 + j < len := by omega
              have hql : k + 1 + j < A.length := by have := HLen.out; omega
              obtain ⟨q, hqe⟩ : ∃ q, k + 1 + j = q := ⟨_, rfl⟩
              rw [hqe] at hq hql HR
              obtain ⟨⟨m, c⟩, hmc⟩ : ∃ p, at_ A q = p := ⟨_, rfl⟩
              have HMC := Lib.hid hmc
              obtain ⟨y0, y1⟩ : wr.cell? ⟨gA, off + (k + 1) * 2 + j * 2, none⟩ = some (.int .i64 m) ∧ wr.cell? ⟨gA, off + (k + 1) * 2 + j * 2 + 1, none⟩ = some (.int .i64 c) := by
                obtain ⟨g', off', e', _, hx⟩ := HI.out.row (by intro h; rw [h] at hql; simp at hql)
                obtain ⟨rfl, rfl⟩ : gA = g' ∧ off = off' := by simpa using e'
                have := hx q m c (by rw [at_some hql, hmc])
                rw [show off + (k + 1) * 2 + j * 2 = off + q * 2 by omega]
                exact this
              have HK := Lib.hid (angKey m c (by have := (red_wf (ang_red (HAsc.out.is q _ (at_some hql)).1)).1; rw [hmc] at this; exact this) (by have := (red_wf (ang_red (HAsc.out.is q _ (at_some hql)).1)).2; rw [hmc] at this; exact this))
              have HC := Lib.hid (jD_at HAsc.out (U := upOf M) (fun j hj => by
                unfold upOf at hj
                rw [List.mem_map] at hj
                obtain ⟨m, hm, rfl⟩ := hj
                exact (HJ.out.lt m hm).2.1) hql)
              rw [hmc] at HC
              have HMJ := Lib.hid HI.out.mj
              have HMP := Lib.hid HI.out.mp
              clear hmc
              cases hc : (upOf M).contains q
              all_goals
                rw [hc] at HC
                have HCD := Lib.hid hc
                clear hc
                go_wp2_with (first
                  | (at_lookup; refine wpList_lookup_own_bool _ rfl _ _ 82 rfl 25 4 angLaw Try.underlying82 Try.underlying4 (zeroBool _) J M.length _ rfl (HMJ.out.alloc _) _ _ rfl HK.out _ HC.out ?_)
                  | (at_range; refine wpList_range_own _ rfl _ 63 rfl 28 2 rpLaw Try.underlying63 _ b (plOf L A N M).length _ rfl ((HMP.out.alloc _).alloc _) ?_; intro w0 hrg0 hg0 hs0))
              · go_frame
                have e1 : ((wr.alloc (.cells #[.int .i64 m, .int .i64 c] 25)).alloc (.cells #[.int .i64 n, .int .i64 d, .int .i64 m, .int .i64 c] 28)).heap.size = wr.heap.size + 1 + 1 := by simp
                rw [e1] at hrg0 hs0 ⊢
                have BX0 : Bx ((wr.alloc (.cells #[.int .i64 m, .int .i64 c] 25)).alloc (.cells #[.int .i64 n, .int .i64 d, .int .i64 m, .int .i64 c] 28)) B7 wr.heap.size n d m c := by
                  have up : Below wr.heap.size wr ((wr.alloc (.cells #[.int .i64 m, .int .i64 c] 25)).alloc (.cells #[.int .i64 n, .int .i64 d, .int .i64 m, .int .i64 c] 28)) := belowAlloc (belowAlloc (Below.refl _ _) _) _
                  exact ⟨by simp, z7, cellThru up z7 c70, cellThru up z7 c71, by simp [go_sem], by simp [go_sem], by simp [go_sem], by simp [go_sem], by simp [go_sem], by simp [go_sem]⟩
                have BX := Lib.hid (BX0.turn hg0 (fun r e => by cases e))
                have HI0 := Lib.hid (((HI.out.next (belowAlloc (Below.refl _ _) (.cells #[.int .i64 m, .int .i64 c] 25))).next (belowAlloc (Below.refl _ _) (.cells #[.int .i64 n, .int .i64 d, .int .i64 m, .int .i64 c] 28))).turn hg0 (fun r e => by cases e))
                have HRG := Lib.hid hrg0
                have hB9 : B7 < wr.heap.size := z7
                have HAP := Lib.hid (allP_plOf (N := N) HLP.out HAsc.out HJ.out)
                clear hrg0 hg0 hs0 BX0 e1 z7 c70 c71 y0 y1 HMJ HMP HI HK HC
                generalize wr.heap.size = B9 at *
                have HP : Hid (lfOf (at_ A k) (at_ A q) = (n, d, m, c)) := Lib.hid (by rw [HND.out, HMC.out]; rfl)
                have HOK : Hid (okP (n, d, m, c) = true) := Lib.hid (by rw [← HP.out]; exact HAsc.out.ok (by omega) hql)
                go_loopg [42] (Maps.size (pD (plOf L A N M))) (fun g3 s42 wy => ∃ left : Lit → Bool, Hid (wy.ranges Try.prog 28 (plainElem Try.prog 2) b (B9 + 1 + 1) (plOf L A N M).length (pD (plOf L A N M)) left g3) ∧ Hid (∀ x ∈ plOf L A N M, left (kp x.1) = false → crossP (n, d, m, c) x.1 = false) ∧ Hid (JoinI w b J L A N (some ⟨gA, off, none⟩) M wy) ∧ Hid (Bx wy B7 B9 n d m c))
                case atStart => exact ⟨_, HRG, Lib.hid (fun x hx hf => by rw [pD_has.2 ⟨x, hx, rfl⟩] at hf; cases hf), HI0, BX⟩
                case round =>
                  clear HRG HI0 BX
                  obtain ⟨left, HRG, HNo, HI, BX⟩ := hrel
                  have hrg := HRG.out
                  obtain ⟨zz, z79, a0, a1, b0, b1, c0, c1, c2, c3⟩ := BX.out
                  have HKP := Lib.hid (rpKey (n, d, m, c) (ok_wf HOK.out))
                  have HKA := Lib.hid (angKey m c (ok_wf HOK.out).2.2.1 (ok_wf HOK.out).2.2.2)
                  have HWN : Hid ((Lit.int .i64 (N : Int)).wf = true) := Lib.hid (i64_wf (by omega) (by omega))
                  have HLm : Hid ((plOf L A N M).length < maxLen ∧ M.length < maxLen) := Lib.hid (by unfold plOf maxLen; simp only [List.length_append, List.length_map]; omega)
                  have HbJ : Hid (some J ≠ some b) := Lib.hid (fun e => by have := Option.some.inj e; have := HI.out.lo; have := HI.out.hb; omega)
                  dsimp only at HKP
                  go_wp2_with (first
                    | (at_next; refine wpList_next_pairs _ rfl _ rfl b (B9 + 1 + 1) (plOf L A N M).length (plOf L A N M) HAP.out left _ rfl hrg ?_ ?_; intro hl0; rotate_left; intro x c5 w5 cnt5 hx hlx hat hrg5 hlt5 hg5 hs5 hen;
                        have BX5 := Lib.hid (BX.out.turn hg5 (fun r e => by have := Option.some.inj e; omega)); have z5 : B9 + 1 < w5.heap.size := BX5.out.z; have d0 := BX5.out.c0; have d1 := BX5.out.c1; have d2 := BX5.out.c2; have d3 := BX5.out.c3; have HX5 := Lib.hid (And.intro hx (And.intro hlx (And.intro hrg5 hg5))); clear hx hlx hat hrg5 hg5; rotate_left)
                    | (at_mapUpdate; refine wpList_mapUpdate_own _ rfl _ _ _ 63 rfl 28 2 rpLaw Try.underlying63 _ b (plOf L A N M).length _ rfl HI.out.mp HLm.out.1 _ _ _ rfl rfl HKP.out _ [] (plainElem_int Try.underlying2 HWN.out) ?_; intro w6 hm6 hg6;
                        have q0 := cellG hg6 (show B9 < _ by omega) (fun e => by have := Option.some.inj e; have := HI.out.lo; have := HI.out.hb; omega) b0; have q1 := cellG hg6 (show B9 < _ by omega) (fun e => by have := Option.some.inj e; have := HI.out.lo; have := HI.out.hb; omega) b1; have HM6 := Lib.hid (And.intro hm6 hg6); clear hm6 hg6)
                    | (at_mapUpdate; refine wpList_mapUpdate_own _ rfl _ _ _ 82 rfl 25 4 angLaw Try.underlying82 _ J M.length _ rfl (HI.out.mj.kept HM6.out.2 HbJ.out) HLm.out.2 _ _ _ rfl rfl HKA.out _ [] (plainElem_bool Try.underlying4 true) ?_; intro w7 hm7 hg7; have HM7 := Lib.hid (And.intro hm7 hg7); clear hm7 hg7))
                  · go_frame
                    rw [Exit.noGoto_exit]
                    go_wp2
                    go_roundg g
                    case measure => omega
                    case rel =>
                      have hcross : crossAny (n, d, m, c) (plOf L A N M) = false := crossAny_none (fun x hx => HNo.out x hx (hl0 _))
                      have hfit : fits L A N M k q = true := by unfold fits; rw [HCD.out, HP.out, hcross]; rfl
                      refine ⟨k + 1, M ++ [(k, q)], by omega, by go_num, by simp; omega, Lib.hid (HJ.out.snoc (by omega) hql HCC.out HCD.out), Lib.hid ?_, Lib.hid ?_⟩
                      · rw [← HE.out, allM_row hkl HCC.out, ← HR.out, rowM_yes hql hfit]
                      · refine HI.out.put (i := k) (k := q) ?_ HM6.out.2 ?_ HM7.out.2
                        · rw [HP.out]; exact HM6.out.1
                        · rw [HMC.out]; exact HM7.out.1
                  · have HI8 := Lib.hid ((HI.out.turn HX5.out.2.2.2 (fun r e => by have := Option.some.inj e; omega)).next (belowAlloc (Below.refl _ _) (.cells #[.int .i64 x.1.1, .int .i64 x.1.2.1, .int .i64 x.1.2.2.1, .int .i64 x.1.2.2.2] 28)))
                    have BX8 := Lib.hid (BX5.out.next (belowAlloc (Below.refl _ _) (.cells #[.int .i64 x.1.1, .int .i64 x.1.2.1, .int .i64 x.1.2.2.1, .int .i64 x.1.2.2.2] 28)))
                    have HG8 := Lib.hid (HX5.out.2.2.1.alloc (.cells #[.int .i64 x.1.1, .int .i64 x.1.2.1, .int .i64 x.1.2.2.1, .int .i64 x.1.2.2.2] 28))
                    refine (implPC n d m c x.1.1 x.1.2.1 x.1.2.2.1 x.1.2.2.2 _ HOK.out (HAP.out x HX5.out.1)).mono ?_
                    rintro e w8 ⟨rfl, hb8⟩
                    have HI9 := Lib.hid (HI8.out.next hb8)
                    have BX9 := Lib.hid (BX8.out.next hb8)
                    have HG9 := Lib.hid (HG8.out.kept (belowG hb8) (by simp) (by simp))
                    obtain ⟨cx, hcx⟩ : ∃ cx, crossB n d m c x.1.1 x.1.2.1 x.1.2.2.1 x.1.2.2.2 = cx := ⟨_, rfl⟩
                    rw [hcx]
                    have HCX : Hid (crossP (n, d, m, c) x.1 = cx) := Lib.hid hcx
                    clear hcx HI8 BX8 HG8 hb8 BX5
                    cases cx
                    · go_wp2
                      go_roundg cnt5
                      case measure => exact hlt5
                      case rel =>
                        refine ⟨fun z => left z && !z.sameKey (kp x.1), HG9, Lib.hid (fun y hy hf => ?_), HI9, BX9⟩
                        cases hly : left (kp y.1)
                        · exact HNo.out y hy hly
                        · have hf' : (left (kp y.1) && !(kp y.1).sameKey (kp x.1)) = false := hf
                          rw [hly] at hf'
                          have e2 : kp y.1 = kp x.1 := (WideAt.sameKey_iff (kp_key _)).1 (by simpa using hf')
                          rw [kp_inj (ok_wf (HAP.out y hy)) (ok_wf (HAP.out x HX5.out.1)) e2]
                          exact HCX.out
                    · go_wp2
                      go_roundg g2
                      case measure => omega
                      case rel => exact ⟨j + 1, by omega, by go_num, Lib.hid (by
                        rw [← HR.out, show k + 1 + (j + 1) = q + 1 by omega]
                        exact (rowM_next hql (by unfold fits; rw [HP.out, crossAny_mem HX5.out.1 HCX.out, Bool.not_true, Bool.and_false])).symm), HI9, by have := BX9.out.z; have := BX9.out.z7; omega, BX9.out.a0, BX9.out.a1⟩
              · go_roundg g2
                case measure => omega
                case rel => exact ⟨j + 1, by omega, by go_num, Lib.hid (by
                  rw [← HR.out, show k + 1 + (j + 1) = q + 1 by omega]
                  exact (rowM_next hql (by unfold fits; rw [HCD.out]; rfl)).symm), Lib.hid (HI.out.next (belowAlloc (Below.refl _ _) _)), by simp; omega, cellThru (belowAlloc (Below.refl _ _) _) z7 c70, cellThru (belowAlloc (Below.refl _ _) _) z7 c71⟩
      · go_frame
        rw [Exit.noGoto_exit]
        go_wp2
        go_roundg g
        case measure => omega
        case rel => exact ⟨k + 1, M, by omega, by go_num, by omega, Lib.hid HJ.out.mono, Lib.hid ((allM_skip hkl HCC.out).symm.trans HE.out), Lib.hid (HI.out.next (belowAlloc (Below.refl _ _) _))⟩
end Go.Proofs.Ytabddjfgbhnldaa

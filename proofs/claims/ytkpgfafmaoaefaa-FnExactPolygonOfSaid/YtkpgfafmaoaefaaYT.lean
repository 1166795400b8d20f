/-
  Contracts: slices.Grow and slices.Concat at lists of angles.
  Contracts: leaves sorted by slices.SortFunc.
  Contracts: slices.Compact at lists of leaves: none is met twice in a row; two that are equal.
-/
import Derived.Test.YtkpgfafmaoaefaaW32
import Derived.Lib.AppendZeros
import Derived.Lib.AppendZerosOnto
import Derived.Laws.OwnMore
import Derived.Deep.LoopGhost
import Derived.Test.YtkpgfafmaoaefaaY1
import Derived.Test.YtkpgfafmaoaefaaV27
import Derived.Test.YtkpgfafmaoaefaaShelfU
import Derived.Test.YtkpgfafmaoaefaaV17
import Derived.Lib.SliceRun
namespace Go.Proofs.Ytkpgfafmaoaefaa
open Go.RowKit

theorem ownSliceA {W : World} {e : TypeId} {size : Nat} {v : Value} {n : Nat} {xs : List Value} {lo : Nat} (h : W.ownsRow lo e size v n xs) : ∃ A cap, v = .slice A n cap := by
  rcases h.2 with ⟨a, b⟩ | ⟨g, cap, cur, a, _⟩
  · exact ⟨none, 0, by rw [a, b]⟩
  · exact ⟨_, cap, a⟩
theorem news_of_an {w : World} {b : Nat} : ∀ (l : List (Int × Int)) (off : Nat), (∀ i n d, l[i]? = some (n, d) → w.cell? ⟨b, off + i * 2, none⟩ = some (.int .i64 n) ∧ w.cell? ⟨b, off + i * 2 + 1, none⟩ = some (.int .i64 d)) →
    ∀ j u, (flatA l)[j]? = some u → w.cell? ⟨b, off + j, none⟩ = some u
  | [], _, _, j, u, h => by simp [flatA] at h
  | (p1, p2) :: l, off, hc, j, u, h => by
    obtain ⟨h0, h1⟩ := hc 0 p1 p2 rfl
    match j, h with
    | 0, h => simp [flatA] at h; subst h; simpa using h0
    | 1, h => simp [flatA] at h; subst h; simpa using h1
    | j + 2, h =>
      have := news_of_an l (off + 2) (fun i n d hi => by
        have := hc (i + 1) n d (by simpa using hi)
        rw [show off + (i + 1) * 2 = off + 2 + i * 2 by omega] at this
        exact this) j u (by simpa [flatA] using h)
      rw [show off + (j + 2) = off + 2 + j by omega]
      exact this
theorem news_of_row2A {w : World} {A : Option Addr} {B : Nat} {l : List (Int × Int)} (hr : AngRow w B A l) {a : Addr} (ha : A = some a) : ∀ j u, (flatA l)[j]? = some u → w.cell? (a.add j) = some u := by
  intro j u h
  have hne : l ≠ [] := by intro e; rw [e] at h; simp [flatA] at h
  obtain ⟨b, off, e, _, hc⟩ := hr hne
  rw [ha] at e
  injection e with e
  subst e
  have hadd : (⟨b, off, none⟩ : Addr).add j = ⟨b, off + j, none⟩ := by unfold Addr.add; split <;> simp_all
  rw [hadd]
  exact news_of_an l off hc j u h

set_option maxRecDepth 100000 in
set_option maxHeartbeats 1000000 in
theorem growNilA (N : Nat) (w : World) (h1 : 1 ≤ N) (hN : N ≤ 1000000) :
    Calls Try.prog 138 #[.slice none 0 0, .int .i64 N] w fun e w' => ∃ b c, e = .returned (.slice (some ⟨b, 0, none⟩) ([] : List (Int × Int)).length c) ∧ w'.ownsRow w.heap.size 29 2 (.slice (some ⟨b, 0, none⟩) ([] : List (Int × Int)).length c) ([] : List (Int × Int)).length (flatA []) ∧ Below w.heap.size w w' := by
  obtain ⟨i0, hi, hz0, hz1, hz2⟩ := infoAg_parts infoAg
  have hrz : ∀ ty, (Builtin.append_ #[60, 3] ty #[.slice none 0 0, .int .i64 (N : Int)]).run Try.prog w =
      .ok (.slice (some ⟨w.heap.size, 0, none⟩) N (grownCap w N 0 29)) (w.drew.alloc (.cells (Builtin.zeroCells (Value.agg #[.int .i64 0, .int .i64 0]).cells N ++ Builtin.zeroCells (Value.agg #[.int .i64 0, .int .i64 0]).cells (grownCap w N 0 29 - N)) 29)) := fun ty =>
    Lib.run_append_nil_zeros w 60 3 ty 29 i0 _ .i64 .i64 Try.underlying60 Try.underlying3 hi hz0 N (by omega) (by omega) (by omega) (by rw [hz2]; omega)
  have hG := grownCap_ge w N 0 29
  have hG2 := grownCap_le_maxLen w N 0 29 (by unfold maxLen; omega)
  obtain ⟨G, hGe⟩ : ∃ G, grownCap w N 0 29 = G := ⟨_, rfl⟩
  rw [hGe] at hrz hG hG2
  obtain ⟨M, hM⟩ : ∃ M, Builtin.zeroCells (Value.agg #[.int .i64 0, .int .i64 0]).cells N ++ Builtin.zeroCells (Value.agg #[.int .i64 0, .int .i64 0]).cells (G - N) = M := ⟨_, rfl⟩
  have hMs : M.size = G * 2 := by
    rw [← hM]
    simp [Builtin.zeroCells, Value.cells]
    omega
  rw [hM] at hrz
  have hG63 : G ≤ 9223372036854775807 := by unfold maxLen at hG2; omega
  have hn : ¬ ((N : Int) < 0) := by omega
  have hn2 : (N : Int) > 0 := by omega
  have hrow : (w.drew.alloc (.cells M 29)).ownsRow w.heap.size 29 2 (.slice (some ⟨w.heap.size, 0, none⟩) ([] : List (Int × Int)).length G) ([] : List (Int × Int)).length (flatA []) :=
    ⟨rfl, .inr ⟨w.heap.size, G, M, rfl, Nat.le_refl _, heap_alloc_new w.drew (.cells M 29), by simp, hG2, hMs, by simp [flatA]⟩⟩
  clear hM hGe hG2 hMs
  go_enter Try.func138, Try.ntmps138
  go_wp2_with (at_builtin; refine Lib.wpList_append_run _ rfl _ _ _ _ rfl _ _ rfl rfl _ _ (hrz _) ?_)
  all_goals (go_ret; exact ⟨_, _, rfl, hrow, belowAlloc (Below.refl _ _).drew _⟩)

/-- A slice that holds the leaves l. -/
def SlOkA (w : World) (v : Value) (l : List (Int × Int)) : Prop := ∃ (A : Option Addr) (c : Nat), v = .slice A l.length c ∧ AngRow w w.heap.size A l ∧ (A = none → c = 0)
theorem SlOkA.next {w w' : World} {v : Value} {l : List (Int × Int)} (h : SlOkA w v l) (hb : Below w.heap.size w w') : SlOkA w' v l := by
  obtain ⟨A, c, h1, h2, h3⟩ := h
  exact ⟨A, c, h1, h2.next hb, h3⟩
/-- The first k of some lists, one behind the other. -/
def accA (ls : Nat → List (Int × Int)) : Nat → List (Int × Int)
  | 0 => []
  | k + 1 => accA ls k ++ ls k

set_option maxRecDepth 100000 in
set_option maxHeartbeats 2000000 in
theorem concatA (m g : Nat) (vs : Nat → Value) (ls : Nat → List (Int × Int)) (w : World) (hv : ∀ k, k < m → SlOkA w (vs k) (ls k)) (hc : ∀ k, k < m → w.cell? ⟨g, k, none⟩ = some (vs k)) (hg : g < w.heap.size) (hm : m ≤ 100) (hlen : ∀ k, k ≤ m → (accA ls k).length ≤ 100000) (hpos : 1 ≤ (accA ls m).length) :
    Calls Try.prog 107 #[.slice (some ⟨g, 0, none⟩) m m] w fun e w' => ∃ b c, e = .returned (.slice (some ⟨b, 0, none⟩) (accA ls m).length c) ∧ w'.ownsRow w.heap.size 29 2 (.slice (some ⟨b, 0, none⟩) (accA ls m).length c) (accA ls m).length (flatA (accA ls m)) ∧ Below w.heap.size w w' := by
  have HV := Lib.hid hv
  have HC := Lib.hid hc
  have HLn := Lib.hid hlen
  obtain ⟨i0, hi, hz0, hz1, hz2⟩ := infoAg_parts infoAg
  obtain ⟨N, hN⟩ : ∃ N, (accA ls m).length = N := ⟨_, rfl⟩
  have hN1 : 1 ≤ N := by omega
  have hN2 : N ≤ 1000000 := by have := hlen m (Nat.le_refl _); omega
  have HG := Lib.hid (fun w => growNilA N w hN1 hN2)
  have HNn := Lib.hid hN
  clear hv hc hlen hpos hN
  go_enter Try.func107, Try.ntmps107
  go_wp2_with fail
  go_loopg [3, 11] m (fun gk s3 s11 wx => ∃ (k L : Nat), k + gk = m ∧ L = (accA ls k).length ∧ s11 = .int .i64 k ∧ s3 = .int .i64 L ∧ Hid (Below w.heap.size w wx))
  case atStart => exact ⟨0, 0, by omega, rfl, rfl, rfl, Lib.hid (Below.refl _ _)⟩
  case round =>
    obtain ⟨k, L, hk, hLe, rfl, rfl, HB⟩ := hrel
    have hL1 : L ≤ 100000 := by have := HLn.out k (by omega); omega
    cases gk with
    | zero =>
      obtain rfl : k = m := by omega
      obtain rfl : L = N := by rw [hLe]; exact HNn.out
      have hli : ¬ ((k : Int) < (k : Int)) := by omega
      clear hk hLe
      go_wp2_with fail
      refine (HG.out _).mono ?_
      rintro e w2 ⟨b0, c0, rfl, ho2, hb2⟩
      have HO2 := Lib.hid (ownMonoL ho2 HB.out.size)
      have HB2 := Lib.hid (belowNext HB.out hb2)
      clear ho2 hb2
      go_wp2_with fail
      go_loopg [6, 27] k (fun gk s6 s27 wx => ∃ (j b c : Nat) (O : List (Int × Int)), j + gk = k ∧ Hid (O = accA ls j) ∧ s27 = .int .i64 j ∧ s6 = .slice (some ⟨b, 0, none⟩) O.length c ∧ Hid (wx.ownsRow w.heap.size 29 2 s6 O.length (flatA O)) ∧ Hid (Below w.heap.size w wx))
      case atStart => exact ⟨0, b0, c0, [], by omega, Lib.hid rfl, rfl, rfl, HO2, HB2⟩
      case round =>
        clear HO2 HB2 HB
        obtain ⟨j, b, c, O, hj, HO, rfl, rfl, HW, HB⟩ := hrel
        cases gk with
        | zero =>
          obtain rfl : j = k := by omega
          have hli : ¬ ((j : Int) < (j : Int)) := by omega
          have e := HNn.out
          rw [← HO.out] at e
          subst e
          clear hj
          go_wp2
          go_ret
          rw [← HO.out]
          exact ⟨b, c, rfl, HW.out, HB.out⟩
        | succ gg =>
          have hlt : (j : Int) < (k : Int) := by omega
          obtain ⟨A, cA, hvj, hrow, hnil⟩ := (HV.out j (by omega)).next HB.out
          have x0 := (HB.out.cell (p := ⟨g, j, none⟩) hg).trans (HC.out j (by omega))
          rw [hvj] at x0
          have hOl : O.length ≤ 100000 := by rw [HO.out]; exact HLn.out j (by omega)
          have hln : (accA ls (j + 1)).length ≤ 100000 := HLn.out (j + 1) (by omega)
          have hacc : accA ls (j + 1) = O ++ ls j := by rw [HO.out]; rfl
          rw [hacc, List.length_append] at hln
          have hgw : g < wr.heap.size := Nat.lt_of_lt_of_le hg HB.out.size
          have HJ := Lib.hid hj
          have HAc := Lib.hid hacc
          clear hj hacc hvj
          cases A with
          | none =>
            have hc0 := hnil rfl
            have hl0 : ls j = [] := by
              rcases hq : ls j with _ | ⟨p, t⟩
              · rfl
              · obtain ⟨b', off, e, _⟩ := hrow (by rw [hq]; simp)
                cases e
            rw [hl0, hc0] at x0
            have hrn : ∀ ty, (Builtin.append_ #[60, 60] ty #[.slice (some ⟨b, 0, none⟩) O.length c, .slice none ([] : List (Int × Int)).length 0]).run Try.prog wr = .ok (.slice (some ⟨b, 0, none⟩) O.length c) wr := fun ty => run_append_owned_none wr w.heap.size 60 ty 29 i0 2 Try.underlying60 hi _ _ _ HW.out
            have HO2 : Hid (O = accA ls (j + 1)) := Lib.hid (by rw [HAc.out, hl0, List.append_nil])
            clear hrow hl0 hc0 hnil
            go_wp2_with (at_builtin; refine Lib.wpList_append_run _ rfl _ _ _ _ rfl _ _ rfl rfl _ _ (hrn _) ?_)
            go_roundg gg
            case measure => omega
            case rel => exact ⟨j + 1, b, c, O, by have := HJ.out; omega, HO2, by go_num, rfl, HW, HB⟩
          | some ad =>
            have hnews := Lib.hid (news_of_row2A hrow rfl)
            clear hrow hnil
            go_wp2_with (at_builtin; refine wpList_append_own_at _ rfl _ _ 60 rfl w.heap.size 29 i0 (.agg #[.int .i64 0, .int .i64 0]) 2 16 Try.underlying60 hi hz0 hz1 hz2 rfl (by decide) _ _ _ rfl HW.out ad (ls j).length cA (flatA (ls j)) rfl (flatA_len _) hnews.out (flatA_one _) ?c3 ?c4 ?c5 ?_)
            case c3 => unfold maxLen; omega
            case c4 => omega
            case c5 => exact HB.out.size
            intro v' w11 hown' hgrow hnn hblk
            obtain ⟨A', cA', rfl⟩ := ownSliceA hown'
            have HB11 : Hid (Below w.heap.size w w11) := Lib.hid (HB.out.grown hgrow HB.out.size (fun j hj => by have := own_blockL HW.out j hj; omega))
            obtain ⟨b'', rfl⟩ : ∃ b'', A' = some ⟨b'', 0, none⟩ := by
              rcases hown'.2 with ⟨h1, _⟩ | ⟨b'', c2, cur, h1, _⟩
              · exact (hnn h1).elim
              · injection h1 with h1; exact ⟨b'', h1⟩
            have HW11 := Lib.hid hown'
            clear hown' hgrow hnn hblk HW HB
            go_wp2
            go_roundg gg
            case measure => omega
            case rel => exact ⟨j + 1, b'', cA', O ++ ls j, by have := HJ.out; omega, Lib.hid HAc.out.symm, by go_num, by rw [List.length_append], Lib.hid (by rw [flatA_app, List.length_append]; exact HW11.out), HB11⟩
    | succ gg =>
      have hlt : (k : Int) < (m : Int) := by omega
      obtain ⟨A, cA, hvk, hrow, hnil⟩ := (HV.out k (by omega)).next HB.out
      have x0 := (HB.out.cell (p := ⟨g, k, none⟩) hg).trans (HC.out k (by omega))
      rw [hvk] at x0
      have hln : (accA ls (k + 1)).length ≤ 100000 := HLn.out (k + 1) (by omega)
      have hacc : (accA ls (k + 1)).length = L + (ls k).length := by rw [hLe]; exact List.length_append
      have hw1 : IntKind.i64.wrap ((L : Int) + ((ls k).length : Int)) = (L : Int) + ((ls k).length : Int) := IntWalk.i64_in _ (by omega)
      have hn1 : ¬ ((L : Int) + ((ls k).length : Int) < 0) := by omega
      have hgw : g < wr.heap.size := Nat.lt_of_lt_of_le hg HB.out.size
      have HJ := Lib.hid hk
      have HAc := Lib.hid hacc
      clear hk hacc hvk hrow hnil hLe
      go_wp2
      go_roundg gg
      case measure => omega
      case rel => exact ⟨k + 1, L + (ls k).length, by have := HJ.out; omega, HAc.out.symm, by go_num, by go_num, HB⟩

/-- What lay below stands, and no draw is taken back. -/
def DB (w w' : World) : Prop := Below w.heap.size w w' ∧ w.drawn ≤ w'.drawn
theorem dbDrew (w : World) : DB w w.drew := ⟨(Below.refl _ _).drew, Nat.le_succ _⟩
theorem dbAlloc (w : World) (o : Obj) : DB w (w.alloc o) := ⟨belowAlloc (Below.refl _ _) _, Nat.le_refl _⟩
theorem DB.next {w w1 w2 : World} (h : DB w w1) (h2 : DB w1 w2) : DB w w2 := ⟨belowNext h.1 h2.1, Nat.le_trans h.2 h2.2⟩
theorem db_grow {w w' : World} (h : DB w w') : ∃ q os', w' = Go.Sort.grow (w.drewN q) os' := by
  obtain ⟨⟨h1, h2, h3, h4, h5⟩, hd⟩ := h
  refine ⟨w'.drawn - w.drawn, w'.heap.extract w.heap.size w'.heap.size, ?_⟩
  obtain ⟨hp, tp, dr, os, out⟩ := w
  obtain ⟨hp', tp', dr', os', out'⟩ := w'
  dsimp only at *
  subst h1 h2 h3
  unfold Go.Sort.grow World.drewN
  simp only [World.mk.injEq, true_and, and_true]
  refine ⟨?_, by omega⟩
  apply Array.ext_getElem?
  intro i
  rw [Array.getElem?_append]
  split
  · exact h5 i (by assumption)
  · rename_i hi
    rw [Array.getElem?_extract]
    rcases Nat.lt_or_ge i hp'.size with g | g
    · rw [if_pos (by simp; omega), show hp.size + (i - hp.size) = i by omega]
    · rw [Array.getElem?_eq_none g, if_neg (by simp; omega)]

set_option maxHeartbeats 1000000 in
theorem cmpAngD (n d m c : Int) (w : World) (h1 : angOk n d) (h2 : angOk m c) :
    Calls Try.prog 103 #[ang n d, ang m c] w fun e w' => e = .returned (.int .i64 (cmpI (n * c) (m * d))) ∧ DB w w' := by
  obtain ⟨a1, a2, a3, a4⟩ := h1
  obtain ⟨b1, b2, b3, b4⟩ := h2
  obtain ⟨p1, p2⟩ := mul_bound (a := n) (b := c) (by omega) (by omega) (by omega) (by omega)
  obtain ⟨q1, q2⟩ := mul_bound (a := m) (b := d) (by omega) (by omega) (by omega) (by omega)
  have HC := Lib.hid (fun w => cmpInt (n * c) (m * d) w)
  generalize cmpI (n * c) (m * d) = C at *
  go_enter Try.func103, Try.ntmps103
  go_wp2_with fail
  refine (HC.out _).mono ?_
  rintro e w1 ⟨rfl, rfl⟩
  go_wp2
  go_ret
  exact ⟨rfl, (dbAlloc _ _).next (dbAlloc _ _)⟩

theorem box8D {w W w1 : World} {a b c d e f g h : Int} (hb : DB W w1)
    (H : w.heap.size + 1 < W.heap.size ∧ DB w W ∧ W.cell? ⟨w.heap.size, 0, none⟩ = some (.int .i64 a) ∧ W.cell? ⟨w.heap.size, 1, none⟩ = some (.int .i64 b) ∧ W.cell? ⟨w.heap.size, 2, none⟩ = some (.int .i64 c) ∧ W.cell? ⟨w.heap.size, 3, none⟩ = some (.int .i64 d) ∧
      W.cell? ⟨w.heap.size + 1, 0, none⟩ = some (.int .i64 e) ∧ W.cell? ⟨w.heap.size + 1, 1, none⟩ = some (.int .i64 f) ∧ W.cell? ⟨w.heap.size + 1, 2, none⟩ = some (.int .i64 g) ∧ W.cell? ⟨w.heap.size + 1, 3, none⟩ = some (.int .i64 h)) :
    w.heap.size + 1 < w1.heap.size ∧ DB w w1 ∧ w1.cell? ⟨w.heap.size, 0, none⟩ = some (.int .i64 a) ∧ w1.cell? ⟨w.heap.size, 1, none⟩ = some (.int .i64 b) ∧ w1.cell? ⟨w.heap.size, 2, none⟩ = some (.int .i64 c) ∧ w1.cell? ⟨w.heap.size, 3, none⟩ = some (.int .i64 d) ∧
      w1.cell? ⟨w.heap.size + 1, 0, none⟩ = some (.int .i64 e) ∧ w1.cell? ⟨w.heap.size + 1, 1, none⟩ = some (.int .i64 f) ∧ w1.cell? ⟨w.heap.size + 1, 2, none⟩ = some (.int .i64 g) ∧ w1.cell? ⟨w.heap.size + 1, 3, none⟩ = some (.int .i64 h) := by
  obtain ⟨hz, hB, h0, h1, h2, h3, h4, h5, h6, h7⟩ := H
  have hs := hb.1.size
  exact ⟨by omega, hB.next hb, cellThru hb.1 (by omega) h0, cellThru hb.1 (by omega) h1, cellThru hb.1 (by omega) h2, cellThru hb.1 (by omega) h3, cellThru hb.1 hz h4, cellThru hb.1 hz h5, cellThru hb.1 hz h6, cellThru hb.1 hz h7⟩

set_option maxHeartbeats 2000000 in
theorem implCmpLD (a b c d e f g h : Int) (w : World) (h1 : angOk a b) (h2 : angOk c d) (h3 : angOk e f) (h4 : angOk g h) :
    Calls Try.prog 93 #[leafV a b c d, leafV e f g h] w fun e' w' => e' = .returned (.int .i64 (cmpL a b c d e f g h)) ∧ DB w w' := by
  have H1 := Lib.hid (fun w => cmpAngD a b e f w h1 h3)
  have H2 := Lib.hid (fun w => cmpAngD c d g h w h2 h4)
  have E : Hid (cmpL a b c d e f g h = if cmpI (a * f) (e * b) = 0 then cmpI (c * h) (g * d) else cmpI (a * f) (e * b)) := Lib.hid rfl
  clear h1 h2 h3 h4
  generalize cmpL a b c d e f g h = R at *
  generalize cmpI (a * f) (e * b) = U at *
  generalize cmpI (c * h) (g * d) = V at *
  go_enter Try.func93, Try.ntmps93
  go_wp2_with fail
  go_region_held3 (fun w' => w.heap.size + 1 < w'.heap.size ∧ DB w w' ∧ w'.cell? ⟨w.heap.size, 0, none⟩ = some (.int .i64 a) ∧ w'.cell? ⟨w.heap.size, 1, none⟩ = some (.int .i64 b) ∧ w'.cell? ⟨w.heap.size, 2, none⟩ = some (.int .i64 c) ∧ w'.cell? ⟨w.heap.size, 3, none⟩ = some (.int .i64 d) ∧
      w'.cell? ⟨w.heap.size + 1, 0, none⟩ = some (.int .i64 e) ∧ w'.cell? ⟨w.heap.size + 1, 1, none⟩ = some (.int .i64 f) ∧ w'.cell? ⟨w.heap.size + 1, 2, none⟩ = some (.int .i64 g) ∧ w'.cell? ⟨w.heap.size + 1, 3, none⟩ = some (.int .i64 h))
      (first | assumption | exact box8D (by assumption) (by assumption) | exact box8D (dbDrew _) (by assumption) | exact box8D (dbAlloc _ _) (by assumption) | exact ⟨by simp, ((dbAlloc _ _).next (dbAlloc _ _)).next (dbDrew _), by simp [go_sem], by simp [go_sem], by simp [go_sem], by simp [go_sem], by simp [go_sem], by simp [go_sem], by simp [go_sem], by simp [go_sem]⟩)
      (first
      | (go_at_call 103; (with_reducible refine (H1.out _).mono ?_); rintro e' w1 ⟨rfl, hb1⟩; have hS1 := box8D hb1 (by assumption))
      | (go_at_call 103; (with_reducible refine (H2.out _).mono ?_); rintro e' w2 ⟨rfl, hb2⟩; have hS2 := box8D hb2 (by assumption))
      | (go_at_call 115; refine (orInt' R _ 0 _ U V _ E (by simp [go_sem]) (by simp [go_sem])).mono ?_; rintro e' w3 ⟨rfl, rfl⟩))
  all_goals
    rename_i hHeld
    go_wp2
    go_ret
    refine ⟨rfl, ?_⟩
    first | exact hHeld.2.1 | exact hS2.2.1 | exact hS1.2.1 | exact hHeld.2.1.next (dbAlloc _ _) | exact hS2.2.1.next (dbAlloc _ _) | exact hS1.2.1.next (dbAlloc _ _)

/-- The order of leaves that the program sorts by. -/
abbrev OkL : Type := { p : Lf4 // isLfX p = true }
theorem okL_one : isLfX (0, 1, 1, 2) = true := by decide +kernel
instance : Inhabited OkL := ⟨⟨(0, 1, 1, 2), okL_one⟩⟩
def encL (x : OkL) : List Value := [.int .i64 x.1.1, .int .i64 x.1.2.1, .int .i64 x.1.2.2.1, .int .i64 x.1.2.2.2]
def cfL (x y : OkL) : Int := cmpL x.1.1 x.1.2.1 x.1.2.2.1 x.1.2.2.2 y.1.1 y.1.2.1 y.1.2.2.1 y.1.2.2.2
theorem ltOf_cfL (x y : OkL) : ltOf cfL x y = lessX x.1 y.1 := by
  obtain ⟨r1, r2, -⟩ := isLf_yes x.2
  obtain ⟨r3, r4, -⟩ := isLf_yes y.2
  exact lessX_cmp r1 r2 r3 r4
theorem swoL : Go.Sort.SWO (ltOf cfL) where
  irrefl x := by rw [ltOf_cfL]; exact lessX_self _
  trans x y z h1 h2 := by rw [ltOf_cfL] at *; exact lessX_tr (lf_pos x.2) (lf_pos y.2) (lf_pos z.2) h1 h2
  ntrans x y z h1 h2 := by
    rw [ltOf_cfL] at *
    rcases lessX_tot x.2 y.2 h1 with e1 | e1
    · rw [e1]; exact h2
    · rcases lessX_tot y.2 z.2 h2 with e2 | e2
      · rw [← e2]; exact h1
      · exact lessX_asym (lf_pos z.2) (lf_pos x.2) (lessX_tr (lf_pos z.2) (lf_pos y.2) (lf_pos x.2) e2 e1)
theorem cmpLaysL (blk off size : Nat) (w : World) : CmpLays Try.prog 93 #[] encL 4 cfL blk off size w := fun _ _ _ _ x y => by
  obtain ⟨⟨a, b, c, d⟩, hx⟩ := x
  obtain ⟨⟨e, f, g, h⟩, hy⟩ := y
  obtain ⟨r1, r2, -⟩ := isLf_yes hx
  obtain ⟨r3, r4, -⟩ := isLf_yes hy
  exact (implCmpLD a b c d e f g h _ (okOf r1) (okOf r2) (okOf r3) (okOf r4)).mono fun _ _ q => ⟨q.1, db_grow q.2⟩
theorem okListL : ∀ l : List Lf4, (∀ p ∈ l, isLfX p = true) → ∃ L : List OkL, L.map (fun x => x.1) = l
  | [], _ => ⟨[], rfl⟩
  | p :: l, h => by
    obtain ⟨L, hL⟩ := okListL l (fun q hq => h q (List.mem_cons_of_mem _ hq))
    exact ⟨⟨p, h p (List.mem_cons_self ..)⟩ :: L, by simp [hL]⟩
theorem flatL_get {L : List OkL} {t : Nat} (h : t < L.length * 4) : (flatL (L.map fun x => x.1))[t]? = some (Go.Sort.flatK encL 4 L.toArray)[t]! := by
  rw [Go.Sort.get_flatK encL 4 L.toArray t (by simpa using h)]
  have hi : t / 4 < L.length := by omega
  have hx : (L.map fun x => x.1)[t / 4]? = some ((L[t / 4]).1.1, (L[t / 4]).1.2.1, (L[t / 4]).1.2.2.1, (L[t / 4]).1.2.2.2) := by
    rw [List.getElem?_map, List.getElem?_eq_getElem hi]; rfl
  obtain ⟨h0, h1, h2, h3⟩ := flatL_at hx
  have eL : L.toArray[t / 4]! = L[t / 4] := by rw [getElem!_pos _ _ (by simpa using hi)]; simp
  rw [eL]
  obtain ⟨y, hy⟩ : ∃ y, L[t / 4] = y := ⟨_, rfl⟩
  rw [hy] at h0 h1 h2 h3 ⊢
  have at' : ∀ k, t % 4 = k → (flatL (L.map fun x => x.1))[t]? = (flatL (L.map fun x => x.1))[t / 4 * 4 + k]? := fun k hk => congrArg (fun i => (flatL (L.map fun x => x.1))[i]?) (by omega)
  rcases (show t % 4 = 0 ∨ t % 4 = 1 ∨ t % 4 = 2 ∨ t % 4 = 3 by omega) with e | e | e | e
  · rw [at' 0 e, e]; exact h0
  · rw [at' 1 e, e]; exact h1
  · rw [at' 2 e, e]; exact h2
  · rw [at' 3 e, e]; exact h3

/-- The world behind a sort: the row holds the pairs in their new order. -/
theorem sorted_ownL {w : World} {lo g n cap m : Nat} {l : List Lf4} {D : List OkL} {os : Array Obj} (hlen : D.length = n)
    (h : w.ownsRow lo 31 4 (.slice (some ⟨g, 0, none⟩) n cap) n (flatL l)) :
    (sortWorldK encL 4 w g 0 m D.toArray os).ownsRow lo 31 4 (.slice (some ⟨g, 0, none⟩) n cap) n (flatL (D.map fun x => x.1)) ∧ Below lo w (sortWorldK encL 4 w g 0 m D.toArray os) := by
  obtain ⟨hx, h2⟩ := h
  rcases h2 with ⟨e, _⟩ | ⟨g', cap', cur, e, hlo, hc, hnc, hcm, hcs, htk⟩
  · cases e
  · obtain ⟨rfl, rfl⟩ : g = g' ∧ cap = cap' := by
      injection e with e1 e2 e3
      injection e1 with e1
      injection e1 with e1
      exact ⟨e1, e3⟩
    have hlt : g < w.heap.size := (Array.getElem?_eq_some_iff.1 hc).1
    have hh : (sortWorldK encL 4 w g 0 m D.toArray os).heap = w.heap.modify g (Go.Sort.onCells (Go.Sort.putCells id 0 (Go.Sort.flatK encL 4 D.toArray))) ++ os := rfl
    constructor
    · refine ⟨by rw [flatL_len, List.length_map, hlen], .inr ⟨g, cap, Go.Sort.putCells id 0 (Go.Sort.flatK encL 4 D.toArray) cur, rfl, hlo, ?_, hnc, hcm, ?_, ?_⟩⟩
      · rw [hh, Array.getElem?_append_left (by simpa using hlt), Array.getElem?_modify, if_pos rfl, hc]
        rfl
      · simp [Go.Sort.putCells, hcs]
      · apply List.ext_getElem?
        intro t
        rw [List.getElem?_take]
        by_cases ht : t < n * 4
        · rw [if_pos ht, flatL_get (by omega)]
          have hcap : n * 4 ≤ cap * 4 := Nat.mul_le_mul_right 4 hnc
          have htc : t < cur.size := by omega
          simp only [Go.Sort.putCells, Array.getElem?_toList, Array.getElem?_mapIdx]
          rw [Array.getElem?_eq_getElem htc, Option.map_some, if_pos ⟨Nat.zero_le _, by rw [Go.Sort.size_flatK]; simp; omega⟩]
          rfl
        · rw [if_neg ht, List.getElem?_eq_none (by rw [flatL_len, List.length_map]; omega)]
    · refine ⟨rfl, rfl, rfl, by rw [hh]; simp, fun k hk => ?_⟩
      rw [hh, Array.getElem?_append_left (by simp; omega), Array.getElem?_modify, if_neg (by omega)]

set_option maxHeartbeats 1000000 in
theorem implSortLf (lo : Nat) (A : Option Addr) (n cap : Nat) (l : List Lf4) (W : World) (ho : W.ownsRow lo 31 4 (.slice A n cap) n (flatL l)) (hl : l.length = n) (hk : ∀ p ∈ l, isLfX p = true) (hn : n ≤ 1100000) :
    Calls Try.prog 108 #[.slice A n cap, .func (Fn.func 93) #[] #[]] W fun e w' => e = .returned (.tuple #[]) ∧ Hid (∃ l' : List Lf4, l'.Perm l ∧ (l'.Pairwise fun x y => lessX y x = false) ∧ w'.ownsRow lo 31 4 (.slice A n cap) n (flatL l') ∧ Below lo W w') := by
  rcases Nat.eq_zero_or_pos n with h0 | h0
  · subst h0
    obtain rfl : l = [] := List.eq_nil_of_length_eq_zero hl
    refine (Try.slices_SortFuncL_none A cap _ W).mono ?_
    rintro e w' ⟨rfl, rfl⟩
    exact ⟨rfl, Lib.hid ⟨[], List.Perm.refl _, List.Pairwise.nil, ho, Below.refl _ _⟩⟩
  · obtain ⟨g, c, hv, hlo, hg⟩ := ho.form h0
    obtain ⟨rfl, rfl⟩ : A = some ⟨g, 0, none⟩ ∧ cap = c := by injection hv with hA hn hc; exact ⟨hA, hc⟩
    obtain ⟨L, hL⟩ := okListL l hk
    have hLn : L.length = n := by rw [← hl, ← hL, List.length_map]
    have hH : Go.Sort.HoldsK encL 4 W g 0 L.toArray := by
      intro t ht
      rw [Go.Sort.size_flatK] at ht
      have ht' : t < L.length * 4 := by simpa using ht
      rw [Nat.zero_add]
      exact ⟨(ho.cellAt t (by omega)).trans (by rw [← hL]; exact flatL_get ht'), ho.frozenAt t⟩
    have hsz : L.toArray.size = n := by simpa using hLn
    have hcon := Try.slices_SortFuncL 4 Try.isAgg31 Try.sizeOf31 encL (fun _ => rfl) (fun x v hv => by simp [encL] at hv; rcases hv with rfl | rfl | rfl | rfl <;> rfl) cfL swoL 93 #[] g 0 cap L.toArray W (enters_of Try.func93 (by kernel_rfl) rfl) (cmpLaysL g 0 _ W) hH hg (by rw [hsz]; omega)
    rw [hsz] at hcon
    refine hcon.mono ?_
    rintro e w' ⟨rfl, d', m, os, hp, hs, rfl⟩
    obtain ⟨hz, _, hperm⟩ := hp
    have e1 : d'.extract 0 n = d' := by rw [← hsz, ← hz]; exact Array.extract_size
    have e2 : L.toArray.extract 0 n = L.toArray := by rw [← hsz]; exact Array.extract_size
    rw [e1, e2] at hperm
    have hp2 : d'.toList.Perm L := by simpa using hperm
    have hDn : d'.toList.length = n := by rw [← hLn]; exact hp2.length_eq
    have hd : d'.toList.toArray = d' := by simp
    have H := sorted_ownL (m := m) (os := os) hDn ho
    rw [hd] at H
    refine ⟨rfl, Lib.hid ⟨d'.toList.map (fun x => x.1), by rw [← hL]; exact hp2.map _, ?_, H.1, H.2⟩⟩
    rw [List.pairwise_map, List.pairwise_iff_getElem]
    intro i j hi hj hij
    have := hs i j (Nat.zero_le _) hij (by omega)
    rw [ltOf_cfL] at this
    rw [getElem!_pos d' i (by simpa using hi), getElem!_pos d' j (by simpa using hj)] at this
    simpa using this

theorem eqL_iffC (a b c d e f g h : Int) : eqL a b c d e f g h = true ↔ (a, b, c, d) = (e, f, g, h) := by
  rw [eqL_iff]
  simp only [Prod.mk.injEq]
theorem eqL_self (a b c d : Int) : eqL a b c d a b c d = true := (eqL_iff _ _ _ _ _ _ _ _).2 ⟨rfl, rfl, rfl, rfl⟩

set_option maxHeartbeats 2000000 in
theorem compNo (A : Option Addr) (len cap : Nat) (l : List Lf4) (w : World) (hr : LfRow w w.heap.size A l) (hl : l.length = len) (hm : len ≤ 1000000000000) (hd : ∀ (i : Nat) (x y : Lf4), l[i]? = some x → l[i + 1]? = some y → x ≠ y) :
    Calls Try.prog 109 #[.slice A len cap] w fun e w' => e = .returned (.slice A len cap) ∧ Below w.heap.size w w' := by
  have HR := Lib.hid hr
  have HL := Lib.hid hl
  have HD := Lib.hid hd
  clear hr hl hd
  by_cases h2 : len < 2
  · have hI : ((len : Int) < 2) := by omega
    go_enter Try.func109, Try.ntmps109
    go_wp2
    go_ret
    exact ⟨rfl, Below.refl _ _⟩
  · have hI : ¬ ((len : Int) < 2) := by omega
    go_enter Try.func109, Try.ntmps109
    go_wp2
    go_loopw [3] (fun i wr => ∃ k : Nat, 1 ≤ k ∧ k ≤ len ∧ i = .int .i64 k ∧ ∃ q, wr = w.drewN q) (fun i _ => len - (intOf i).toNat)
    case atStart => exact ⟨1, by omega, by omega, rfl, 0, rfl⟩
    case round =>
      obtain ⟨k, hk1, hk, rfl, q, rfl⟩ := hrel
      by_cases hlt : k < len
      · obtain ⟨j, hj⟩ : ∃ j : Nat, k = j + 1 := ⟨k - 1, by omega⟩
        have hk2 : ((k : Int) - 1) = (j : Int) := by omega
        have hw : IntKind.i64.wrap (j : Int) = (j : Int) := IntWalk.i64_in _ (by omega)
        have hjl : j < len := by omega
        have hkl : k < l.length := by have := HL.out; omega
        have hjl' : j < l.length := by have := HL.out; omega
        obtain ⟨n, d, m, c, hx⟩ : ∃ a b e f, l[k]? = some (a, b, e, f) := ⟨_, _, _, _, List.getElem?_eq_getElem hkl⟩
        obtain ⟨n', d', m', c', hy⟩ : ∃ a b e f, l[j]? = some (a, b, e, f) := ⟨_, _, _, _, List.getElem?_eq_getElem hjl'⟩
        have hne : l ≠ [] := by intro h; rw [h] at hx; simp at hx
        obtain ⟨b, off, rfl, hbb, hcells⟩ := row_at HR.out hne
        obtain ⟨x0, x1, x2, x3⟩ := hcells k n d m c hx
        obtain ⟨y0, y1, y2, y3⟩ := hcells j n' d' m' c' hy
        have hq : eqL n d m c n' d' m' c' = false := by
          cases e : eqL n d m c n' d' m' c'
          · rfl
          · have := (eqL_iffC n d m c n' d' m' c').1 e
            exact absurd this.symm (HD.out j _ _ hy (by rw [← hj]; exact hx))
        have Q1 := fun W => eqlLf n d m c n' d' m' c' W
        rw [hq] at Q1
        clear hcells hne hx hy hq hkl hjl' hj
        go_wp2_with fail
        go_quiet (fail)
        go_wp2
        go_roundw
        case rel => exact ⟨k + 1, by omega, by omega, by go_num, _, rfl⟩
        case measure => simp [intOf]; omega
      · go_wp2
        go_ret
        refine ⟨rfl, ?_⟩
        (repeat' (first | (with_reducible exact Below.refl _ _) | (with_reducible assumption) | (with_reducible refine belowNext ?_ (by with_reducible assumption)) | (with_reducible refine belowAlloc ?_ _) | (with_reducible refine Below.drew ?_) | (with_reducible refine below_drewN ?_ _) | (with_reducible refine Below.setCell ?_ ?_ _) | go_size | (with_reducible refine sizeOf' ?_) | (with_reducible refine sizeAdd ?_) | (dsimp only; first | (with_reducible refine sizeOf' ?_) | (with_reducible refine sizeAdd ?_))))

theorem zeroLf (w : World) : (zeroValue 31).run Try.prog w = .ok (.agg #[.int .i64 0, .int .i64 0, .int .i64 0, .int .i64 0]) w := by kernel_rfl
theorem clrTwo (g c : Nat) (W : World) (ty : TypeId) {a b e d : Int} (y0 : W.cell? ⟨g, 4, none⟩ = some (.int .i64 a)) (y1 : W.cell? ⟨g, 4 + 1, none⟩ = some (.int .i64 b)) (y2 : W.cell? ⟨g, 4 + 2, none⟩ = some (.int .i64 e)) (y3 : W.cell? ⟨g, 4 + 3, none⟩ = some (.int .i64 d))
    (k0 : W.frozen? ⟨g, 4, none⟩ = false) (k1 : W.frozen? ⟨g, 4 + 1, none⟩ = false) (k2 : W.frozen? ⟨g, 4 + 2, none⟩ = false) (k3 : W.frozen? ⟨g, 4 + 3, none⟩ = false) :
    (Builtin.clear_ #[26] ty #[.slice (some ⟨g, 4, none⟩) 1 c]).run Try.prog W = .ok (.tuple #[]) ((((W.setCell ⟨g, 4, none⟩ (.int .i64 0)).setCell ⟨g, 4 + 1, none⟩ (.int .i64 0)).setCell ⟨g, 4 + 2, none⟩ (.int .i64 0)).setCell ⟨g, 4 + 3, none⟩ (.int .i64 0)) := by
  have hst := run_storeCells_cells (P := Try.prog) g 4 [.int .i64 0, .int .i64 0, .int .i64 0, .int .i64 0] 0 W (by
      intro j hj
      match j, hj with
      | 0, _ => simp [y0]
      | 1, _ => simp [y1]
      | 2, _ => simp [y2]
      | 3, _ => simp [y3]) (by
      intro j hj
      match j, hj with
      | 0, _ => simpa using k0
      | 1, _ => simpa using k1
      | 2, _ => simpa using k2
      | 3, _ => simpa using k3) (by intro v hv; simp at hv; subst hv; rfl)
  have hzc : (Builtin.zeroCells (Value.agg #[.int .i64 0, .int .i64 0, .int .i64 0, .int .i64 0]).cells 1).toList = [.int .i64 0, .int .i64 0, .int .i64 0, .int .i64 0] := by kernel_rfl
  simp only [Nat.add_zero] at hst
  simp [Builtin.clear_, run_underlying Try.underlying26, hzc, hst]
  rfl

set_option maxRecDepth 8000 in
set_option maxHeartbeats 2000000 in
theorem compTwo (g cap lo : Nat) (a b c d : Int) (w : World) (ho : LfOwn w lo (some ⟨g, 0, none⟩) [(a, b, c, d), (a, b, c, d)]) (hcap : 2 ≤ cap) :
    Calls Try.prog 109 #[.slice (some ⟨g, 0, none⟩) 2 cap] w fun e w' => e = .returned (.slice (some ⟨g, 0, none⟩) 1 cap) ∧ Hid (LfOwn w' lo (some ⟨g, 0, none⟩) [(a, b, c, d)] ∧ Below lo w w') := by
  obtain ⟨g', off, e, hlo, hg, hc⟩ := ho (by simp)
  injection e with e
  injection e with e1 e2
  subst e1 e2
  obtain ⟨⟨x0, x1, x2, x3⟩, ⟨f0, f1, f2, f3⟩⟩ := hc 0 a b c d rfl
  obtain ⟨⟨y0, y1, y2, y3⟩, ⟨k0, k1, k2, k3⟩⟩ := hc 1 a b c d rfl
  simp only [Nat.zero_mul, Nat.one_mul, Nat.zero_add, Nat.add_zero] at x0 x1 x2 x3 f0 f1 f2 f3 y0 y1 y2 y3 k0 k1 k2 k3
  have Q1 := fun W => eqlLf a b c d a b c d W
  rw [eqL_self] at Q1
  clear ho hc
  go_enter Try.func109, Try.ntmps109
  go_wp2_with fail
  refine wp_loop_rounds 1 ?_
  rw [rounds_succ]
  go_wp2_with fail
  go_quiet (fail)
  go_wp2
  refine wp_loop_rounds 1 ?_
  rw [rounds_succ]
  have hclr : ∀ ty, (Builtin.clear_ #[26] ty #[.slice (some ⟨g, 4, none⟩) 1 (cap - 1)]).run Try.prog (w.drewN nq) = _ := fun ty => clrTwo g (cap - 1) (w.drewN nq) ty y0 y1 y2 y3 k0 k1 k2 k3
  go_wp2
  go_ret
  refine ⟨rfl, Lib.hid ⟨fun _ => ⟨g, 0, rfl, hlo, by simpa using hg, fun i n d' m c' hi => ?_⟩, ?_⟩⟩
  · match i, hi with
    | 0, hi =>
      simp at hi
      obtain ⟨rfl, rfl, rfl, rfl⟩ := hi
      exact ⟨⟨by simp [go_sem, x0], by simp [go_sem, x1], by simp [go_sem, x2], by simp [go_sem, x3]⟩, ⟨by simp [go_sem, f0], by simp [go_sem, f1], by simp [go_sem, f2], by simp [go_sem, f3]⟩⟩
  · exact ((((below_drewN (Below.refl lo w) nq).setCell hlo _).setCell hlo _).setCell hlo _).setCell hlo _
end Go.Proofs.Ytkpgfafmaoaefaa

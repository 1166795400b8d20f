/-
  Contracts: slices.Grow, slices.Concat and slices.Clone at lists of leaves.
-/
import Derived.Test.YtkpgfafmaoaefaaV29
import Derived.Lib.AppendZeros
import Derived.Lib.AppendZerosOnto
import Derived.Laws.OwnMore
namespace Go.Proofs.Ytkpgfafmaoaefaa
open Go.RowKit

theorem ownSliceL {W : World} {e : TypeId} {size : Nat} {v : Value} {n : Nat} {xs : List Value} {lo : Nat} (h : W.ownsRow lo e size v n xs) : ∃ A cap, v = .slice A n cap := by
  rcases h.2 with ⟨a, b⟩ | ⟨g, cap, cur, a, _⟩
  · exact ⟨none, 0, by rw [a, b]⟩
  · exact ⟨_, cap, a⟩
theorem news_of_lf {w : World} {b : Nat} : ∀ (l : List Lf4) (off : Nat), (∀ i n d m c, l[i]? = some (n, d, m, c) → w.cell? ⟨b, off + i * 4, none⟩ = some (.int .i64 n) ∧ w.cell? ⟨b, off + i * 4 + 1, none⟩ = some (.int .i64 d) ∧ w.cell? ⟨b, off + i * 4 + 2, none⟩ = some (.int .i64 m) ∧ w.cell? ⟨b, off + i * 4 + 3, none⟩ = some (.int .i64 c)) →
    ∀ j u, (flatL l)[j]? = some u → w.cell? ⟨b, off + j, none⟩ = some u
  | [], _, _, j, u, h => by simp [flatL] at h
  | (p1, p2, p3, p4) :: l, off, hc, j, u, h => by
    obtain ⟨h0, h1, h2, h3⟩ := hc 0 p1 p2 p3 p4 rfl
    match j, h with
    | 0, h => simp [flatL] at h; subst h; simpa using h0
    | 1, h => simp [flatL] at h; subst h; simpa using h1
    | 2, h => simp [flatL] at h; subst h; simpa using h2
    | 3, h => simp [flatL] at h; subst h; simpa using h3
    | j + 4, h =>
      have := news_of_lf l (off + 4) (fun i n d m c hi => by
        have := hc (i + 1) n d m c (by simpa using hi)
        rw [show off + (i + 1) * 4 = off + 4 + i * 4 by omega] at this
        exact this) j u (by simpa [flatL] using h)
      rw [show off + (j + 4) = off + 4 + j by omega]
      exact this
theorem news_of_row4 {w : World} {A : Option Addr} {B : Nat} {l : List Lf4} (hr : LfRow w B A l) {a : Addr} (ha : A = some a) : ∀ j u, (flatL l)[j]? = some u → w.cell? (a.add j) = some u := by
  intro j u h
  have hne : l ≠ [] := by intro e; rw [e] at h; simp [flatL] at h
  obtain ⟨b, off, e, _, hc⟩ := hr hne
  rw [ha] at e
  injection e with e
  subst e
  have hadd : (⟨b, off, none⟩ : Addr).add j = ⟨b, off + j, none⟩ := by unfold Addr.add; split <;> simp_all
  rw [hadd]
  exact news_of_lf l off hc j u h

set_option maxRecDepth 100000 in
set_option maxHeartbeats 1000000 in
theorem growNilL (N : Nat) (w : World) (h1 : 1 ≤ N) (hN : N ≤ 1000000) :
    Calls Try.prog 134 #[.slice none 0 0, .int .i64 N] w fun e w' => ∃ b c, e = .returned (.slice (some ⟨b, 0, none⟩) ([] : List Lf4).length c) ∧ w'.ownsRow w.heap.size 31 4 (.slice (some ⟨b, 0, none⟩) ([] : List Lf4).length c) ([] : List Lf4).length (flatL []) ∧ Below w.heap.size w w' := by
  obtain ⟨i0, hi, hz0, hz1, hz2⟩ := infoL_parts infoLf
  have hrz : ∀ ty, (Builtin.append_ #[26, 3] ty #[.slice none 0 0, .int .i64 (N : Int)]).run Try.prog w =
      .ok (.slice (some ⟨w.heap.size, 0, none⟩) N (grownCap w N 0 31)) (w.drew.alloc (.cells (Builtin.zeroCells (Value.agg #[.int .i64 0, .int .i64 0, .int .i64 0, .int .i64 0]).cells N ++ Builtin.zeroCells (Value.agg #[.int .i64 0, .int .i64 0, .int .i64 0, .int .i64 0]).cells (grownCap w N 0 31 - N)) 31)) := fun ty =>
    Lib.run_append_nil_zeros w 26 3 ty 31 i0 _ .i64 .i64 Try.underlying26 Try.underlying3 hi hz0 N (by omega) (by omega) (by omega) (by rw [hz2]; omega)
  have hG := grownCap_ge w N 0 31
  have hG2 := grownCap_le_maxLen w N 0 31 (by unfold maxLen; omega)
  obtain ⟨G, hGe⟩ : ∃ G, grownCap w N 0 31 = G := ⟨_, rfl⟩
  rw [hGe] at hrz hG hG2
  obtain ⟨M, hM⟩ : ∃ M, Builtin.zeroCells (Value.agg #[.int .i64 0, .int .i64 0, .int .i64 0, .int .i64 0]).cells N ++ Builtin.zeroCells (Value.agg #[.int .i64 0, .int .i64 0, .int .i64 0, .int .i64 0]).cells (G - N) = M := ⟨_, rfl⟩
  have hMs : M.size = G * 4 := by
    rw [← hM]
    simp [Builtin.zeroCells, Value.cells]
    omega
  rw [hM] at hrz
  have hG63 : G ≤ 9223372036854775807 := by unfold maxLen at hG2; omega
  have hn : ¬ ((N : Int) < 0) := by omega
  have hn2 : (N : Int) > 0 := by omega
  have hrow : (w.drew.alloc (.cells M 31)).ownsRow w.heap.size 31 4 (.slice (some ⟨w.heap.size, 0, none⟩) ([] : List Lf4).length G) ([] : List Lf4).length (flatL []) :=
    ⟨rfl, .inr ⟨w.heap.size, G, M, rfl, Nat.le_refl _, heap_alloc_new w.drew (.cells M 31), by simp, hG2, hMs, by simp [flatL]⟩⟩
  clear hM hGe hG2 hMs
  go_enter Try.func134, Try.ntmps134
  go_wp2_with (at_builtin; refine Lib.wpList_append_run _ rfl _ _ _ _ rfl _ _ rfl rfl _ _ (hrz _) ?_)
  all_goals (go_ret; exact ⟨_, _, rfl, hrow, belowAlloc (Below.refl _ _).drew _⟩)

/-- A slice that holds the leaves l. -/
def SlOk (w : World) (v : Value) (l : List Lf4) : Prop := ∃ (A : Option Addr) (c : Nat), v = .slice A l.length c ∧ LfRow w w.heap.size A l ∧ (A = none → c = 0)
theorem SlOk.next {w w' : World} {v : Value} {l : List Lf4} (h : SlOk w v l) (hb : Below w.heap.size w w') : SlOk w' v l := by
  obtain ⟨A, c, h1, h2, h3⟩ := h
  exact ⟨A, c, h1, h2.next hb, h3⟩
/-- The first k of some lists, one behind the other. -/
def accL (ls : Nat → List Lf4) : Nat → List Lf4
  | 0 => []
  | k + 1 => accL ls k ++ ls k

set_option maxRecDepth 100000 in
set_option maxHeartbeats 2000000 in
theorem concatL (m g : Nat) (vs : Nat → Value) (ls : Nat → List Lf4) (w : World) (hv : ∀ k, k < m → SlOk w (vs k) (ls k)) (hc : ∀ k, k < m → w.cell? ⟨g, k, none⟩ = some (vs k)) (hg : g < w.heap.size) (hm : m ≤ 100) (hlen : ∀ k, k ≤ m → (accL ls k).length ≤ 100000) (hpos : 1 ≤ (accL ls m).length) :
    Calls Try.prog 100 #[.slice (some ⟨g, 0, none⟩) m m] w fun e w' => ∃ b c, e = .returned (.slice (some ⟨b, 0, none⟩) (accL ls m).length c) ∧ w'.ownsRow w.heap.size 31 4 (.slice (some ⟨b, 0, none⟩) (accL ls m).length c) (accL ls m).length (flatL (accL ls m)) ∧ Below w.heap.size w w' := by
  have HV := Lib.hid hv
  have HC := Lib.hid hc
  have HLn := Lib.hid hlen
  obtain ⟨i0, hi, hz0, hz1, hz2⟩ := infoL_parts infoLf
  obtain ⟨N, hN⟩ : ∃ N, (accL ls m).length = N := ⟨_, rfl⟩
  have hN1 : 1 ≤ N := by omega
  have hN2 : N ≤ 1000000 := by have := hlen m (Nat.le_refl _); omega
  have HG := Lib.hid (fun w => growNilL N w hN1 hN2)
  have HNn := Lib.hid hN
  clear hv hc hlen hpos hN
  go_enter Try.func100, Try.ntmps100
  go_wp2_with fail
  go_loopg [3, 11] m (fun gk s3 s11 wx => ∃ (k L : Nat), k + gk = m ∧ L = (accL ls k).length ∧ s11 = .int .i64 k ∧ s3 = .int .i64 L ∧ Hid (Below w.heap.size w wx))
  case atStart => exact ⟨0, 0, by omega, rfl, rfl, rfl, Lib.hid (Below.refl _ _)⟩
  case round =>
    obtain ⟨k, L, hk, hLe, rfl, rfl, HB⟩ := hrel
    have hL1 : L ≤ 100000 := by have := HLn.out k (by omega); omega
    cases gk with
    | zero =>
      obtain rfl : k = m := by omega
      obtain rfl : L = N := by rw [hLe]; exact HNn.out
      have hli : ¬ ((k : Int) < (k : Int)) := by omega
      clear hk hLe
      go_wp2_with fail
      refine (HG.out _).mono ?_
      rintro e w2 ⟨b0, c0, rfl, ho2, hb2⟩
      have HO2 := Lib.hid (ownMonoL ho2 HB.out.size)
      have HB2 := Lib.hid (belowNext HB.out hb2)
      clear ho2 hb2
      go_wp2_with fail
      go_loopg [6, 27] k (fun gk s6 s27 wx => ∃ (j b c : Nat) (O : List Lf4), j + gk = k ∧ Hid (O = accL ls j) ∧ s27 = .int .i64 j ∧ s6 = .slice (some ⟨b, 0, none⟩) O.length c ∧ Hid (wx.ownsRow w.heap.size 31 4 s6 O.length (flatL O)) ∧ Hid (Below w.heap.size w wx))
      case atStart => exact ⟨0, b0, c0, [], by omega, Lib.hid rfl, rfl, rfl, HO2, HB2⟩
      case round =>
        clear HO2 HB2 HB
        obtain ⟨j, b, c, O, hj, HO, rfl, rfl, HW, HB⟩ := hrel
        cases gk with
        | zero =>
          obtain rfl : j = k := by omega
          have hli : ¬ ((j : Int) < (j : Int)) := by omega
          have e := HNn.out
          rw [← HO.out] at e
          subst e
          clear hj
          go_wp2
          go_ret
          rw [← HO.out]
          exact ⟨b, c, rfl, HW.out, HB.out⟩
        | succ gg =>
          have hlt : (j : Int) < (k : Int) := by omega
          obtain ⟨A, cA, hvj, hrow, hnil⟩ := (HV.out j (by omega)).next HB.out
          have x0 := (HB.out.cell (p := ⟨g, j, none⟩) hg).trans (HC.out j (by omega))
          rw [hvj] at x0
          have hOl : O.length ≤ 100000 := by rw [HO.out]; exact HLn.out j (by omega)
          have hln : (accL ls (j + 1)).length ≤ 100000 := HLn.out (j + 1) (by omega)
          have hacc : accL ls (j + 1) = O ++ ls j := by rw [HO.out]; rfl
          rw [hacc, List.length_append] at hln
          have hgw : g < wr.heap.size := Nat.lt_of_lt_of_le hg HB.out.size
          have HJ := Lib.hid hj
          have HAc := Lib.hid hacc
          clear hj hacc hvj
          cases A with
          | none =>
            have hc0 := hnil rfl
            have hl0 : ls j = [] := by
              rcases hq : ls j with _ | ⟨p, t⟩
              · rfl
              · obtain ⟨b', off, e, _⟩ := hrow (by rw [hq]; simp)
                cases e
            rw [hl0, hc0] at x0
            have hrn : ∀ ty, (Builtin.append_ #[26, 26] ty #[.slice (some ⟨b, 0, none⟩) O.length c, .slice none ([] : List Lf4).length 0]).run Try.prog wr = .ok (.slice (some ⟨b, 0, none⟩) O.length c) wr := fun ty => run_append_owned_none wr w.heap.size 26 ty 31 i0 4 Try.underlying26 hi _ _ _ HW.out
            have HO2 : Hid (O = accL ls (j + 1)) := Lib.hid (by rw [HAc.out, hl0, List.append_nil])
            clear hrow hl0 hc0 hnil
            go_wp2_with (at_builtin; refine Lib.wpList_append_run _ rfl _ _ _ _ rfl _ _ rfl rfl _ _ (hrn _) ?_)
            go_roundg gg
            case measure => omega
            case rel => exact ⟨j + 1, b, c, O, by have := HJ.out; omega, HO2, by go_num, rfl, HW, HB⟩
          | some ad =>
            have hnews := Lib.hid (news_of_row4 hrow rfl)
            clear hrow hnil
            go_wp2_with (at_builtin; refine wpList_append_own_at _ rfl _ _ 26 rfl w.heap.size 31 i0 (.agg #[.int .i64 0, .int .i64 0, .int .i64 0, .int .i64 0]) 4 32 Try.underlying26 hi hz0 hz1 hz2 rfl (by decide) _ _ _ rfl HW.out ad (ls j).length cA (flatL (ls j)) rfl (flatL_len _) hnews.out (flatL_one _) ?c3 ?c4 ?c5 ?_)
            case c3 => unfold maxLen; omega
            case c4 => omega
            case c5 => exact HB.out.size
            intro v' w11 hown' hgrow hnn hblk
            obtain ⟨A', cA', rfl⟩ := ownSliceL hown'
            have HB11 : Hid (Below w.heap.size w w11) := Lib.hid (HB.out.grown hgrow HB.out.size (fun j hj => by have := own_blockL HW.out j hj; omega))
            obtain ⟨b'', rfl⟩ : ∃ b'', A' = some ⟨b'', 0, none⟩ := by
              rcases hown'.2 with ⟨h1, _⟩ | ⟨b'', c2, cur, h1, _⟩
              · exact (hnn h1).elim
              · injection h1 with h1; exact ⟨b'', h1⟩
            have HW11 := Lib.hid hown'
            clear hown' hgrow hnn hblk HW HB
            go_wp2
            go_roundg gg
            case measure => omega
            case rel => exact ⟨j + 1, b'', cA', O ++ ls j, by have := HJ.out; omega, Lib.hid HAc.out.symm, by go_num, by rw [List.length_append], Lib.hid (by rw [flatL_app, List.length_append]; exact HW11.out), HB11⟩
    | succ gg =>
      have hlt : (k : Int) < (m : Int) := by omega
      obtain ⟨A, cA, hvk, hrow, hnil⟩ := (HV.out k (by omega)).next HB.out
      have x0 := (HB.out.cell (p := ⟨g, k, none⟩) hg).trans (HC.out k (by omega))
      rw [hvk] at x0
      have hln : (accL ls (k + 1)).length ≤ 100000 := HLn.out (k + 1) (by omega)
      have hacc : (accL ls (k + 1)).length = L + (ls k).length := by rw [hLe]; exact List.length_append
      have hw1 : IntKind.i64.wrap ((L : Int) + ((ls k).length : Int)) = (L : Int) + ((ls k).length : Int) := IntWalk.i64_in _ (by omega)
      have hn1 : ¬ ((L : Int) + ((ls k).length : Int) < 0) := by omega
      have hgw : g < wr.heap.size := Nat.lt_of_lt_of_le hg HB.out.size
      have HJ := Lib.hid hk
      have HAc := Lib.hid hacc
      clear hk hacc hvk hrow hnil hLe
      go_wp2
      go_roundg gg
      case measure => omega
      case rel => exact ⟨k + 1, L + (ls k).length, by have := HJ.out; omega, HAc.out.symm, by go_num, by go_num, HB⟩
end Go.Proofs.Ytkpgfafmaoaefaa

/-
  Rows of sequences; slices.Grow and slices.Concat at them; written by genE21.py.
-/
import Derived.Test.YtomcmjnhfloeeaaDoorE14
import Derived.Test.YtomcmjnhfloeeaaDoorD8
import Derived.Test.YtomcmjnhfloeeaaDoorE9
import Derived.Lib.AppendZeros
import Derived.Lib.AppendZerosOnto
import Derived.Laws.OwnMore
import Derived.Deep.LoopGhost
namespace Go.Proofs.YtomcmjnhfloeeaaDoor
open Go.RowKit

/-- A slice with the address A holds the sequences l, in a block below B. -/
def SeqRow (w : World) (B : Nat) (A : Option Addr) (l : List (Wd × Wd)) : Prop :=
  l ≠ [] → ∃ b off, A = some ⟨b, off, none⟩ ∧ b < B ∧ ∀ i x y, l[i]? = some (x, y) → w.cell? ⟨b, off + i * 2, none⟩ = some (.string (bs x)) ∧ w.cell? ⟨b, off + i * 2 + 1, none⟩ = some (.string (bs y))
theorem SeqRow.below {w w' : World} {B : Nat} {A : Option Addr} {l : List (Wd × Wd)} (h : SeqRow w B A l) (hb : Below B w w') : SeqRow w' B A l := by
  intro hl
  obtain ⟨b, off, e, hbb, hc⟩ := h hl
  exact ⟨b, off, e, hbb, fun i x y hi => ⟨(hb.cell (p := ⟨b, _, none⟩) hbb).trans (hc i x y hi).1, (hb.cell (p := ⟨b, _, none⟩) hbb).trans (hc i x y hi).2⟩⟩
theorem SeqRow.more {w : World} {B B' : Nat} {A : Option Addr} {l : List (Wd × Wd)} (h : SeqRow w B A l) (hB : B ≤ B') : SeqRow w B' A l := by
  intro hl
  obtain ⟨b, off, e, hb, hc⟩ := h hl
  exact ⟨b, off, e, by omega, hc⟩
theorem SeqRow.next {w w' : World} {A : Option Addr} {l : List (Wd × Wd)} (h : SeqRow w w.heap.size A l) (hb : Below w.heap.size w w') : SeqRow w' w'.heap.size A l := (h.below hb).more hb.size
/-- The same in a block from lo on, whose cells may be written. -/
def SeqOwn (w : World) (lo : Nat) (A : Option Addr) (l : List (Wd × Wd)) : Prop :=
  l ≠ [] → ∃ b off, A = some ⟨b, off, none⟩ ∧ lo ≤ b ∧ b < w.heap.size ∧ ∀ i x y, l[i]? = some (x, y) → (w.cell? ⟨b, off + i * 2, none⟩ = some (.string (bs x)) ∧ w.cell? ⟨b, off + i * 2 + 1, none⟩ = some (.string (bs y))) ∧ w.frozen? ⟨b, off + i * 2, none⟩ = false ∧ w.frozen? ⟨b, off + i * 2 + 1, none⟩ = false
theorem SeqOwn.row {w : World} {lo : Nat} {A : Option Addr} {l : List (Wd × Wd)} (h : SeqOwn w lo A l) : SeqRow w w.heap.size A l := by
  intro hl
  obtain ⟨b, off, e, _, hb, hc⟩ := h hl
  exact ⟨b, off, e, hb, fun i x y hi => (hc i x y hi).1⟩
theorem SeqOwn.next {w w' : World} {lo : Nat} {A : Option Addr} {l : List (Wd × Wd)} (h : SeqOwn w lo A l) (hb : Below w.heap.size w w') : SeqOwn w' lo A l := by
  intro hl
  obtain ⟨b, off, e, h1, h2, hc⟩ := h hl
  refine ⟨b, off, e, h1, Nat.lt_of_lt_of_le h2 hb.size, fun i x y hi => ?_⟩
  obtain ⟨⟨a1, a2⟩, a3, a4⟩ := hc i x y hi
  exact ⟨⟨(hb.cell (p := ⟨b, _, none⟩) h2).trans a1, (hb.cell (p := ⟨b, _, none⟩) h2).trans a2⟩, (hb.frozen (p := ⟨b, _, none⟩) h2).trans a3, (hb.frozen (p := ⟨b, _, none⟩) h2).trans a4⟩
/-- The cells of sequences. -/
def flatQ : List (Wd × Wd) → List Value
  | [] => []
  | (x, y) :: l => .string (bs x) :: .string (bs y) :: flatQ l
theorem flatQ_app : ∀ (l m : List (Wd × Wd)), flatQ (l ++ m) = flatQ l ++ flatQ m
  | [], m => rfl
  | (x, y) :: l, m => by simp [flatQ, flatQ_app l m]
theorem flatQ_len : ∀ l : List (Wd × Wd), (flatQ l).length = l.length * 2
  | [] => rfl
  | (x, y) :: l => by simp [flatQ, flatQ_len l]; omega
theorem flatQ_one : ∀ (l : List (Wd × Wd)), ∀ u ∈ flatQ l, u.oneCell' = true
  | [], u, h => by simp [flatQ] at h
  | (x, y) :: l, u, h => by
    simp [flatQ] at h
    rcases h with rfl | rfl | h
    · rfl
    · rfl
    · exact flatQ_one l u h
theorem flatQ_at : ∀ (l : List (Wd × Wd)) (i : Nat) (x y : Wd), l[i]? = some (x, y) → (flatQ l)[i * 2]? = some (.string (bs x)) ∧ (flatQ l)[i * 2 + 1]? = some (.string (bs y))
  | [], i, x, y, h => by simp at h
  | (a, b) :: l, 0, x, y, h => by simp at h; obtain ⟨rfl, rfl⟩ := h; simp [flatQ]
  | (a, b) :: l, i + 1, x, y, h => by
    obtain ⟨h1, h2⟩ := flatQ_at l i x y (by simpa using h)
    rw [show (i + 1) * 2 = i * 2 + 1 + 1 by omega]
    exact ⟨by simpa [flatQ] using h1, by simpa [flatQ] using h2⟩
theorem infoSq : (Tryd.prog.info? 25).map (fun i => (i.zero, i.size, i.bytes)) = some (some (.agg #[.string ⟨#[]⟩, .string ⟨#[]⟩]), 2, 32) := by kernel_rfl
theorem infoSq_parts {t : TypeId} {z : Value} {s b : Nat} (h : (Tryd.prog.info? t).map (fun i => (i.zero, i.size, i.bytes)) = some (some z, s, b)) : ∃ i, Tryd.prog.info? t = some i ∧ i.zero = some z ∧ i.size = s ∧ i.bytes = b := by
  cases hi : Tryd.prog.info? t with
  | none => rw [hi] at h; cases h
  | some i =>
    rw [hi] at h
    simp at h
    exact ⟨i, rfl, h.1, h.2.1, h.2.2⟩
abbrev ownsQ (W : World) (lo : Nat) (v : Value) (l : List (Wd × Wd)) : Prop := W.ownsRow lo 25 2 v l.length (flatQ l)
theorem ownQ_of {W : World} {lo : Nat} {A : Option Addr} {l : List (Wd × Wd)} {c : Nat} (h : W.ownsRow lo 25 2 (.slice A l.length c) l.length (flatQ l)) : SeqOwn W lo A l := by
  intro hl
  have hk : 0 < l.length := by
    rcases Nat.eq_zero_or_pos l.length with h0 | h0
    · rw [List.length_eq_zero_iff.1 h0] at hl; exact absurd rfl hl
    · exact h0
  obtain ⟨g, c', hv, hlo, hg⟩ := World.ownsRow.form h hk
  obtain ⟨rfl, rfl⟩ : A = some ⟨g, 0, none⟩ ∧ c = c' := by injection hv with hA hn hc; exact ⟨hA, hc⟩
  refine ⟨g, 0, rfl, hlo, hg, fun i x y hi => ?_⟩
  have hil : i < l.length := by
    rcases Nat.lt_or_ge i l.length with h1 | h1
    · exact h1
    · rw [List.getElem?_eq_none h1] at hi; cases hi
  obtain ⟨e1, e2⟩ := flatQ_at l i x y hi
  rw [show 0 + i * 2 = i * 2 by omega]
  exact ⟨⟨(World.ownsRow.cellAt h _ (by omega)).trans e1, (World.ownsRow.cellAt h _ (by omega)).trans e2⟩, World.ownsRow.frozenAt h _, World.ownsRow.frozenAt h _⟩
theorem news_of_sq {w : World} {b : Nat} : ∀ (l : List (Wd × Wd)) (off : Nat), (∀ i n d, l[i]? = some (n, d) → w.cell? ⟨b, off + i * 2, none⟩ = some (.string (bs n)) ∧ w.cell? ⟨b, off + i * 2 + 1, none⟩ = some (.string (bs d))) →
    ∀ j u, (flatQ l)[j]? = some u → w.cell? ⟨b, off + j, none⟩ = some u
  | [], _, _, j, u, h => by simp [flatQ] at h
  | (p1, p2) :: l, off, hc, j, u, h => by
    obtain ⟨h0, h1⟩ := hc 0 p1 p2 rfl
    match j, h with
    | 0, h => simp [flatQ] at h; subst h; simpa using h0
    | 1, h => simp [flatQ] at h; subst h; simpa using h1
    | j + 2, h =>
      have := news_of_sq l (off + 2) (fun i n d hi => by
        have := hc (i + 1) n d (by simpa using hi)
        rw [show off + (i + 1) * 2 = off + 2 + i * 2 by omega] at this
        exact this) j u (by simpa [flatQ] using h)
      rw [show off + (j + 2) = off + 2 + j by omega]
      exact this
theorem ownSliceQ {W : World} {e : TypeId} {size : Nat} {v : Value} {n : Nat} {xs : List Value} {lo : Nat} (h : W.ownsRow lo e size v n xs) : ∃ A cap, v = .slice A n cap := by
  rcases h.2 with ⟨a, b⟩ | ⟨g, cap, cur, a, _⟩
  · exact ⟨none, 0, by rw [a, b]⟩
  · exact ⟨_, cap, a⟩
theorem news_of_row2Q {w : World} {A : Option Addr} {B : Nat} {l : List (Wd × Wd)} (hr : SeqRow w B A l) {a : Addr} (ha : A = some a) : ∀ j u, (flatQ l)[j]? = some u → w.cell? (a.add j) = some u := by
  intro j u h
  have hne : l ≠ [] := by intro e; rw [e] at h; simp [flatQ] at h
  obtain ⟨b, off, e, _, hc⟩ := hr hne
  rw [ha] at e
  injection e with e
  subst e
  have hadd : (⟨b, off, none⟩ : Addr).add j = ⟨b, off + j, none⟩ := by unfold Addr.add; split <;> simp_all
  rw [hadd]
  exact news_of_sq l off hc j u h

set_option maxRecDepth 100000 in
set_option maxHeartbeats 1000000 in
theorem growNilQ (N : Nat) (w : World) (h1 : 1 ≤ N) (hN : N ≤ 1000000) :
    Calls Tryd.prog 91 #[.slice none 0 0, .int .i64 N] w fun e w' => ∃ b c, e = .returned (.slice (some ⟨b, 0, none⟩) ([] : List (Wd × Wd)).length c) ∧ w'.ownsRow w.heap.size 25 2 (.slice (some ⟨b, 0, none⟩) ([] : List (Wd × Wd)).length c) ([] : List (Wd × Wd)).length (flatQ []) ∧ Below w.heap.size w w' := by
  obtain ⟨i0, hi, hz0, hz1, hz2⟩ := infoSq_parts infoSq
  have hrz : ∀ ty, (Builtin.append_ #[46, 3] ty #[.slice none 0 0, .int .i64 (N : Int)]).run Tryd.prog w =
      .ok (.slice (some ⟨w.heap.size, 0, none⟩) N (grownCap w N 0 25)) (w.drew.alloc (.cells (Builtin.zeroCells (Value.agg #[.string ⟨#[]⟩, .string ⟨#[]⟩]).cells N ++ Builtin.zeroCells (Value.agg #[.string ⟨#[]⟩, .string ⟨#[]⟩]).cells (grownCap w N 0 25 - N)) 25)) := fun ty =>
    Lib.run_append_nil_zeros w 46 3 ty 25 i0 _ .i64 .i64 Tryd.underlying46 Tryd.underlying3 hi hz0 N (by omega) (by omega) (by omega) (by rw [hz2]; omega)
  have hG := grownCap_ge w N 0 25
  have hG2 := grownCap_le_maxLen w N 0 25 (by unfold maxLen; omega)
  obtain ⟨G, hGe⟩ : ∃ G, grownCap w N 0 25 = G := ⟨_, rfl⟩
  rw [hGe] at hrz hG hG2
  obtain ⟨M, hM⟩ : ∃ M, Builtin.zeroCells (Value.agg #[.string ⟨#[]⟩, .string ⟨#[]⟩]).cells N ++ Builtin.zeroCells (Value.agg #[.string ⟨#[]⟩, .string ⟨#[]⟩]).cells (G - N) = M := ⟨_, rfl⟩
  have hMs : M.size = G * 2 := by
    rw [← hM]
    simp [Builtin.zeroCells, Value.cells]
    omega
  rw [hM] at hrz
  have hG63 : G ≤ 9223372036854775807 := by unfold maxLen at hG2; omega
  have hn : ¬ ((N : Int) < 0) := by omega
  have hn2 : (N : Int) > 0 := by omega
  have hrow : (w.drew.alloc (.cells M 25)).ownsRow w.heap.size 25 2 (.slice (some ⟨w.heap.size, 0, none⟩) ([] : List (Wd × Wd)).length G) ([] : List (Wd × Wd)).length (flatQ []) :=
    ⟨rfl, .inr ⟨w.heap.size, G, M, rfl, Nat.le_refl _, heap_alloc_new w.drew (.cells M 25), by simp, hG2, hMs, by simp [flatQ]⟩⟩
  clear hM hGe hG2 hMs
  go_enter Tryd.func91, Tryd.ntmps91
  go_wp2_with (at_builtin; refine Lib.wpList_append_run _ rfl _ _ _ _ rfl _ _ rfl rfl _ _ (hrz _) ?_)
  all_goals (go_ret; exact ⟨_, _, rfl, hrow, belowAlloc (Below.refl _ _).drew _⟩)

/-- A slice that holds the leaves l. -/
def SlOkQ (w : World) (v : Value) (l : List (Wd × Wd)) : Prop := ∃ (A : Option Addr) (c : Nat), v = .slice A l.length c ∧ SeqRow w w.heap.size A l ∧ (A = none → c = 0)
theorem SlOkQ.next {w w' : World} {v : Value} {l : List (Wd × Wd)} (h : SlOkQ w v l) (hb : Below w.heap.size w w') : SlOkQ w' v l := by
  obtain ⟨A, c, h1, h2, h3⟩ := h
  exact ⟨A, c, h1, h2.next hb, h3⟩
/-- The first k of some lists, one behind the other. -/
def accQ (ls : Nat → List (Wd × Wd)) : Nat → List (Wd × Wd)
  | 0 => []
  | k + 1 => accQ ls k ++ ls k

set_option maxRecDepth 100000 in
set_option maxHeartbeats 2000000 in
theorem concatQ (m g : Nat) (vs : Nat → Value) (ls : Nat → List (Wd × Wd)) (w : World) (hv : ∀ k, k < m → SlOkQ w (vs k) (ls k)) (hc : ∀ k, k < m → w.cell? ⟨g, k, none⟩ = some (vs k)) (hg : g < w.heap.size) (hm : m ≤ 100) (hlen : ∀ k, k ≤ m → (accQ ls k).length ≤ 100000) (hpos : 1 ≤ (accQ ls m).length) :
    Calls Tryd.prog 77 #[.slice (some ⟨g, 0, none⟩) m m] w fun e w' => ∃ b c, e = .returned (.slice (some ⟨b, 0, none⟩) (accQ ls m).length c) ∧ w'.ownsRow w.heap.size 25 2 (.slice (some ⟨b, 0, none⟩) (accQ ls m).length c) (accQ ls m).length (flatQ (accQ ls m)) ∧ Below w.heap.size w w' := by
  have HV := Lib.hid hv
  have HC := Lib.hid hc
  have HLn := Lib.hid hlen
  obtain ⟨i0, hi, hz0, hz1, hz2⟩ := infoSq_parts infoSq
  obtain ⟨N, hN⟩ : ∃ N, (accQ ls m).length = N := ⟨_, rfl⟩
  have hN1 : 1 ≤ N := by omega
  have hN2 : N ≤ 1000000 := by have := hlen m (Nat.le_refl _); omega
  have HG := Lib.hid (fun w => growNilQ N w hN1 hN2)
  have HNn := Lib.hid hN
  clear hv hc hlen hpos hN
  go_enter Tryd.func77, Tryd.ntmps77
  go_wp2_with fail
  go_loopg [3, 11] m (fun gk s3 s11 wx => ∃ (k L : Nat), k + gk = m ∧ L = (accQ ls k).length ∧ s11 = .int .i64 k ∧ s3 = .int .i64 L ∧ Hid (Below w.heap.size w wx))
  case atStart => exact ⟨0, 0, by omega, rfl, rfl, rfl, Lib.hid (Below.refl _ _)⟩
  case round =>
    obtain ⟨k, L, hk, hLe, rfl, rfl, HB⟩ := hrel
    have hL1 : L ≤ 100000 := by have := HLn.out k (by omega); omega
    cases gk with
    | zero =>
      obtain rfl : k = m := by omega
      obtain rfl : L = N := by rw [hLe]; exact HNn.out
      have hli : ¬ ((k : Int) < (k : Int)) := by omega
      clear hk hLe
      go_wp2_with fail
      refine (HG.out _).mono ?_
      rintro e w2 ⟨b0, c0, rfl, ho2, hb2⟩
      have HO2 := Lib.hid (ownMonoI ho2 HB.out.size)
      have HB2 := Lib.hid (belowNext HB.out hb2)
      clear ho2 hb2
      go_wp2_with fail
      go_loopg [6, 27] k (fun gk s6 s27 wx => ∃ (j b c : Nat) (O : List (Wd × Wd)), j + gk = k ∧ Hid (O = accQ ls j) ∧ s27 = .int .i64 j ∧ s6 = .slice (some ⟨b, 0, none⟩) O.length c ∧ Hid (wx.ownsRow w.heap.size 25 2 s6 O.length (flatQ O)) ∧ Hid (Below w.heap.size w wx))
      case atStart => exact ⟨0, b0, c0, [], by omega, Lib.hid rfl, rfl, rfl, HO2, HB2⟩
      case round =>
        clear HO2 HB2 HB
        obtain ⟨j, b, c, O, hj, HO, rfl, rfl, HW, HB⟩ := hrel
        cases gk with
        | zero =>
          obtain rfl : j = k := by omega
          have hli : ¬ ((j : Int) < (j : Int)) := by omega
          have e := HNn.out
          rw [← HO.out] at e
          subst e
          clear hj
          go_wp2
          go_ret
          rw [← HO.out]
          exact ⟨b, c, rfl, HW.out, HB.out⟩
        | succ gg =>
          have hlt : (j : Int) < (k : Int) := by omega
          obtain ⟨A, cA, hvj, hrow, hnil⟩ := (HV.out j (by omega)).next HB.out
          have x0 := (HB.out.cell (p := ⟨g, j, none⟩) hg).trans (HC.out j (by omega))
          rw [hvj] at x0
          have hOl : O.length ≤ 100000 := by rw [HO.out]; exact HLn.out j (by omega)
          have hln : (accQ ls (j + 1)).length ≤ 100000 := HLn.out (j + 1) (by omega)
          have hacc : accQ ls (j + 1) = O ++ ls j := by rw [HO.out]; rfl
          rw [hacc, List.length_append] at hln
          have hgw : g < wr.heap.size := Nat.lt_of_lt_of_le hg HB.out.size
          have HJ := Lib.hid hj
          have HAc := Lib.hid hacc
          clear hj hacc hvj
          cases A with
          | none =>
            have hc0 := hnil rfl
            have hl0 : ls j = [] := by
              rcases hq : ls j with _ | ⟨p, t⟩
              · rfl
              · obtain ⟨b', off, e, _⟩ := hrow (by rw [hq]; simp)
                cases e
            rw [hl0, hc0] at x0
            have hrn : ∀ ty, (Builtin.append_ #[46, 46] ty #[.slice (some ⟨b, 0, none⟩) O.length c, .slice none ([] : List (Wd × Wd)).length 0]).run Tryd.prog wr = .ok (.slice (some ⟨b, 0, none⟩) O.length c) wr := fun ty => run_append_owned_none wr w.heap.size 46 ty 25 i0 2 Tryd.underlying46 hi _ _ _ HW.out
            have HO2 : Hid (O = accQ ls (j + 1)) := Lib.hid (by rw [HAc.out, hl0, List.append_nil])
            clear hrow hl0 hc0 hnil
            go_wp2_with (at_builtin; refine Lib.wpList_append_run _ rfl _ _ _ _ rfl _ _ rfl rfl _ _ (hrn _) ?_)
            go_roundg gg
            case measure => omega
            case rel => exact ⟨j + 1, b, c, O, by have := HJ.out; omega, HO2, by go_num, rfl, HW, HB⟩
          | some ad =>
            have hnews := Lib.hid (news_of_row2Q hrow rfl)
            clear hrow hnil
            go_wp2_with (at_builtin; refine wpList_append_own_at _ rfl _ _ 46 rfl w.heap.size 25 i0 (.agg #[.string ⟨#[]⟩, .string ⟨#[]⟩]) 2 32 Tryd.underlying46 hi hz0 hz1 hz2 rfl (by decide) _ _ _ rfl HW.out ad (ls j).length cA (flatQ (ls j)) rfl (flatQ_len _) hnews.out (flatQ_one _) ?c3 ?c4 ?c5 ?_)
            case c3 => unfold maxLen; omega
            case c4 => omega
            case c5 => exact HB.out.size
            intro v' w11 hown' hgrow hnn hblk
            obtain ⟨A', cA', rfl⟩ := ownSliceQ hown'
            have HB11 : Hid (Below w.heap.size w w11) := Lib.hid (HB.out.grown hgrow HB.out.size (fun j hj => by have := own_blockI HW.out j hj; omega))
            obtain ⟨b'', rfl⟩ : ∃ b'', A' = some ⟨b'', 0, none⟩ := by
              rcases hown'.2 with ⟨h1, _⟩ | ⟨b'', c2, cur, h1, _⟩
              · exact (hnn h1).elim
              · injection h1 with h1; exact ⟨b'', h1⟩
            have HW11 := Lib.hid hown'
            clear hown' hgrow hnn hblk HW HB
            go_wp2
            go_roundg gg
            case measure => omega
            case rel => exact ⟨j + 1, b'', cA', O ++ ls j, by have := HJ.out; omega, Lib.hid HAc.out.symm, by go_num, by rw [List.length_append], Lib.hid (by rw [flatQ_app, List.length_append]; exact HW11.out), HB11⟩
    | succ gg =>
      have hlt : (k : Int) < (m : Int) := by omega
      obtain ⟨A, cA, hvk, hrow, hnil⟩ := (HV.out k (by omega)).next HB.out
      have x0 := (HB.out.cell (p := ⟨g, k, none⟩) hg).trans (HC.out k (by omega))
      rw [hvk] at x0
      have hln : (accQ ls (k + 1)).length ≤ 100000 := HLn.out (k + 1) (by omega)
      have hacc : (accQ ls (k + 1)).length = L + (ls k).length := by rw [hLe]; exact List.length_append
      have hw1 : IntKind.i64.wrap ((L : Int) + ((ls k).length : Int)) = (L : Int) + ((ls k).length : Int) := IntWalk.i64_in _ (by omega)
      have hn1 : ¬ ((L : Int) + ((ls k).length : Int) < 0) := by omega
      have hgw : g < wr.heap.size := Nat.lt_of_lt_of_le hg HB.out.size
      have HJ := Lib.hid hk
      have HAc := Lib.hid hacc
      clear hk hacc hvk hrow hnil hLe
      go_wp2
      go_roundg gg
      case measure => omega
      case rel => exact ⟨k + 1, L + (ls k).length, by have := HJ.out; omega, HAc.out.symm, by go_num, by go_num, HB⟩

end Go.Proofs.YtomcmjnhfloeeaaDoor

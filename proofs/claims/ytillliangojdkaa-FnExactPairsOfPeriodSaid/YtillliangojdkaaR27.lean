/-
  Contracts: the pairs of a period, as the program gathers and sorts them.
-/
import Derived.Test.YtillliangojdkaaR26
import Derived.Test.YtillliangojdkaaR11
import Derived.Test.YtillliangojdkaaR15
namespace Go.Proofs.Ytillliangojdkaa
open Go.RowKit

/-- A row that turns elsewhere is as it was. -/
theorem ownTurn {w w1 : World} {row : Option Nat} {lo : Nat} {e : TypeId} {k : Nat} {v : Value} {n : Nat} {xs : List Value} (h : w.ownsRow lo e k v n xs) (hg : w.grownBy w1 row) (hr : ∀ j, row = some j → j < lo) : w1.ownsRow lo e k v n xs := by
  obtain ⟨hx, h2⟩ := h
  rcases h2 with h3 | ⟨g, cap, cur, e1, hlo, hc, hrest⟩
  · exact ⟨hx, .inl h3⟩
  · have hlt : g < w.heap.size := (Array.getElem?_eq_some_iff.1 hc).1
    exact ⟨hx, .inr ⟨g, cap, cur, e1, hlo, (hg.block g hlt (fun e2 => by have := hr g e2.symm; omega)).trans hc, hrest⟩⟩
theorem own_block {w : World} {lo : Nat} {e : TypeId} {k : Nat} {v : Value} {n : Nat} {xs : List Value} (h : w.ownsRow lo e k v n xs) : ∀ j, v.ownBlock = some j → lo ≤ j := by
  intro j e1
  rcases h.2 with ⟨hv, _⟩ | ⟨g0, c0, cur, hv, hlo, _⟩
  · rw [hv] at e1; simp [Value.ownBlock] at e1
  · rw [hv] at e1; simp [Value.ownBlock] at e1; omega
theorem ownMono {w : World} {lo lo' : Nat} {e : TypeId} {k : Nat} {v : Value} {n : Nat} {xs : List Value} (h : w.ownsRow lo e k v n xs) (hl : lo' ≤ lo) : w.ownsRow lo' e k v n xs := by
  obtain ⟨hx, h2⟩ := h
  rcases h2 with h3 | ⟨g, cap, cur, e1, hlo, hrest⟩
  · exact ⟨hx, .inl h3⟩
  · exact ⟨hx, .inr ⟨g, cap, cur, e1, Nat.le_trans hl hlo, hrest⟩⟩
theorem own_none {w : World} {lo : Nat} {e : TypeId} {k : Nat} : w.ownsRow lo e k (.slice none 0 0) 0 [] := ⟨by simp, .inl ⟨rfl, rfl⟩⟩
theorem per_told {l : List (Lf4 × Nat)} (hok : allP l) (hs : ∀ x ∈ l, ∀ y ∈ l, y.1 = x.1 → y.2 = x.2) {x : Lf4 × Nat} (hx : x ∈ l) {c : Int} (h : ∀ zd, (pD l).atKey (kp x.1) zd = .lit (.int .i64 c)) : c = (x.2 : Int) := by
  obtain ⟨y, hy, e1, e2⟩ := pD_at hok hx (.map [])
  rw [h] at e2
  simp only [DataW.lit.injEq, Lit.int.injEq, true_and] at e2
  rw [e2, hs x hx y hy e1]

set_option maxRecDepth 100000 in
set_option maxHeartbeats 1000000 in
theorem implPairsOf (m : Nat) (w : World) (h6 : m ≤ 6) :
    Calls Try.prog 64 #[.int .i64 ((m + 2 : Nat) : Int)] w fun e w' => ∃ A cap, e = .returned (.slice A (newP m).length cap) ∧ w'.ownsRow w.heap.size 49 4 (.slice A (newP m).length cap) (newP m).length (flatP (newP m)) ∧ Below w.heap.size w w' := by
  have HU := Lib.hid (fun w => implUpTo (m + 2) w (by omega) (by omega))
  rw [show m + 2 - 1 = m + 1 by omega] at HU
  have HOk := Lib.hid (upK_ok (m + 1) (by omega))
  have HSame := Lib.hid (fun (x : Lf4 × Nat) (hx : x ∈ upK (m + 1)) (y : Lf4 × Nat) (hy : y ∈ upK (m + 1)) (e : y.1 = x.1) => upK_same (m := m + 1) (by omega) hx hy e)
  have HFil := Lib.hid (upK_filter h6)
  have HNd := Lib.hid (upK_nd (m + 1) (by omega))
  have HLow : Hid (∀ p ∈ newP m, ∀ q ∈ newP m, (p.1, p.2.1) = (q.1, q.2.1) → p = q) := Lib.hid (fun p hp q hq => upK_low (m := m + 1) (by omega) p (newP_sub hp) q (newP_sub hq))
  have HOkN : Hid (∀ p ∈ newP m, okP p = true) := Lib.hid (fun p hp => mapOk (m := m + 1) (by omega) p (newP_sub hp))
  have HSrt := Lib.hid (newP_sorted h6)
  have hll := upK_len (m + 1) (by omega)
  generalize upK (m + 1) = l at *
  generalize newP m = K at *
  obtain ⟨i0, hi, hz0, hz1, hz2⟩ := info_parts infoP
  have hN : 0 ≤ ((m + 2 : Nat) : Int) ∧ ((m + 2 : Nat) : Int) ≤ 8 := by omega
  have HN : Hid (∀ k : Nat, ((k : Int) == ((m + 2 : Nat) : Int)) = (k == m + 2)) := Lib.hid (fun k => by rw [Bool.eq_iff_iff]; simp only [beq_iff_eq]; omega)
  generalize hNN : m + 2 = N at *
  have hl2 : l.length ≤ 2000 := by omega
  clear hll hNN
  obtain ⟨I, hI⟩ : ∃ I : Int, (N : Int) = I := ⟨_, rfl⟩
  rw [hI] at HU HN hN
  rw [hI]
  clear hI
  go_enter Try.func64, Try.ntmps64
  go_wp2_with fail
  refine (HU.out _).mono ?_
  rintro e w2 ⟨rfl, hm2, hb2⟩
  have HM2 := Lib.hid hm2
  have HB2 := Lib.hid hb2
  clear hm2 hb2
  go_wp2_with (at_range; refine wpList_range_own _ rfl _ 80 rfl 49 2 rpLaw Try.underlying80 _ w.heap.size l.length _ rfl HM2.out ?_; intro w0 hrg0 hg0 hs0)
  go_frame
  have hrz : w.heap.size < w2.heap.size := by
    have := HM2.out.lt
    exact this
  have HRG := Lib.hid hrg0
  have HB0 : Hid (Below w.heap.size w w0) := Lib.hid (HB2.out.grown hg0 HB2.out.size (fun j hj => by cases hj))
  have z0 : w2.heap.size < w0.heap.size := by omega
  clear hrg0 hg0 hs0 HM2 HB2
  generalize w2.heap.size = r at *
  go_loopg [3] (Maps.size (pD l)) (fun g s3 wr => ∃ (left : Lit → Bool) (acc : List Lf4) (A : Option Addr) (cap : Nat), s3 = .slice A acc.length cap ∧ Hid (wr.ranges Try.prog 49 (plainElem Try.prog 2) w.heap.size r l.length (pD l) left g) ∧ Hid (Gath l (fun y => y.2 == N) left acc) ∧ Hid (wr.ownsRow (r + 1) 49 4 s3 acc.length (flatP acc)) ∧ Hid (Below w.heap.size w wr) ∧ r < wr.heap.size)
  case atStart => exact ⟨_, [], none, 0, rfl, HRG, Lib.hid (Gath.start fun y hy => pD_has.2 ⟨y, hy, rfl⟩), Lib.hid own_none, HB0, z0⟩
  case round =>
    clear HRG HB0 z0
    obtain ⟨left, acc, A, cap, rfl, HRG, HG, HO, HB, zr⟩ := hrel
    have hrg := HRG.out
    have hal : acc.length ≤ 2000 := Nat.le_trans HG.out.len hl2
    go_wp2_with (first
      | (at_next; refine wpList_next_pairs _ rfl _ rfl w.heap.size r l.length l HOk.out left _ rfl hrg ?_ ?_; intro hl0; rotate_left; intro x c5 w5 cnt5 hx hlx hat hrg5 hlt5 hg5 hs5 hen; obtain rfl := per_told HOk.out HSame.out hx hat; have Q := HN.out x.2; obtain ⟨t, ht⟩ : ∃ t, (x.2 == N) = t := ⟨_, rfl⟩; rw [ht] at Q; have HX5 := Lib.hid (And.intro hx (And.intro hlx (And.intro hrg5 (And.intro hlt5 ht)))); have HO5 := Lib.hid (ownTurn HO.out hg5 (fun j hj => by have := Option.some.inj hj; omega)); have HB5 := Lib.hid (HB.out.grown hg5 HB.out.size (fun j hj => by have := Option.some.inj hj; omega)); have z5 : r < w5.heap.size := (by omega); clear hx hlx hat hrg5 hlt5 hg5 hs5 ht; cases t)
      | (at_builtin; refine wpList_append_own_at _ rfl _ _ 35 rfl (r + 1) 49 i0 (.agg #[.int .i64 0, .int .i64 0, .int .i64 0, .int .i64 0]) 4 32 Try.underlying35 hi hz0 hz1 hz2 rfl (by decide) _ _ _ rfl ((World.ownsRow.alloc HO5.out _).alloc _) ⟨w5.heap.size + 1, 0, none⟩ 1 1 [.int .i64 x.1.1, .int .i64 x.1.2.1, .int .i64 x.1.2.2.1, .int .i64 x.1.2.2.2] rfl rfl ?c1 ?c2 ?c3 ?c4 ?c5 ?_))
    · go_roundg cnt5
      case measure => exact HX5.out.2.2.2.1
      case rel => exact ⟨fun z => left z && !z.sameKey (kp x.1), acc, A, cap, rfl, Lib.hid (HX5.out.2.2.1.alloc _), Lib.hid (HG.out.no HOk.out HX5.out.1 (fun y hy e => by rw [HSame.out x HX5.out.1 y hy e]; exact HX5.out.2.2.2.2)), Lib.hid (World.ownsRow.alloc HO5.out _), Lib.hid (belowAlloc HB5.out _), by simp; omega⟩
    case c1 => have e := cell_four_newP (w5.alloc (.cells #[.int .i64 x.1.1, .int .i64 x.1.2.1, .int .i64 x.1.2.2.1, .int .i64 x.1.2.2.2] 49)) (.int .i64 x.1.1) (.int .i64 x.1.2.1) (.int .i64 x.1.2.2.1) (.int .i64 x.1.2.2.2) 49; rw [World.size_alloc] at e; exact e
    case c2 => intro u hu; simp at hu; rcases hu with rfl | rfl | rfl | rfl <;> rfl
    case c3 => unfold maxLen; omega
    case c4 => omega
    case c5 => simp; omega
    · intro v' w11 hown' hgrow _ _
      obtain ⟨gn, capn, rfl⟩ := ownsRow_succ hown'
      have hB11 : Below w.heap.size w w11 := (belowAlloc (belowAlloc HB5.out _) _).grown hgrow (belowAlloc (belowAlloc HB5.out _) _).size (fun j hj => by have := own_block HO5.out j hj; omega)
      have HR11 := Lib.hid (((HX5.out.2.2.1.alloc (.cells #[.int .i64 x.1.1, .int .i64 x.1.2.1, .int .i64 x.1.2.2.1, .int .i64 x.1.2.2.2] 49)).alloc (.cells #[.int .i64 x.1.1, .int .i64 x.1.2.1, .int .i64 x.1.2.2.1, .int .i64 x.1.2.2.2] 49)).kept hgrow (fun e => by have := own_block HO5.out _ e.symm; omega) (fun e => by have := own_block HO5.out _ e.symm; omega))
      have HO11 := Lib.hid hown'
      have z11 : r < w11.heap.size := by have := hgrow.size; simp at this; omega
      have HB11 := Lib.hid hB11
      clear hown' hgrow hB11
      go_wp2
      go_roundg cnt5
      case measure => exact HX5.out.2.2.2.1
      case rel => exact ⟨fun z => left z && !z.sameKey (kp x.1), acc ++ [x.1], _, _, by rw [List.length_append]; rfl, HR11, Lib.hid (HG.out.yes HOk.out HX5.out.1 HX5.out.2.1 HX5.out.2.2.2.2), Lib.hid (by rw [flatP_app, List.length_append]; exact HO11.out), HB11, z11⟩
    · have hpm : acc.Perm K := by rw [← HFil.out]; exact HG.out.done hl0 HNd.out
      refine (implSortP w.heap.size A acc.length cap acc wr (ownMono HO.out (by omega)) rfl (HG.out.ok HOk.out) (by omega)).mono ?_
      rintro e w9 ⟨rfl, H⟩
      obtain ⟨l', hp, hs, ho, hb⟩ := H.out
      obtain rfl : l' = K := sort_unique HOkN.out HLow.out hs HSrt.out (hp.trans hpm)
      have HO9 := Lib.hid ho
      have HB9 := Lib.hid (HB.out.trans hb)
      have hlen := hpm.length_eq
      rw [hlen] at HO9 ⊢
      clear H ho hb hp hs hpm
      go_wp2
      go_ret
      exact ⟨A, cap, rfl, HO9.out, HB9.out⟩
end Go.Proofs.Ytillliangojdkaa

/-
  Contracts: the satellites among the pairs of a period, counted on both sides; the law's walk.
-/
import Derived.Test.YtnciiodgkanpjaaRA
import Derived.Test.YtnciiodgkanpjaaRX
namespace Go.Proofs.Ytnciiodgkanpjaa
open Go.RowKit

def satP (p : Lf4) : Bool := hasA (oL p.1 p.2.1) p.2.2.1 p.2.2.2
/-- The satellites among the first k pairs. -/
def cntS (l : List Lf4) (k : Nat) : Nat := (l.take k).countP satP
theorem cntS_zero (l : List Lf4) : cntS l 0 = 0 := rfl
theorem cntS_next {l : List Lf4} {k : Nat} {p : Lf4} {t : Bool} (h : l[k]? = some p) (ht : satP p = t) : cntS l (k + 1) = cntS l k + (if t then 1 else 0) := by
  unfold cntS
  rw [List.take_add_one, List.countP_append, h, ← ht]
  simp [List.countP_cons]
theorem newP_facts {m : Nat} (h : m ≤ 6) {p : Lf4} (hp : p ∈ newP m) : isLf p.1 p.2.1 p.2.2.1 p.2.2.2 = true ∧ 2 ≤ shortP p.2.1 := by
  have h1 := upK_per (m + 1) (by omega) _ (newP_mem hp)
  have h2 := upK_ok (m + 1) (by omega) _ (newP_mem hp)
  dsimp only at h1 h2
  exact ⟨h2, by omega⟩
theorem row_pair {w W : World} {A : Option Addr} {l : List Lf4} (hr : LfRow w w.heap.size A l) (hB : Below w.heap.size w W) {k : Nat} (hk : k < l.length) :
    ∃ g off p1 p2 p3 p4, A = some ⟨g, off, none⟩ ∧ l[k]? = some (p1, p2, p3, p4) ∧ W.cell? ⟨g, off + k * 4, none⟩ = some (.int .i64 p1) ∧ W.cell? ⟨g, off + k * 4 + 1, none⟩ = some (.int .i64 p2) ∧ W.cell? ⟨g, off + k * 4 + 2, none⟩ = some (.int .i64 p3) ∧ W.cell? ⟨g, off + k * 4 + 3, none⟩ = some (.int .i64 p4) ∧ g < W.heap.size := by
  obtain ⟨⟨p1, p2, p3, p4⟩, hq⟩ : ∃ q, l[k]? = some q := ⟨_, List.getElem?_eq_getElem hk⟩
  have hne : l ≠ [] := by intro h; rw [h] at hk; simp at hk
  obtain ⟨g, off, rfl, hg, hc⟩ := hr hne
  obtain ⟨x0, x1, x2, x3⟩ := hc k p1 p2 p3 p4 hq
  exact ⟨g, off, p1, p2, p3, p4, rfl, hq, (hB.cell (p := ⟨g, off + k * 4, none⟩) hg).trans x0, (hB.cell (p := ⟨g, off + k * 4 + 1, none⟩) hg).trans x1, (hB.cell (p := ⟨g, off + k * 4 + 2, none⟩) hg).trans x2, (hB.cell (p := ⟨g, off + k * 4 + 3, none⟩) hg).trans x3, Nat.lt_of_lt_of_le hg hB.size⟩
def csN (n : Int) : Nat := (popL n).countP satP
theorem csN_yes {m : Nat} (h : m ≤ 6) : csN ((m + 2 : Nat) : Int) = cntS (newP m) (newP m).length := by
  unfold csN cntS
  rw [(pop_yes h).1, List.take_length]

set_option maxHeartbeats 1000000 in
theorem implCount (n : Int) (w : World) :
    Calls Try.prog 42 #[.int .i64 n] w fun e w' => e = .returned (.tuple #[.int .i64 (csN n : Int), .int .i64 (popC n)]) ∧ Below w.heap.size w w' := by
  by_cases h : 2 ≤ n ∧ n ≤ 8
  · obtain ⟨m, rfl⟩ : ∃ m : Nat, n = ((m + 2 : Nat) : Int) := ⟨n.toNat - 2, by omega⟩
    have hm : m ≤ 6 := by omega
    rw [csN_yes hm, (pop_yes hm).2]
    have HA := Lib.hid (fun w => implPairsOf m w hm)
    have t : (decide ((2 : Int) ≤ ((m + 2 : Nat) : Int)) && decide (((m + 2 : Nat) : Int) ≤ 8)) = true := by simp; omega
    have HPP := Lib.hid (fun w => implIsPP ((m + 2 : Nat) : Int) w)
    rw [t] at HPP
    have hll := newP_len hm
    generalize newP m = K at *
    generalize ((m + 2 : Nat) : Int) = N at *
    obtain ⟨len, hlen⟩ : ∃ len, K.length = len := ⟨_, rfl⟩
    rw [hlen] at HA hll ⊢
    have HL := Lib.hid hlen
    obtain ⟨C, hC⟩ : ∃ C, cntS K len = C := ⟨_, rfl⟩
    rw [hC]
    have HC := Lib.hid hC
    clear t hlen hC h
    go_enter Try.func42, Try.ntmps42
    go_wp2_with fail
    refine (HPP.out _).mono ?_
    rintro e w1 ⟨rfl, rfl⟩
    go_wp2_with fail
    refine (HA.out _).mono ?_
    rintro e w2 ⟨A, cap, rfl, ho, hb2⟩
    have HR := Lib.hid (ownP_of HL.out ho).row
    have HB2 := Lib.hid hb2
    clear ho hb2
    go_wp2_with fail
    go_loopg [4, 13] len (fun g s4 s13 wr => ∃ k c : Nat, k + g = len ∧ s13 = .int .i64 k ∧ s4 = .int .i64 c ∧ c ≤ k ∧ Hid (cntS K k = c) ∧ Hid (Below w2.heap.size w2 wr))
    case atStart => exact ⟨0, 0, by omega, rfl, rfl, Nat.le_refl _, Lib.hid rfl, Lib.hid (Below.refl _ _)⟩
    case round =>
      obtain ⟨k, c, hkg, rfl, rfl, hck, HN, HB⟩ := hrel
      cases gk with
      | zero =>
        obtain rfl : k = len := by omega
        obtain rfl : c = C := HN.out.symm.trans HC.out
        have hB := belowNext HB2.out HB.out
        go_wp2
        go_ret2
        exact ⟨rfl, hB⟩
      | succ g =>
        have hlt : k < len := by omega
        obtain ⟨g0, off, p1, p2, p3, p4, rfl, hq, x0, x1, x2, x3, hg0⟩ := row_pair HR.out HB.out (k := k) (by have := HL.out; omega)
        have HS := Lib.hid (fun w => implSat p1 p2 p3 p4 w)
        obtain ⟨t, ht⟩ : ∃ t, hasA (oL p1 p2) p3 p4 = t := ⟨_, rfl⟩
        rw [ht] at HS
        have HN2 := Lib.hid (cntS_next hq (t := t) ht)
        clear hq ht
        cases t
        all_goals
          go_wp2_with fail
          refine (HS.out _).mono ?_
          rintro e w5 ⟨rfl, hb5⟩
          have HB5 := Lib.hid (HB.out.trans ((belowAlloc (Below.refl _ _) _ |> fun b => belowNext b hb5).mono HB.out.size))
          clear hb5 x0 x1 x2 x3
          go_wp2
          go_roundg g
          case measure => omega
        case rel => exact ⟨k + 1, c, by omega, by go_num, rfl, by omega, Lib.hid (by rw [HN2.out, HN.out]; rfl), HB5⟩
        case rel => exact ⟨k + 1, c + 1, by omega, by go_num, by go_num, by omega, Lib.hid (by rw [HN2.out, HN.out]; rfl), HB5⟩
  · have e1 : csN n = 0 := by unfold csN; rw [(pop_no h).1]; rfl
    rw [e1, (pop_no h).2]
    have t : (decide ((2 : Int) ≤ n) && decide (n ≤ 8)) = false := by simp; omega
    have HPP := Lib.hid (fun w => implIsPP n w)
    rw [t] at HPP
    clear t e1
    go_enter Try.func42, Try.ntmps42
    go_wp2_with fail
    refine (HPP.out _).mono ?_
    rintro e w1 ⟨rfl, rfl⟩
    go_wp2
    go_ret2
    refine ⟨rfl, ?_⟩
    (repeat' (first | (with_reducible exact Below.refl _ _) | (with_reducible assumption) | (with_reducible refine belowNext ?_ (by with_reducible assumption)) | (with_reducible refine belowAlloc ?_ _) | (with_reducible refine Below.drew ?_) | (with_reducible refine below_drewN ?_ _) | (with_reducible refine Below.setCell ?_ ?_ _) | go_size | (with_reducible refine sizeOf' ?_) | (with_reducible refine sizeAdd ?_) | (dsimp only; first | (with_reducible refine sizeOf' ?_) | (with_reducible refine sizeAdd ?_))))

set_option maxHeartbeats 1000000 in
theorem specCount (n : Int) (w : World) :
    Calls Try.prog 43 #[.int .i64 n] w fun e w' => e = .returned (.tuple #[.int .i64 (csN n : Int), .int .i64 (popC n)]) ∧ Below w.heap.size w w' := by
  have HP := Lib.hid (fun w => specPairsOfN n w)
  by_cases h : 2 ≤ n ∧ n ≤ 8
  · obtain ⟨m, rfl⟩ : ∃ m : Nat, n = ((m + 2 : Nat) : Int) := ⟨n.toNat - 2, by omega⟩
    have hm : m ≤ 6 := by omega
    rw [csN_yes hm]
    rw [(pop_yes hm).2] at HP ⊢
    rw [(pop_yes hm).1] at HP
    have hll := newP_len hm
    have HF := Lib.hid (fun (p : Lf4) (hp : p ∈ newP m) => newP_facts hm hp)
    generalize newP m = K at *
    generalize ((m + 2 : Nat) : Int) = N at *
    obtain ⟨len, hlen⟩ : ∃ len, K.length = len := ⟨_, rfl⟩
    rw [hlen] at hll ⊢
    have HL := Lib.hid hlen
    obtain ⟨C, hC⟩ : ∃ C, cntS K len = C := ⟨_, rfl⟩
    rw [hC]
    have HC := Lib.hid hC
    clear hlen hC h
    go_enter Try.func43, Try.ntmps43
    go_wp2_with fail
    refine (HP.out _).mono ?_
    rintro e w2 ⟨A, cap, rfl, ho, hb2⟩
    rw [HL.out]
    have HR := Lib.hid ho.row
    have HB2 := Lib.hid hb2
    clear ho hb2
    go_wp2_with fail
    go_loopg [6, 7] len (fun g s6 s7 wr => ∃ k c : Nat, k + g = len ∧ s7 = .int .i64 k ∧ s6 = .int .i64 c ∧ c ≤ k ∧ Hid (cntS K k = c) ∧ Hid (Below w2.heap.size w2 wr))
    case atStart => exact ⟨0, 0, by omega, rfl, rfl, Nat.le_refl _, Lib.hid rfl, Lib.hid (Below.refl _ _)⟩
    case round =>
      obtain ⟨k, c, hkg, rfl, rfl, hck, HN, HB⟩ := hrel
      cases gk with
      | zero =>
        obtain rfl : k = len := by omega
        obtain rfl : c = C := HN.out.symm.trans HC.out
        have hB := belowNext HB2.out HB.out
        go_wp2
        go_ret2
        exact ⟨rfl, hB⟩
      | succ g =>
        have hlt : k < len := by omega
        obtain ⟨g0, off, p1, p2, p3, p4, rfl, hq, x0, x1, x2, x3, hg0⟩ := row_pair HR.out HB.out (k := k) (by have := HL.out; omega)
        obtain ⟨f1, f2⟩ := HF.out _ (List.mem_of_getElem? hq)
        have HS := Lib.hid (fun w => specSat p1 p2 p3 p4 w f1 f2)
        obtain ⟨t, ht⟩ : ∃ t, hasA (oL p1 p2) p3 p4 = t := ⟨_, rfl⟩
        rw [ht] at HS
        have HN2 := Lib.hid (cntS_next hq (t := t) ht)
        clear hq ht f1 f2
        cases t
        all_goals
          go_wp2_with fail
          refine (HS.out _).mono ?_
          rintro e w5 ⟨rfl, hb5⟩
          have HB5 := Lib.hid (HB.out.trans (hb5.mono HB.out.size))
          clear hb5 x0 x1 x2 x3
          go_wp2
          go_roundg g
          case measure => omega
        case rel => exact ⟨k + 1, c, by omega, by go_num, rfl, by omega, Lib.hid (by rw [HN2.out, HN.out]; rfl), HB5⟩
        case rel => exact ⟨k + 1, c + 1, by omega, by go_num, by go_num, by omega, Lib.hid (by rw [HN2.out, HN.out]; rfl), HB5⟩
  · have e1 : csN n = 0 := by unfold csN; rw [(pop_no h).1]; rfl
    rw [e1]
    rw [(pop_no h).1, (pop_no h).2] at HP
    rw [(pop_no h).2]
    clear e1
    go_enter Try.func43, Try.ntmps43
    go_wp2_with fail
    refine (HP.out _).mono ?_
    rintro e w2 ⟨A, cap, rfl, ho, hb2⟩
    go_wp2
    go_ret2
    refine ⟨rfl, ?_⟩
    (repeat' (first | (with_reducible exact Below.refl _ _) | (with_reducible assumption) | (with_reducible refine belowNext ?_ (by with_reducible assumption)) | (with_reducible refine belowAlloc ?_ _) | (with_reducible refine Below.drew ?_) | (with_reducible refine below_drewN ?_ _) | (with_reducible refine Below.setCell ?_ ?_ _) | go_size | (with_reducible refine sizeOf' ?_) | (with_reducible refine sizeAdd ?_) | (dsimp only; first | (with_reducible refine sizeOf' ?_) | (with_reducible refine sizeAdd ?_))))

end Go.Proofs.Ytnciiodgkanpjaa

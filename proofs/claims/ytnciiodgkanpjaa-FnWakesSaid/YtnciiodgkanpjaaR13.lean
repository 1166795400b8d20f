/-
  Contracts: the ray pairs of a period, as the model joins them.
-/
import Derived.Test.YtnciiodgkanpjaaRG
import Derived.Test.YtnciiodgkanpjaaRE
import Derived.Test.YtnciiodgkanpjaaR1
import Derived.Test.YtnciiodgkanpjaaV9
import Derived.Deep.LoopGhost
import Derived.Deep.AppendLies
import Derived.Maps.AppendAt
namespace Go.Proofs.Ytnciiodgkanpjaa
open Go.RowKit

/-- The cells of a list of pairs. -/
def flatP : List Lf4 → List Value
  | [] => []
  | p :: l => .int .i64 p.1 :: .int .i64 p.2.1 :: .int .i64 p.2.2.1 :: .int .i64 p.2.2.2 :: flatP l
theorem flatP_app : ∀ (l m : List Lf4), flatP (l ++ m) = flatP l ++ flatP m
  | [], m => rfl
  | p :: l, m => by simp [flatP, flatP_app l m]
theorem flatP_len : ∀ l : List Lf4, (flatP l).length = l.length * 4
  | [] => rfl
  | p :: l => by simp [flatP, flatP_len l]; omega
theorem flatP_at : ∀ {l : List Lf4} {i : Nat} {a b c d : Int}, l[i]? = some (a, b, c, d) → (flatP l)[i * 4]? = some (.int .i64 a) ∧ (flatP l)[i * 4 + 1]? = some (.int .i64 b) ∧ (flatP l)[i * 4 + 2]? = some (.int .i64 c) ∧ (flatP l)[i * 4 + 3]? = some (.int .i64 d)
  | [], i, a, b, c, d, h => by simp at h
  | p :: l, 0, a, b, c, d, h => by simp at h; subst h; simp [flatP]
  | p :: l, i + 1, a, b, c, d, h => by
    simp at h
    obtain ⟨h1, h2, h3, h4⟩ := flatP_at h
    have e1 : (i + 1) * 4 = i * 4 + 1 + 1 + 1 + 1 := by omega
    rw [e1]
    simp only [flatP, List.getElem?_cons_succ]
    exact ⟨h1, h2, h3, h4⟩
theorem rowP_of {w : World} {lo : Nat} {l : List Lf4} {A : Option Addr} {len cap : Nat} (hl : l.length = len) (h : w.ownsRow lo 52 4 (.slice A len cap) len (flatP l)) : LfRow w w.heap.size A l := by
  intro hne
  have hk : 0 < len := by
    rcases Nat.eq_zero_or_pos len with h0 | h0
    · rw [h0] at hl; exact absurd (List.eq_nil_of_length_eq_zero hl) hne
    · exact h0
  obtain ⟨g, c, hv, hlo, hg⟩ := h.form hk
  obtain ⟨rfl, rfl⟩ : A = some ⟨g, 0, none⟩ ∧ cap = c := by injection hv with hA hn hc; exact ⟨hA, hc⟩
  refine ⟨g, 0, rfl, hg, fun i a b c' d hi => ?_⟩
  have hik : i < len := by
    rcases Nat.lt_or_ge i l.length with h1 | h1
    · omega
    · rw [List.getElem?_eq_none h1] at hi; cases hi
  obtain ⟨f1, f2, f3, f4⟩ := flatP_at hi
  rw [show 0 + i * 4 = i * 4 by omega]
  exact ⟨(h.cellAt _ (by omega)).trans f1, (h.cellAt _ (by omega)).trans f2, (h.cellAt _ (by omega)).trans f3, (h.cellAt _ (by omega)).trans f4⟩
theorem infoP : (Try.prog.info? 52).map (fun i => (i.zero, i.size, i.bytes)) = some (some (.agg #[.int .i64 0, .int .i64 0, .int .i64 0, .int .i64 0]), 4, 32) := by kernel_rfl
theorem infoBR : (Try.prog.info? 4).map (fun i => (i.zero, i.size, i.bytes)) = some (some (.bool false), 1, 1) := by kernel_rfl

set_option maxHeartbeats 1000000 in
theorem specFree (a b c d : Int) (A : Option Addr) (len cap : Nat) (l : List (Lf4 × Nat)) (w : World) (hp : okP (a, b, c, d) = true) (hok : allP l) (hr : LfRow w w.heap.size A (l.map (·.1))) (hl : l.length = len) (hm : len ≤ 1000000000000) :
    Calls Try.prog 106 #[leafV a b c d, .slice A len cap] w fun e w' => e = .returned (.bool (!crossAny (a, b, c, d) l)) ∧ Below w.heap.size w w' := by
  have HR := Lib.hid hr
  have HL := Lib.hid hl
  have HO := Lib.hid hok
  have HP := Lib.hid hp
  obtain ⟨R, hR⟩ : ∃ R, crossAny (a, b, c, d) l = R := ⟨_, rfl⟩
  rw [hR]
  have HX := Lib.hid hR
  clear hr hl hok hp hR
  go_enter Try.func106, Try.ntmps106
  go_wp2
  have cc : ∀ i v, (w.alloc (.cells #[.int .i64 a, .int .i64 b, .int .i64 c, .int .i64 d] 52)).cell? ⟨w.heap.size, i, none⟩ = v → (w.alloc (.cells #[.int .i64 a, .int .i64 b, .int .i64 c, .int .i64 d] 52)).cell? ⟨w.heap.size, i, none⟩ = v := fun _ _ h => h
  clear cc
  go_loopg [5] len (fun g s5 wr => ∃ k : Nat, k + g = len ∧ s5 = .int .i64 k ∧ Hid (∀ j, j < k → ∀ q, l[j]? = some q → crossP (a, b, c, d) q.1 = false) ∧ Hid (Below w.heap.size w wr) ∧ w.heap.size < wr.heap.size ∧ Hid (Cells4 wr w.heap.size 0 a b c d))
  case atStart => exact ⟨0, by omega, rfl, Lib.hid (fun j hj => absurd hj (by omega)), Lib.hid (belowAlloc (Below.refl _ _) _), by simp, Lib.hid ⟨by simp [go_sem], by simp [go_sem], by simp [go_sem], by simp [go_sem]⟩⟩
  case round =>
    obtain ⟨k, hkg, rfl, HN, HB, hz, HC⟩ := hrel
    cases gk with
    | zero =>
      obtain rfl : k = len := by omega
      have E : Hid (R = false) := Lib.hid (by
        rw [← HX.out]
        refine crossAny_none (fun q hq => ?_)
        obtain ⟨j, hj, rfl⟩ := List.getElem_of_mem hq
        exact HN.out j (by have := HL.out; omega) _ (List.getElem?_eq_getElem hj))
      go_wp2
      go_ret
      exact ⟨by rw [E.out]; rfl, HB.out⟩
    | succ g =>
      have hlt : k < len := by omega
      have hkl : k < l.length := by have := HL.out; omega
      obtain ⟨⟨⟨p1, p2, p3, p4⟩, per⟩, hq⟩ : ∃ q, l[k]? = some q := ⟨_, List.getElem?_eq_getElem hkl⟩
      have hne : l.map (·.1) ≠ [] := by intro h; rw [List.map_eq_nil_iff] at h; rw [h] at hkl; simp at hkl
      obtain ⟨g0, off, rfl, hgb, hcells⟩ := HR.out hne
      obtain ⟨x0, x1, x2, x3⟩ := hcells k p1 p2 p3 p4 (by rw [List.getElem?_map, hq]; rfl)
      have x0 := (HB.out.cell (p := ⟨g0, off + k * 4, none⟩) hgb).trans x0
      have x1 := (HB.out.cell (p := ⟨g0, off + k * 4 + 1, none⟩) hgb).trans x1
      have x2 := (HB.out.cell (p := ⟨g0, off + k * 4 + 2, none⟩) hgb).trans x2
      have x3 := (HB.out.cell (p := ⟨g0, off + k * 4 + 3, none⟩) hgb).trans x3
      obtain ⟨c0, c1, c2, c3⟩ := HC.out
      have HQ := Lib.hid hq
      have HS := Lib.hid (fun w => specCrossP a b c d p1 p2 p3 p4 w HP.out (HO.out _ (List.mem_of_getElem? hq)))
      obtain ⟨t, ht⟩ : ∃ t, crossB a b c d p1 p2 p3 p4 = t := ⟨_, rfl⟩
      rw [ht] at HS
      have HT : Hid (crossP (a, b, c, d) (p1, p2, p3, p4) = t) := Lib.hid ht
      clear hcells hne hq ht
      have HC' : Hid (Cells4 wr.drew w.heap.size 0 a b c d) := Lib.hid ⟨HC.out.c0, HC.out.c1, HC.out.c2, HC.out.c3⟩
      have hz' : w.heap.size < wr.drew.heap.size := hz
      cases t
      · go_wp2_with fail
        go_region_with (first | (go_at_call 112; (with_reducible refine (HS.out _).mono ?_); rintro e w1 ⟨rfl, hb1⟩))
        all_goals
          have hB1 : Below w.heap.size w w1 := belowNext HB.out.drew hb1
          have hC1 : Cells4 w1 w.heap.size 0 a b c d := HC'.out.next hb1 hz'
          have hz1 : w.heap.size < w1.heap.size := Nat.lt_of_lt_of_le hz hb1.size
          clear hb1 c0 c1 c2 c3 x0 x1 x2 x3
          go_wp2
          go_roundg g
          case measure => omega
          case rel =>
            refine ⟨k + 1, by omega, by go_num, Lib.hid (fun j hj q hq => ?_), Lib.hid hB1, hz1, Lib.hid hC1⟩
            by_cases hjk : j = k
            · subst hjk
              rw [HQ.out] at hq
              injection hq with hq
              rw [← hq]; exact HT.out
            · exact HN.out j (by omega) q hq
      · have E : Hid (R = true) := Lib.hid (by rw [← HX.out]; exact crossAny_mem (q := ((p1, p2, p3, p4), per)) (List.mem_of_getElem? HQ.out) HT.out)
        go_wp2_with fail
        go_region_with (first | (go_at_call 112; (with_reducible refine (HS.out _).mono ?_); rintro e w1 ⟨rfl, hb1⟩))
        all_goals
          have hB1 : Below w.heap.size w w1 := belowNext HB.out.drew hb1
          clear hb1 c0 c1 c2 c3 x0 x1 x2 x3
          go_wp2
          go_ret
          exact ⟨by rw [E.out]; rfl, hB1⟩
end Go.Proofs.Ytnciiodgkanpjaa

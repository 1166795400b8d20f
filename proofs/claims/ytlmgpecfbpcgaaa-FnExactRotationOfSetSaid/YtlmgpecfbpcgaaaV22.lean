/-
  Contracts: what is a lamination, on the program's side.
-/
import Derived.Test.YtlmgpecfbpcgaaaV21
namespace Go.Proofs.Ytlmgpecfbpcgaaa
open Go.RowKit

/-- No two leaves cross. -/
def NoCross (l : List Lf4) : Prop := ∀ (i k : Nat) (x y : Lf4), k < i → l[i]? = some x → l[k]? = some y → crossX x y = false
def Lam (l : List Lf4) : Prop := l.length ≤ 200 ∧ allLf l = true ∧ Asc l ∧ NoCross l
/-- The form of an answer yes or no that tells P. -/
def ResYes (w : World) (P : Prop) (e : Ending) (w' : World) : Prop := (∃ r : Bool, e = .returned (.bool r) ∧ Hid (r = true ↔ P)) ∧ Below w.heap.size w w'
theorem take_at {l : List Lf4} {i k : Nat} {y : Lf4} : (l.take i)[k]? = some y ↔ k < i ∧ l[k]? = some y := by
  by_cases h : k < i
  · rw [List.getElem?_take_of_lt h]; exact ⟨fun e => ⟨h, e⟩, fun e => e.2⟩
  · rw [List.getElem?_eq_none (by simp; omega)]; exact ⟨fun e => (by cases e), fun e => absurd e.1 h⟩
theorem LfRow.take {w : World} {B : Nat} {A : Option Addr} {l : List Lf4} (h : LfRow w B A l) (i : Nat) : LfRow w B A (l.take i) := by
  intro hn
  obtain ⟨b, off, e, hb, hc⟩ := h (fun h0 => hn (by rw [h0]; simp))
  exact ⟨b, off, e, hb, fun j n d m c hj => hc j n d m c (take_at.1 hj).2⟩
theorem allLf_take {l : List Lf4} (h : allLf l = true) (i : Nat) : allLf (l.take i) = true := by
  unfold allLf at *
  rw [List.all_eq_true] at *
  intro x hx
  exact h x (List.mem_of_mem_take hx)
theorem noCross_iff {l : List Lf4} : NoCross l ↔ ∀ (i : Nat) (x : Lf4), l[i]? = some x → ¬ CrossOne x (l.take i) := by
  constructor
  · intro h i x hx ⟨k, y, hk, hc⟩
    obtain ⟨h1, h2⟩ := take_at.1 hk
    rw [h i k x y h1 hx h2] at hc; cases hc
  · intro h i k x y hk hx hy
    cases hc : crossX x y
    · rfl
    · exact absurd ⟨k, y, take_at.2 ⟨hk, hy⟩, hc⟩ (h i x hx)

set_option maxHeartbeats 2000000 in
theorem implHC (A : Option Addr) (len cap : Nat) (l : List Lf4) (w : World) (hr : LfRow w w.heap.size A l) (hl : l.length = len) (hm : len ≤ 1000000000000) (hcap : len ≤ cap) (hA : allLf l = true) :
    Calls Try.prog 95 #[.slice A len cap] w (ResYes w (¬ NoCross l)) := by
  have HR := Lib.hid hr
  have HL := Lib.hid hl
  have HC : Hid (∀ (k : Nat) (n d' m c' : Int) (W : World) (cap' : Nat), k ≤ len → l[k]? = some (n, d', m, c') → Below w.heap.size w W → Calls Try.prog 106 #[leafV n d' m c', .slice A k cap'] W fun e w' => (∃ r : Bool, e = .returned (.bool r) ∧ Hid (r = true ↔ CrossOne (n, d', m, c') (l.take k))) ∧ Below W.heap.size W w') :=
    Lib.hid (fun k n d' m c' W cap' hk hx hB => crossOne A k cap' (l.take k) n d' m c' W (((hr.below hB).more hB.size).take k) (by rw [List.length_take]; omega) (by omega) (allLf_take hA k) (allLf_at hA hx))
  clear hr hl hA
  go_enter Try.func95, Try.ntmps95
  go_wp2
  go_loopw [7] (fun i wr => ∃ k : Nat, k ≤ len ∧ i = .int .i64 k ∧ Hid (∀ (j : Nat) (x : Lf4), j < k → l[j]? = some x → ¬ CrossOne x (l.take j)) ∧ Below w.heap.size w wr) (fun i _ => len - (intOf i).toNat)
  case atStart => exact ⟨0, by omega, rfl, Lib.hid (fun j y h => absurd h (by omega)), Below.refl _ _⟩
  case round =>
    obtain ⟨k, hk, rfl, HY, hbe⟩ := hrel
    by_cases hlt : k < len
    · obtain ⟨n, d', m, c', hx⟩ := lfAt (l := l) (k := k) (by have := HL.out; omega)
      have hne : l ≠ [] := by intro h; rw [h] at hx; simp at hx
      obtain ⟨b', off, rfl, hbb, hcells⟩ := row_at HR.out hne
      obtain ⟨x0, x1, x2, x3⟩ := (hcells k n d' m c' hx).next hbe hbb
      have hkc : k ≤ cap := by omega
      have HZ := Lib.hid (fun W cap' hB => HC.out k n d' m c' W cap' hk hx hB)
      have HX := Lib.hid hx
      clear hcells hne hx
      go_wp2_with fail
      go_region_with (first | (go_at_call 106; refine (HZ.out _ _ (by (repeat' (first | (with_reducible exact Below.refl _ _) | (with_reducible assumption) | (with_reducible refine belowNext ?_ (by with_reducible assumption)) | (with_reducible refine belowAlloc ?_ _) | (with_reducible refine Below.drew ?_) | (with_reducible refine below_drewN ?_ _) | (with_reducible refine Below.setCell ?_ ?_ _) | go_size | (with_reducible refine sizeOf' ?_) | (with_reducible refine sizeAdd ?_) | (dsimp only; first | (with_reducible refine sizeOf' ?_) | (with_reducible refine sizeAdd ?_)))))).mono ?_; rintro e w3 ⟨⟨r, rfl, HW⟩, hb3⟩))
      all_goals
        have B3 : Below w.heap.size w w3 := by
          (repeat' (first | (with_reducible exact Below.refl _ _) | (with_reducible assumption) | (with_reducible refine belowNext ?_ (by with_reducible assumption)) | (with_reducible refine belowAlloc ?_ _) | (with_reducible refine Below.drew ?_) | (with_reducible refine below_drewN ?_ _) | (with_reducible refine Below.setCell ?_ ?_ _) | go_size | (with_reducible refine sizeOf' ?_) | (with_reducible refine sizeAdd ?_) | (dsimp only; first | (with_reducible refine sizeOf' ?_) | (with_reducible refine sizeAdd ?_))))
        clear x0 x1 x2 x3 hb3 hbe
        cases r
        · go_wp2
          go_roundw
          case rel =>
            refine ⟨k + 1, by omega, by go_num, Lib.hid (fun j y hj hy => ?_), B3⟩
            by_cases hjk : j = k
            · subst hjk
              have p := HX.out
              rw [p] at hy
              injection hy with hy
              rw [← hy]
              exact fun h => by have := HW.out.2 h; cases this
            · exact HY.out j y (by omega) hy
          case measure => simp [intOf]; omega
        · have HN : Hid (¬ NoCross l) := Lib.hid (fun h => noCross_iff.1 h k _ HX.out (HW.out.1 rfl))
          go_wp2
          go_ret
          exact ⟨⟨true, rfl, Lib.hid ⟨fun _ => HN.out, fun _ => rfl⟩⟩, B3⟩
    · have HN : Hid (NoCross l) := Lib.hid (noCross_iff.2 (fun i x hx => HY.out i x (by
        rcases Nat.lt_or_ge i l.length with h1 | h1
        · have := HL.out; omega
        · rw [List.getElem?_eq_none h1] at hx; cases hx) hx))
      go_wp2
      go_ret
      exact ⟨⟨false, rfl, Lib.hid ⟨fun h => (by cases h), fun h => absurd HN.out h⟩⟩, hbe⟩

set_option maxHeartbeats 2000000 in
theorem implLam (A : Option Addr) (len cap : Nat) (l : List Lf4) (w : World) (hr : LfRow w w.heap.size A l) (hl : l.length = len) (hm : len ≤ 1000000000000) (hcap : len ≤ cap) :
    Calls Try.prog 54 #[.slice A len cap] w (ResYes w (Lam l)) := by
  by_cases h200 : 200 < len
  · have HN : Hid (¬ Lam l) := Lib.hid (fun h => by have := h.1; omega)
    have hI : ((200 : Int) < (len : Int)) := by omega
    clear hr hl hcap
    go_enter Try.func54, Try.ntmps54
    go_wp2
    go_ret
    exact ⟨⟨false, rfl, Lib.hid ⟨fun h => (by cases h), fun h => absurd h HN.out⟩⟩, Below.refl _ _⟩
  · have hI : ¬ ((200 : Int) < (len : Int)) := by omega
    have HS := Lib.hid (areLf A len cap l w hr hl (by omega))
    cases hA : allLf l
    · have HN : Hid (¬ Lam l) := Lib.hid (fun h => by have := h.2.1; rw [hA] at this; cases this)
      rw [hA] at HS
      clear hr hl hcap hA
      go_enter Try.func54, Try.ntmps54
      go_wp2_with fail
      refine HS.out.mono ?_
      rintro e w1 ⟨rfl, hb1⟩
      go_wp2
      go_ret
      refine ⟨⟨false, rfl, Lib.hid ⟨fun h => (by cases h), fun h => absurd h HN.out⟩⟩, hb1⟩
    · have HA := Lib.hid hA
      rw [hA] at HS
      have HT : Hid (∀ W, Below w.heap.size w W → Calls Try.prog 93 #[.slice A len cap, .func (Fn.func 94) #[] #[]] W fun e w' => (∃ r : Bool, e = .returned (.bool r) ∧ Hid (r = true ↔ Asc l)) ∧ Below W.heap.size W w') :=
        Lib.hid (fun W hB => ascLf A len cap l W ((hr.below hB).more hB.size) hl hm hA)
      have HL := Lib.hid hl
      have HC : Hid (∀ W, Below w.heap.size w W → Calls Try.prog 95 #[.slice A len cap] W (ResYes W (¬ NoCross l))) :=
        Lib.hid (fun W hB => implHC A len cap l W ((hr.below hB).more hB.size) hl hm hcap hA)
      clear hr hl hA
      go_enter Try.func54, Try.ntmps54
      go_wp2_with fail
      refine HS.out.mono ?_
      rintro e w1 ⟨rfl, hb1⟩
      go_wp2_with fail
      refine (HT.out _ hb1).mono ?_
      rintro e w2 ⟨⟨r, rfl, HQ⟩, hb2⟩
      have B2 : Below w.heap.size w w2 := belowNext hb1 hb2
      clear hb1 hb2
      cases r
      · have HN : Hid (¬ Lam l) := Lib.hid (fun h => by have := HQ.out.2 h.2.2.1; cases this)
        go_wp2
        go_ret
        exact ⟨⟨false, rfl, Lib.hid ⟨fun h => (by cases h), fun h => absurd h HN.out⟩⟩, B2⟩
      · have HQ2 := Lib.hid (HQ.out.1 rfl)
        go_wp2_with fail
        refine (HC.out _ B2).mono ?_
        rintro e w3 ⟨⟨r, rfl, HW⟩, hb3⟩
        have B3 : Below w.heap.size w w3 := belowNext B2 hb3
        clear hb3 B2
        cases r
        · have HN : Hid (Lam l) := Lib.hid ⟨by have := HL.out; omega, HA.out, HQ2.out, Classical.byContradiction fun h => by have := HW.out.2 h; cases this⟩
          go_wp2
          go_ret
          exact ⟨⟨true, rfl, Lib.hid ⟨fun _ => HN.out, fun _ => rfl⟩⟩, B3⟩
        · have HN : Hid (¬ Lam l) := Lib.hid (fun h => HW.out.1 rfl h.2.2.2)
          go_wp2
          go_ret
          exact ⟨⟨false, rfl, Lib.hid ⟨fun h => (by cases h), fun h => absurd h HN.out⟩⟩, B3⟩
end Go.Proofs.Ytlmgpecfbpcgaaa

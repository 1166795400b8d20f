/-
  Contracts: a leaf that crosses one of a list.
-/
import Derived.Test.YtlmgpecfbpcgaaaV20
import Derived.Test.YtlmgpecfbpcgaaaV4
namespace Go.Proofs.Ytlmgpecfbpcgaaa
open Go.RowKit

def crossX (x y : Lf4) : Bool := crossB x.1 x.2.1 x.2.2.1 x.2.2.2 y.1 y.2.1 y.2.2.1 y.2.2.2
/-- A leaf crosses one of a list. -/
def CrossOne (x : Lf4) (l : List Lf4) : Prop := ∃ (k : Nat) (y : Lf4), l[k]? = some y ∧ crossX x y = true

set_option maxHeartbeats 1000000 in
theorem closCross (a b c d e f g h : Int) (G : Nat) (w : World) (hl : isLf a b c d = true) (hm : isLf e f g h = true) (hG : G < w.heap.size) (H : Cells4 w G 0 a b c d) :
    Calls Try.prog 132 #[leafV e f g h, .pointer (some ⟨G, 0, none⟩)] w fun e' w' => e' = .returned (.bool (crossB a b c d e f g h)) ∧ Below w.heap.size w w' := by
  have HC := Lib.hid (fun w => implCross a b c d e f g h w hl hm)
  generalize crossB a b c d e f g h = R at *
  obtain ⟨x0, x1, x2, x3⟩ := H
  clear hl hm
  go_enter Try.func132, Try.ntmps132
  go_wp2_with fail
  refine (HC.out _).mono ?_
  rintro e' w1 ⟨rfl, hb1⟩
  go_wp2
  go_ret
  refine ⟨rfl, ?_⟩
  (repeat' (first | (with_reducible exact Below.refl _ _) | (with_reducible assumption) | (with_reducible refine belowNext ?_ (by with_reducible assumption)) | (with_reducible refine belowAlloc ?_ _) | (with_reducible refine Below.drew ?_) | (with_reducible refine below_drewN ?_ _) | (with_reducible refine Below.setCell ?_ ?_ _) | go_size | (with_reducible refine sizeOf' ?_) | (with_reducible refine sizeAdd ?_) | (dsimp only; first | (with_reducible refine sizeOf' ?_) | (with_reducible refine sizeAdd ?_))))

set_option maxHeartbeats 2000000 in
theorem idxCross (A : Option Addr) (len cap : Nat) (l : List Lf4) (a b c d : Int) (G : Nat) (w : World) (hr : LfRow w w.heap.size A l) (hl : l.length = len) (hm : len ≤ 1000000000000) (hA : allLf l = true)
    (hx : isLf a b c d = true) (hG : G < w.heap.size) (H : Cells4 w G 0 a b c d) :
    Calls Try.prog 134 #[.slice A len cap, .func (Fn.func 132) #[] #[.pointer (some ⟨G, 0, none⟩)]] w fun e w' => (∃ r : Int, e = .returned (.int .i64 r) ∧ -1 ≤ r ∧ r ≤ 1000000000000 ∧ Hid (0 ≤ r ↔ CrossOne (a, b, c, d) l)) ∧ Below w.heap.size w w' := by
  have HR := Lib.hid hr
  have HL := Lib.hid hl
  have HC : Hid (∀ (k : Nat) (n d' m c' : Int) (W : World), l[k]? = some (n, d', m, c') → Below w.heap.size w W → Calls Try.prog 132 #[leafV n d' m c', .pointer (some ⟨G, 0, none⟩)] W fun e' w' => e' = .returned (.bool (crossX (a, b, c, d) (n, d', m, c'))) ∧ Below W.heap.size W w') :=
    Lib.hid (fun k n d' m c' W hk hB => closCross a b c d n d' m c' G W hx (allLf_at hA hk) (Nat.lt_of_lt_of_le hG hB.size) (H.next hB hG))
  clear hr hl hA hx hG H
  go_enter Try.func134, Try.ntmps134
  go_wp2
  go_loopw [8] (fun i wr => ∃ k : Nat, k ≤ len ∧ i = .int .i64 k ∧ Hid (∀ (j : Nat) (y : Lf4), j < k → l[j]? = some y → crossX (a, b, c, d) y = false) ∧ Below w.heap.size w wr) (fun i _ => len - (intOf i).toNat)
  case atStart => exact ⟨0, by omega, rfl, Lib.hid (fun j y h => absurd h (by omega)), Below.refl _ _⟩
  case round =>
    obtain ⟨k, hk, rfl, HY, hbe⟩ := hrel
    by_cases hlt : k < len
    · obtain ⟨n, d', m, c', hx⟩ := lfAt (l := l) (k := k) (by have := HL.out; omega)
      have hne : l ≠ [] := by intro h; rw [h] at hx; simp at hx
      obtain ⟨b', off, rfl, hbb, hcells⟩ := row_at HR.out hne
      obtain ⟨x0, x1, x2, x3⟩ := (hcells k n d' m c' hx).next hbe hbb
      have HQ := Lib.hid (fun W hB => HC.out k n d' m c' W hx hB)
      have HX := Lib.hid hx
      clear hcells hne hx
      cases hq : crossX (a, b, c, d) (n, d', m, c')
      all_goals
        rw [hq] at HQ
        have HZ := Lib.hid hq
        clear hq
        go_wp2_with fail
        refine (HQ.out _ hbe).mono ?_
        rintro e w1 ⟨rfl, hb1⟩
        have hB : Below w.heap.size w w1 := belowNext hbe hb1
        clear x0 x1 x2 x3 hb1 hbe
        go_wp2
      · go_roundw
        case rel =>
          refine ⟨k + 1, by omega, by go_num, Lib.hid (fun j y hj hy => ?_), hB⟩
          by_cases hjk : j = k
          · subst hjk
            have p := HX.out
            rw [p] at hy
            injection hy with hy
            rw [← hy]
            exact HZ.out
          · exact HY.out j y (by omega) hy
        case measure => simp [intOf]; omega
      · have HN : Hid (CrossOne (a, b, c, d) l) := Lib.hid ⟨k, _, HX.out, HZ.out⟩
        go_ret
        exact ⟨⟨_, rfl, by omega, by omega, Lib.hid ⟨fun _ => HN.out, fun _ => by omega⟩⟩, hB⟩
    · have HN : Hid (¬ CrossOne (a, b, c, d) l) := Lib.hid (fun ⟨j, y, hy, hc⟩ => by
        have := HY.out j y (by
          rcases Nat.lt_or_ge j l.length with h1 | h1
          · have := HL.out; omega
          · rw [List.getElem?_eq_none h1] at hy; cases hy) hy
        rw [this] at hc; cases hc)
      go_wp2
      go_ret
      exact ⟨⟨_, rfl, by omega, by omega, Lib.hid ⟨fun h => absurd h (by omega), fun h => absurd h HN.out⟩⟩, hbe⟩

set_option maxHeartbeats 1000000 in
theorem crossOne (A : Option Addr) (len cap : Nat) (l : List Lf4) (a b c d : Int) (w : World) (hr : LfRow w w.heap.size A l) (hl : l.length = len) (hm : len ≤ 1000000000000) (hA : allLf l = true) (hx : isLf a b c d = true) :
    Calls Try.prog 106 #[leafV a b c d, .slice A len cap] w fun e w' => (∃ r : Bool, e = .returned (.bool r) ∧ Hid (r = true ↔ CrossOne (a, b, c, d) l)) ∧ Below w.heap.size w w' := by
  have HI : Hid (∀ (W : World) (G : Nat), Below w.heap.size w W → G < W.heap.size → Cells4 W G 0 a b c d → Calls Try.prog 107 #[.slice A len cap, .func (Fn.func 132) #[] #[.pointer (some ⟨G, 0, none⟩)]] W fun e w' => (∃ r : Bool, e = .returned (.bool r) ∧ Hid (r = true ↔ CrossOne (a, b, c, d) l)) ∧ Below W.heap.size W w') :=
    Lib.hid (fun W G hB hG HG => by
      have HJ := Lib.hid (idxCross A len cap l a b c d G W ((hr.below hB).more hB.size) hl hm hA hx hG HG)
      clear hr hl hA hx hG HG hB
      go_enter Try.func107, Try.ntmps107
      go_wp2_with fail
      refine HJ.out.mono ?_
      rintro e w1 ⟨⟨r, rfl, h1, h2, HR⟩, hb1⟩
      go_wp2
      go_ret
      refine ⟨⟨_, rfl, Lib.hid ?_⟩, ?_⟩
      · rw [decide_eq_true_eq]; exact HR.out
      · (repeat' (first | (with_reducible exact Below.refl _ _) | (with_reducible assumption) | (with_reducible refine belowNext ?_ (by with_reducible assumption)) | (with_reducible refine belowAlloc ?_ _) | (with_reducible refine Below.drew ?_) | (with_reducible refine below_drewN ?_ _) | (with_reducible refine Below.setCell ?_ ?_ _) | go_size | (with_reducible refine sizeOf' ?_) | (with_reducible refine sizeAdd ?_) | (dsimp only; first | (with_reducible refine sizeOf' ?_) | (with_reducible refine sizeAdd ?_)))))
  clear hr hl hA hx
  go_enter Try.func106, Try.ntmps106
  go_wp2_with fail
  refine (HI.out _ _ (by exact belowAlloc (Below.refl _ _) _) (by simp) ⟨by simp [go_sem], by simp [go_sem], by simp [go_sem], by simp [go_sem]⟩).mono ?_
  rintro e w1 ⟨⟨r, rfl, HR⟩, hb1⟩
  go_wp2
  go_ret
  refine ⟨⟨_, rfl, HR⟩, ?_⟩
  (repeat' (first | (with_reducible exact Below.refl _ _) | (with_reducible assumption) | (with_reducible refine belowNext ?_ (by with_reducible assumption)) | (with_reducible refine belowAlloc ?_ _) | (with_reducible refine Below.drew ?_) | (with_reducible refine below_drewN ?_ _) | (with_reducible refine Below.setCell ?_ ?_ _) | go_size | (with_reducible refine sizeOf' ?_) | (with_reducible refine sizeAdd ?_) | (dsimp only; first | (with_reducible refine sizeOf' ?_) | (with_reducible refine sizeAdd ?_))))
end Go.Proofs.Ytlmgpecfbpcgaaa

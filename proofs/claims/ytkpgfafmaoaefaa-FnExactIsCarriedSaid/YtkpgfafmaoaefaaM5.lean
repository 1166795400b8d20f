/-
  Contracts: laminations that are carried into themselves; the walk of the law.
-/
import Derived.Test.YtkpgfafmaoaefaaV22
import Derived.Test.YtkpgfafmaoaefaaV18
import Derived.Test.YtkpgfafmaoaefaaV24
namespace Go.Proofs.Ytkpgfafmaoaefaa
open Go.RowKit

/-- The image of each leaf that is no diameter is among m. -/
def carX (m : List Lf4) (x : Lf4) : Bool := diaX x || hasX m (imL x)
def carB (m l : List Lf4) : Bool := l.all fun x => carX m x
theorem carB_yes {m l : List Lf4} (h : ∀ (j : Nat) (x : Lf4), l[j]? = some x → carX m x = true) : carB m l = true := by
  unfold carB
  rw [List.all_eq_true]
  intro x hx
  obtain ⟨i, hi, e⟩ := List.getElem_of_mem hx
  exact h i x (by rw [List.getElem?_eq_getElem hi, e])
theorem carB_no {m l : List Lf4} {j : Nat} {x : Lf4} (h : l[j]? = some x) (hx : carX m x = false) : carB m l = false := by
  unfold carB
  rw [List.all_eq_false]
  exact ⟨x, List.mem_of_getElem? h, by rw [hx]; simp⟩

/-- What IsCarried answers where the list is a lamination, and where it is none. -/
def ResBI (w : World) (r : Bool) (c : Int) (e : Ending) (w' : World) : Prop := e = .returned (.tuple #[.bool r, .int .i64 c]) ∧ Below w.heap.size w w'

set_option maxHeartbeats 2000000 in
theorem implCarNo (A : Option Addr) (len cap : Nat) (l : List Lf4) (w : World) (hr : LfRow w w.heap.size A l) (hl : l.length = len) (hm : len ≤ 1000000000000) (hcap : len ≤ cap) (hN : ¬ Lam l) :
    Calls Try.prog 26 #[.slice A len cap] w (ResBI w false 1) := by
  have HI := Lib.hid (implLam A len cap l w hr hl hm hcap)
  have HN := Lib.hid hN
  clear hr hl hcap hN
  go_enter Try.func26, Try.ntmps26
  go_wp2_with fail
  refine HI.out.mono ?_
  rintro e w1 ⟨⟨r, rfl, HQ⟩, hb1⟩
  obtain rfl : r = false := by
    cases r
    · rfl
    · exact absurd (HQ.out.1 rfl) HN.out
  go_wp2
  go_ret2
  exact ⟨rfl, hb1⟩

set_option maxHeartbeats 4000000 in
theorem implCar (A : Option Addr) (len cap : Nat) (l : List Lf4) (w : World) (hr : LfRow w w.heap.size A l) (hl : l.length = len) (hm : len ≤ 1000000000000) (hcap : len ≤ cap) (hY : Lam l) :
    Calls Try.prog 26 #[.slice A len cap] w (ResBI w (carB l l) 0) := by
  have HI := Lib.hid (implLam A len cap l w hr hl hm hcap)
  have HY := Lib.hid hY
  have HR := Lib.hid hr
  have HL := Lib.hid hl
  have HH : Hid (∀ (n d m c : Int) (W : World), Below w.heap.size w W → Calls Try.prog 70 #[.slice A len cap, leafV n d m c] W fun e w' => e = .returned (.bool (hasL l n d m c)) ∧ Below W.heap.size W w') :=
    Lib.hid (fun n d m c W hB => hasLf A len cap l n d m c W ((hr.below hB).more hB.size) hl hm)
  clear hr hl hcap hY
  go_enter Try.func26, Try.ntmps26
  go_wp2_with fail
  refine HI.out.mono ?_
  rintro e w1 ⟨⟨r, rfl, HQ⟩, hb1⟩
  obtain rfl : r = true := HQ.out.2 HY.out
  clear HQ HI
  go_wp2
  go_loopw [11] (fun i wr => ∃ k : Nat, k ≤ len ∧ i = .int .i64 k ∧ Hid (∀ (j : Nat) (x : Lf4), j < k → l[j]? = some x → carX l x = true) ∧ Below w.heap.size w wr) (fun i _ => len - (intOf i).toNat)
  case atStart => exact ⟨0, by omega, rfl, Lib.hid (fun j y h => absurd h (by omega)), hb1⟩
  case round =>
    obtain ⟨k, hk, rfl, HJ, hbe⟩ := hrel
    by_cases hlt : k < len
    · obtain ⟨n, d', m, c', hx⟩ := lfAt (l := l) (k := k) (by have := HL.out; omega)
      have hne : l ≠ [] := by intro h; rw [h] at hx; simp at hx
      obtain ⟨b', off, rfl, hbb, hcells⟩ := row_at HR.out hne
      obtain ⟨x0, x1, x2, x3⟩ := (hcells k n d' m c' hx).next hbe hbb
      obtain ⟨r1, r2, -⟩ := isLf_yes (allLf_at HY.out.2.1 hx)
      have HD := Lib.hid (fun w => implDia n d' m c' w (okOf r1) (okOf r2))
      have HM := Lib.hid (fun w => implImage n d' m c' w r1 r2)
      have HX := Lib.hid hx
      have HS : Hid (carX l (n, d', m, c') = (diaB n d' m c' || hasL l (imA n d' m c') (imB n d' m c') (imC n d' m c') (imD n d' m c'))) := Lib.hid rfl
      clear hcells hne hx r1 r2 hb1
      generalize imA n d' m c' = y1 at *
      generalize imB n d' m c' = y2 at *
      generalize imC n d' m c' = y3 at *
      generalize imD n d' m c' = y4 at *
      have HZ := Lib.hid (fun W hB => HH.out y1 y2 y3 y4 W hB)
      cases hd : diaB n d' m c'
      · rw [hd] at HD HS
        cases hh : hasL l y1 y2 y3 y4
        · rw [hh] at HZ HS
          have HN : Hid (carB l l = false) := Lib.hid (carB_no HX.out HS.out)
          rw [HN.out]
          clear hd hh
          go_wp2_with fail
          refine (HD.out _).mono ?_
          rintro e w2 ⟨rfl, hb2⟩
          have B2 : Below w.heap.size w w2 := by
            (repeat' (first | (with_reducible exact Below.refl _ _) | (with_reducible assumption) | (with_reducible refine belowNext ?_ (by with_reducible assumption)) | (with_reducible refine belowAlloc ?_ _) | (with_reducible refine Below.drew ?_) | (with_reducible refine below_drewN ?_ _) | (with_reducible refine Below.setCell ?_ ?_ _) | go_size | (with_reducible refine sizeOf' ?_) | (with_reducible refine sizeAdd ?_) | (dsimp only; first | (with_reducible refine sizeOf' ?_) | (with_reducible refine sizeAdd ?_))))
          have hz2 : wr.heap.size < w2.heap.size := by have := hb2.size; simp at this; omega
          obtain ⟨hc2, hf2⟩ := bcell hb2
          go_wp2_with fail
          refine (HM.out _).mono ?_
          rintro e w3 ⟨rfl, hb3⟩
          have B3 : Below w.heap.size w w3 := belowNext B2 hb3
          go_wp2_with fail
          refine (HZ.out _ B3).mono ?_
          rintro e w4 ⟨rfl, hb4⟩
          have B4 : Below w.heap.size w w4 := belowNext B3 hb4
          go_wp2
          go_ret2
          exact ⟨rfl, B4⟩
        · rw [hh] at HZ HS
          clear hd hh
          go_wp2_with fail
          refine (HD.out _).mono ?_
          rintro e w2 ⟨rfl, hb2⟩
          have B2 : Below w.heap.size w w2 := by
            (repeat' (first | (with_reducible exact Below.refl _ _) | (with_reducible assumption) | (with_reducible refine belowNext ?_ (by with_reducible assumption)) | (with_reducible refine belowAlloc ?_ _) | (with_reducible refine Below.drew ?_) | (with_reducible refine below_drewN ?_ _) | (with_reducible refine Below.setCell ?_ ?_ _) | go_size | (with_reducible refine sizeOf' ?_) | (with_reducible refine sizeAdd ?_) | (dsimp only; first | (with_reducible refine sizeOf' ?_) | (with_reducible refine sizeAdd ?_))))
          have hz2 : wr.heap.size < w2.heap.size := by have := hb2.size; simp at this; omega
          obtain ⟨hc2, hf2⟩ := bcell hb2
          go_wp2_with fail
          refine (HM.out _).mono ?_
          rintro e w3 ⟨rfl, hb3⟩
          have B3 : Below w.heap.size w w3 := belowNext B2 hb3
          go_wp2_with fail
          refine (HZ.out _ B3).mono ?_
          rintro e w4 ⟨rfl, hb4⟩
          have B4 : Below w.heap.size w w4 := belowNext B3 hb4
          go_wp2
          go_roundw
          case rel =>
            refine ⟨k + 1, by omega, by go_num, Lib.hid (fun j y hj hy => ?_), B4⟩
            by_cases hjk : j = k
            · subst hjk
              have p := HX.out
              rw [p] at hy
              injection hy with hy
              rw [← hy]
              exact HS.out
            · exact HJ.out j y (by omega) hy
          case measure => simp [intOf]; omega
      · rw [hd] at HD HS
        rw [Bool.true_or] at HS
        clear hd HZ HM
        go_wp2_with fail
        refine (HD.out _).mono ?_
        rintro e w2 ⟨rfl, hb2⟩
        have B2 : Below w.heap.size w w2 := by
          (repeat' (first | (with_reducible exact Below.refl _ _) | (with_reducible assumption) | (with_reducible refine belowNext ?_ (by with_reducible assumption)) | (with_reducible refine belowAlloc ?_ _) | (with_reducible refine Below.drew ?_) | (with_reducible refine below_drewN ?_ _) | (with_reducible refine Below.setCell ?_ ?_ _) | go_size | (with_reducible refine sizeOf' ?_) | (with_reducible refine sizeAdd ?_) | (dsimp only; first | (with_reducible refine sizeOf' ?_) | (with_reducible refine sizeAdd ?_))))
        go_wp2
        go_roundw
        case rel =>
          refine ⟨k + 1, by omega, by go_num, Lib.hid (fun j y hj hy => ?_), B2⟩
          by_cases hjk : j = k
          · subst hjk
            have p := HX.out
            rw [p] at hy
            injection hy with hy
            rw [← hy]
            exact HS.out
          · exact HJ.out j y (by omega) hy
        case measure => simp [intOf]; omega
    · have HN : Hid (carB l l = true) := Lib.hid (carB_yes (fun i x hx => HJ.out i x (by
        rcases Nat.lt_or_ge i l.length with h1 | h1
        · have := HL.out; omega
        · rw [List.getElem?_eq_none h1] at hx; cases hx) hx))
      rw [HN.out]
      go_wp2
      refine bodyPost_ret (v := .tuple #[.bool true, .int .i64 0]) (by simp [results, Try.results26, go_sem]) rfl ⟨by rw [HN.out], hbe⟩
end Go.Proofs.Ytkpgfafmaoaefaa

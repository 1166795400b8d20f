/-
  Contracts: laminations that are carried into themselves, on the model's side; the walk of the law.
-/
import Derived.Test.YtkpgfafmaoaefaaM5
import Derived.Test.YtkpgfafmaoaefaaV23
namespace Go.Proofs.Ytkpgfafmaoaefaa
open Go.RowKit

set_option maxHeartbeats 1000000 in
theorem specHasL (A : Option Addr) (len cap : Nat) (l : List Lf4) (n d m c : Int) (w : World) (hr : LfRow w w.heap.size A l) (hl : l.length = len) (hm : len ≤ 1000000000000) :
    Calls Try.prog 67 #[.slice A len cap, leafV n d m c] w fun e w' => e = .returned (.bool (hasL l n d m c)) ∧ Below w.heap.size w w' := by
  have HR := Lib.hid hr
  have HL := Lib.hid hl
  clear hr hl
  go_enter Try.func67, Try.ntmps67
  go_wp2
  go_loopw [5] (fun i wr => ∃ k : Nat, k ≤ len ∧ i = .int .i64 k ∧ Hid (∀ j, j < k → ∀ a b e f, l[j]? = some (a, b, e, f) → eqL n d m c a b e f = false) ∧ ∃ q, wr = (w.alloc (.cells #[.int .i64 n, .int .i64 d, .int .i64 m, .int .i64 c] 31)).drewN q) (fun i _ => len - (intOf i).toNat)
  case atStart => exact ⟨0, by omega, rfl, Lib.hid (fun j h => absurd h (by omega)), 0, rfl⟩
  case round =>
    obtain ⟨k, hk, rfl, HY, q, rfl⟩ := hrel
    by_cases hlt : k < len
    · have hkl : k < l.length := by have := HL.out; omega
      obtain ⟨a, b, e, f, hnd⟩ : ∃ a b e f, l[k] = (a, b, e, f) := ⟨_, _, _, _, rfl⟩
      have hk2 : l[k]? = some (a, b, e, f) := by rw [List.getElem?_eq_getElem hkl, hnd]
      have hne : l ≠ [] := by intro h; rw [h] at hkl; simp at hkl
      obtain ⟨g, off, rfl, hbb, hcells⟩ := row_at HR.out hne
      obtain ⟨x0, x1, x2, x3⟩ := hcells k a b e f hk2
      have HK := Lib.hid hk2
      have Q1 := fun W => eqlLf a b e f n d m c W
      clear hnd hcells hk2 hne
      cases hq : eqL n d m c a b e f
      · rw [eqL_comm, hq] at Q1
        have HQ := Lib.hid hq
        clear hq
        go_wp2_with fail
        go_quiet (fail)
        go_wp2
        go_roundw
        case rel =>
          refine ⟨k + 1, by omega, by go_num, Lib.hid (fun j hj a' b' e' f' h' => ?_), _, rfl⟩
          by_cases hjk : j = k
          · subst hjk
            rw [HK.out] at h'
            injection h' with h'
            simp only [Prod.mk.injEq] at h'
            obtain ⟨rfl, rfl, rfl, rfl⟩ := h'
            exact HQ.out
          · exact HY.out j (by omega) _ _ _ _ h'
        case measure => simp [intOf]; omega
      · rw [eqL_comm, hq] at Q1
        have HQ := Lib.hid (hasL_yes HK.out hq)
        clear hq
        go_wp2_with fail
        go_quiet (fail)
        go_wp2
        go_ret
        refine ⟨retB (by rw [HQ.out]), ?_⟩
        (repeat' (first | (with_reducible exact Below.refl _ _) | (with_reducible assumption) | (with_reducible refine belowNext ?_ (by with_reducible assumption)) | (with_reducible refine belowAlloc ?_ _) | (with_reducible refine Below.drew ?_) | (with_reducible refine below_drewN ?_ _) | (with_reducible refine Below.setCell ?_ ?_ _) | go_size | (with_reducible refine sizeOf' ?_) | (with_reducible refine sizeAdd ?_) | (dsimp only; first | (with_reducible refine sizeOf' ?_) | (with_reducible refine sizeAdd ?_))))
    · obtain rfl : k = len := by omega
      have HQ : Hid (hasL l n d m c = false) := Lib.hid (hasL_no (fun i a b e f hi => HY.out i (by
        rcases Nat.lt_or_ge i l.length with h1 | h1
        · have := HL.out; omega
        · rw [List.getElem?_eq_none h1] at hi; cases hi) _ _ _ _ hi))
      go_wp2
      go_ret
      refine ⟨retB (by rw [HQ.out]), ?_⟩
      (repeat' (first | (with_reducible exact Below.refl _ _) | (with_reducible assumption) | (with_reducible refine belowNext ?_ (by with_reducible assumption)) | (with_reducible refine belowAlloc ?_ _) | (with_reducible refine Below.drew ?_) | (with_reducible refine below_drewN ?_ _) | (with_reducible refine Below.setCell ?_ ?_ _) | go_size | (with_reducible refine sizeOf' ?_) | (with_reducible refine sizeAdd ?_) | (dsimp only; first | (with_reducible refine sizeOf' ?_) | (with_reducible refine sizeAdd ?_))))

set_option maxHeartbeats 2000000 in
theorem specCarNo (A : Option Addr) (len cap : Nat) (l : List Lf4) (w : World) (hr : LfRow w w.heap.size A l) (hl : l.length = len) (hm : len ≤ 1000000000000) (hN : ¬ Lam l) :
    Calls Try.prog 24 #[.slice A len cap] w (ResBI w false 1) := by
  have HI := Lib.hid (specLam1 A len cap l w hr hl hm)
  have HN := Lib.hid hN
  clear hr hl hN
  go_enter Try.func24, Try.ntmps24
  go_wp2_with fail
  refine HI.out.mono ?_
  rintro e w1 ⟨⟨r, rfl, HQ⟩, hb1⟩
  obtain rfl : r = false := by
    cases r
    · rfl
    · exact absurd (HQ.out.1 rfl) HN.out
  go_wp2
  go_ret2
  exact ⟨rfl, hb1⟩

set_option maxHeartbeats 4000000 in
theorem specCar (A : Option Addr) (len cap : Nat) (l : List Lf4) (w : World) (hr : LfRow w w.heap.size A l) (hl : l.length = len) (hm : len ≤ 1000000000000) (hY : Lam l) :
    Calls Try.prog 24 #[.slice A len cap] w (ResBI w (carB l l) 0) := by
  have HI := Lib.hid (specLam1 A len cap l w hr hl hm)
  have HY := Lib.hid hY
  have HR := Lib.hid hr
  have HL := Lib.hid hl
  have HH : Hid (∀ (n d m c : Int) (W : World), Below w.heap.size w W → Calls Try.prog 67 #[.slice A len cap, leafV n d m c] W fun e w' => e = .returned (.bool (hasL l n d m c)) ∧ Below W.heap.size W w') :=
    Lib.hid (fun n d m c W hB => specHasL A len cap l n d m c W ((hr.below hB).more hB.size) hl hm)
  clear hr hl hY
  go_enter Try.func24, Try.ntmps24
  go_wp2_with fail
  refine HI.out.mono ?_
  rintro e w1 ⟨⟨r, rfl, HQ⟩, hb1⟩
  obtain rfl : r = true := HQ.out.2 HY.out
  clear HQ HI
  go_wp2
  go_loopw [4] (fun i wr => ∃ k : Nat, k ≤ len ∧ i = .int .i64 k ∧ Hid (∀ (j : Nat) (x : Lf4), j < k → l[j]? = some x → carX l x = true) ∧ Below w.heap.size w wr) (fun i _ => len - (intOf i).toNat)
  case atStart => exact ⟨0, by omega, rfl, Lib.hid (fun j y h => absurd h (by omega)), hb1⟩
  case round =>
    obtain ⟨k, hk, rfl, HJ, hbe⟩ := hrel
    by_cases hlt : k < len
    · obtain ⟨n, d', m, c', hx⟩ := lfAt (l := l) (k := k) (by have := HL.out; omega)
      have hne : l ≠ [] := by intro h; rw [h] at hx; simp at hx
      obtain ⟨b', off, rfl, hbb, hcells⟩ := row_at HR.out hne
      have HCe := Lib.hid (hcells k n d' m c' hx)
      obtain ⟨x0, x1, x2, x3⟩ := HCe.out.next hbe hbb
      obtain ⟨r1, r2, -⟩ := isLf_yes (allLf_at HY.out.2.1 hx)
      have HD := Lib.hid (fun w => specDia n d' m c' w (okOf r1) (okOf r2))
      have HM := Lib.hid (fun w => specImage n d' m c' w r1 r2)
      have HX := Lib.hid hx
      have HS : Hid (carX l (n, d', m, c') = (diaB n d' m c' || hasL l (imA n d' m c') (imB n d' m c') (imC n d' m c') (imD n d' m c'))) := Lib.hid rfl
      clear hcells hne hx r1 r2 hb1
      generalize imA n d' m c' = y1 at *
      generalize imB n d' m c' = y2 at *
      generalize imC n d' m c' = y3 at *
      generalize imD n d' m c' = y4 at *
      have HZ := Lib.hid (fun W hB => HH.out y1 y2 y3 y4 W hB)
      cases hd : diaB n d' m c'
      · rw [hd] at HD HS
        cases hh : hasL l y1 y2 y3 y4
        · rw [hh] at HZ HS
          have HN : Hid (carB l l = false) := Lib.hid (carB_no HX.out HS.out)
          rw [HN.out]
          clear hd hh
          go_wp2_with fail
          refine (HD.out _).mono ?_
          rintro e w2 ⟨rfl, hb2⟩
          have B2 : Below w.heap.size w w2 := by
            (repeat' (first | (with_reducible exact Below.refl _ _) | (with_reducible assumption) | (with_reducible refine belowNext ?_ (by with_reducible assumption)) | (with_reducible refine belowAlloc ?_ _) | (with_reducible refine Below.drew ?_) | (with_reducible refine below_drewN ?_ _) | (with_reducible refine Below.setCell ?_ ?_ _) | go_size | (with_reducible refine sizeOf' ?_) | (with_reducible refine sizeAdd ?_) | (dsimp only; first | (with_reducible refine sizeOf' ?_) | (with_reducible refine sizeAdd ?_))))
          obtain ⟨x0, x1, x2, x3⟩ := HCe.out.next B2 hbb
          go_wp2_with fail
          refine (HM.out _).mono ?_
          rintro e w3 ⟨rfl, hb3⟩
          have B3 : Below w.heap.size w w3 := belowNext B2 hb3
          go_wp2_with fail
          refine (HZ.out _ B3).mono ?_
          rintro e w4 ⟨rfl, hb4⟩
          have B4 : Below w.heap.size w w4 := belowNext B3 hb4
          go_wp2
          go_ret2
          exact ⟨rfl, B4⟩
        · rw [hh] at HZ HS
          clear hd hh
          go_wp2_with fail
          refine (HD.out _).mono ?_
          rintro e w2 ⟨rfl, hb2⟩
          have B2 : Below w.heap.size w w2 := by
            (repeat' (first | (with_reducible exact Below.refl _ _) | (with_reducible assumption) | (with_reducible refine belowNext ?_ (by with_reducible assumption)) | (with_reducible refine belowAlloc ?_ _) | (with_reducible refine Below.drew ?_) | (with_reducible refine below_drewN ?_ _) | (with_reducible refine Below.setCell ?_ ?_ _) | go_size | (with_reducible refine sizeOf' ?_) | (with_reducible refine sizeAdd ?_) | (dsimp only; first | (with_reducible refine sizeOf' ?_) | (with_reducible refine sizeAdd ?_))))
          obtain ⟨x0, x1, x2, x3⟩ := HCe.out.next B2 hbb
          go_wp2_with fail
          refine (HM.out _).mono ?_
          rintro e w3 ⟨rfl, hb3⟩
          have B3 : Below w.heap.size w w3 := belowNext B2 hb3
          go_wp2_with fail
          refine (HZ.out _ B3).mono ?_
          rintro e w4 ⟨rfl, hb4⟩
          have B4 : Below w.heap.size w w4 := belowNext B3 hb4
          go_wp2
          go_roundw
          case rel =>
            refine ⟨k + 1, by omega, by go_num, Lib.hid (fun j y hj hy => ?_), B4⟩
            by_cases hjk : j = k
            · subst hjk
              have p := HX.out
              rw [p] at hy
              injection hy with hy
              rw [← hy]
              exact HS.out
            · exact HJ.out j y (by omega) hy
          case measure => simp [intOf]; omega
      · rw [hd] at HD HS
        rw [Bool.true_or] at HS
        clear hd HZ HM
        go_wp2_with fail
        refine (HD.out _).mono ?_
        rintro e w2 ⟨rfl, hb2⟩
        have B2 : Below w.heap.size w w2 := by
          (repeat' (first | (with_reducible exact Below.refl _ _) | (with_reducible assumption) | (with_reducible refine belowNext ?_ (by with_reducible assumption)) | (with_reducible refine belowAlloc ?_ _) | (with_reducible refine Below.drew ?_) | (with_reducible refine below_drewN ?_ _) | (with_reducible refine Below.setCell ?_ ?_ _) | go_size | (with_reducible refine sizeOf' ?_) | (with_reducible refine sizeAdd ?_) | (dsimp only; first | (with_reducible refine sizeOf' ?_) | (with_reducible refine sizeAdd ?_))))
        go_wp2
        go_roundw
        case rel =>
          refine ⟨k + 1, by omega, by go_num, Lib.hid (fun j y hj hy => ?_), B2⟩
          by_cases hjk : j = k
          · subst hjk
            have p := HX.out
            rw [p] at hy
            injection hy with hy
            rw [← hy]
            exact HS.out
          · exact HJ.out j y (by omega) hy
        case measure => simp [intOf]; omega
    · have HN : Hid (carB l l = true) := Lib.hid (carB_yes (fun i x hx => HJ.out i x (by
        rcases Nat.lt_or_ge i l.length with h1 | h1
        · have := HL.out; omega
        · rw [List.getElem?_eq_none h1] at hx; cases hx) hx))
      rw [HN.out]
      go_wp2
      refine bodyPost_ret (v := .tuple #[.bool true, .int .i64 0]) (by simp [results, Try.results24, go_sem]) rfl ⟨by rw [HN.out], hbe⟩
set_option maxHeartbeats 2000000 in
theorem lawIsCarried (A : Option Addr) (len cap : Nat) (l : List Lf4) (w : World) (hr : LfRow w w.heap.size A l) (hl : l.length = len) (hm : len ≤ 9223372036854775807) :
    Calls Try.prog 5 #[.slice A len cap] w fun e w' => e = .returned (.bool true) ∧ Below w.heap.size w w' := by
  have HZ := Lib.hid (szLf A len cap 1048576 w (by omega) (by omega) hm)
  by_cases h : (1048576 : Int) < (len : Int)
  · rw [if_pos h] at HZ
    clear hr hl h
    go_enter Try.func5, Try.ntmps5
    go_wp2_with fail
    refine HZ.out.mono ?_
    rintro e w1 ⟨rfl, rfl⟩
    go_wp2
    go_ret
    exact ⟨rfl, Below.refl _ _⟩
  · rw [if_neg h] at HZ
    have hlt : len ≤ 1048576 := by omega
    have nn : ¬ ((1048576 : Int) - (len : Int) < 0) := by omega
    have HT : Hid (∀ W, Below w.heap.size w W → Calls Try.prog 25 #[.slice A len cap] W fun e w' => ∃ A', e = .returned (.slice A' len len) ∧ LfOwn w' W.heap.size A' l ∧ Below W.heap.size W w') :=
      Lib.hid (fun W hB => toLfS A len cap l W ((hr.below hB).more hB.size) hl hlt)
    obtain ⟨R, C, HS, HI⟩ : ∃ (R : Bool) (C : Int), Hid (∀ A' W, LfRow W W.heap.size A' l → Calls Try.prog 24 #[.slice A' len len] W (ResBI W R C)) ∧ Hid (∀ A' W, LfRow W W.heap.size A' l → Calls Try.prog 26 #[.slice A' len len] W (ResBI W R C)) := by
      by_cases hY : Lam l
      · exact ⟨_, _, Lib.hid (fun A' W hr' => specCar A' len len l W hr' hl (by omega) hY), Lib.hid (fun A' W hr' => implCar A' len len l W hr' hl (by omega) (Nat.le_refl _) hY)⟩
      · exact ⟨_, _, Lib.hid (fun A' W hr' => specCarNo A' len len l W hr' hl (by omega) hY), Lib.hid (fun A' W hr' => implCarNo A' len len l W hr' hl (by omega) (Nat.le_refl _) hY)⟩
    have HL := Lib.hid hl
    clear hr hl h
    generalize hleft : (1048576 : Int) - (len : Int) = left at *
    cases R
    all_goals
      go_enter Try.func5, Try.ntmps5
      go_wp2_with fail
      refine HZ.out.mono ?_
      rintro e w1 ⟨rfl, rfl⟩
      go_wp2_with fail
      refine (HT.out _ (Below.refl _ _)).mono ?_
      rintro e w2 ⟨A2, rfl, ho2, hb2⟩
      have R2 := Lib.hid ho2.row
      clear ho2
      go_wp2_with fail
      refine (HS.out _ _ R2.out).mono ?_
      rintro e w3 ⟨rfl, hb3⟩
      have B3 : Below w.heap.size w w3 := belowNext hb2 hb3
      clear hb2 hb3 R2
      go_wp2_with fail
      refine (HT.out _ B3).mono ?_
      rintro e w4 ⟨A4, rfl, ho4, hb4⟩
      have R4 := Lib.hid ho4.row
      have B4 : Below w.heap.size w w4 := belowNext B3 hb4
      clear ho4 hb4
      go_wp2_with fail
      refine (HI.out _ _ R4.out).mono ?_
      rintro e w5 ⟨rfl, hb5⟩
      have R5 := Lib.hid (R4.out.next hb5)
      have B5 : Below w.heap.size w w5 := belowNext B4 hb5
      clear hb5
      go_wp2_with fail
      refine (HT.out _ B5).mono ?_
      rintro e w6 ⟨A6, rfl, ho6, hb6⟩
      have R6 := Lib.hid ho6.row
      have R56 := Lib.hid (R5.out.next hb6)
      have B6 : Below w.heap.size w w6 := belowNext B5 hb6
      clear ho6 hb6
      go_wp2_with fail
      refine (eqLfS _ _ _ _ _ l _ R56.out R6.out HL.out (by omega)).mono ?_
      rintro e w7 ⟨rfl, hb7⟩
      have B7 : Below w.heap.size w w7 := belowNext B6 hb7
      go_wp2
      go_ret
      exact ⟨rfl, B7⟩
end Go.Proofs.Ytkpgfafmaoaefaa

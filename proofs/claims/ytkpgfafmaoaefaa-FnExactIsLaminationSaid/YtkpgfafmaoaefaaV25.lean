/-
  The walk of the law of IsLamination, where the model's contract is laid ahead.
-/
import Derived.Test.YtkpgfafmaoaefaaV24
import Derived.Test.YtkpgfafmaoaefaaV22
namespace Go.Proofs.Ytkpgfafmaoaefaa
open Go.RowKit

set_option maxHeartbeats 2000000 in
theorem lawIsLam (hS : ∀ (A : Option Addr) (len cap : Nat) (l : List Lf4) (w : World), LfRow w w.heap.size A l → l.length = len → len ≤ 1000000000000 → Calls Try.prog 38 #[.slice A len cap] w (ResYes w (Lam l)))
    (A : Option Addr) (len cap : Nat) (l : List Lf4) (w : World) (hr : LfRow w w.heap.size A l) (hl : l.length = len) (hm : len ≤ 9223372036854775807) :
    Calls Try.prog 10 #[.slice A len cap] w fun e w' => e = .returned (.bool true) ∧ Below w.heap.size w w' := by
  have HZ := Lib.hid (szLf A len cap 1048576 w (by omega) (by omega) hm)
  by_cases h : (1048576 : Int) < (len : Int)
  · rw [if_pos h] at HZ
    clear hr hl h hS
    go_enter Try.func10, Try.ntmps10
    go_wp2_with fail
    refine HZ.out.mono ?_
    rintro e w1 ⟨rfl, rfl⟩
    go_wp2
    go_ret
    exact ⟨rfl, Below.refl _ _⟩
  · rw [if_neg h] at HZ
    have hlt : len ≤ 1048576 := by omega
    have nn : ¬ ((1048576 : Int) - (len : Int) < 0) := by omega
    have HT : Hid (∀ W, Below w.heap.size w W → Calls Try.prog 25 #[.slice A len cap] W fun e w' => ∃ A', e = .returned (.slice A' len len) ∧ LfOwn w' W.heap.size A' l ∧ Below W.heap.size W w') :=
      Lib.hid (fun W hB => toLfS A len cap l W ((hr.below hB).more hB.size) hl hlt)
    have HS := Lib.hid (fun A' W (hr' : LfRow W W.heap.size A' l) => hS A' len len l W hr' hl (by omega))
    have HI := Lib.hid (fun A' W (hr' : LfRow W W.heap.size A' l) => implLam A' len len l W hr' hl (by omega) (Nat.le_refl _))
    have HL := Lib.hid hl
    clear hr hl hS h
    generalize hleft : (1048576 : Int) - (len : Int) = left at *
    go_enter Try.func10, Try.ntmps10
    go_wp2_with fail
    refine HZ.out.mono ?_
    rintro e w1 ⟨rfl, rfl⟩
    go_wp2_with fail
    refine (HT.out _ (Below.refl _ _)).mono ?_
    rintro e w2 ⟨A2, rfl, ho2, hb2⟩
    have R2 := Lib.hid ho2.row
    clear ho2
    go_wp2_with fail
    refine (HS.out _ _ R2.out).mono ?_
    rintro e w3 ⟨⟨r, rfl, HR⟩, hb3⟩
    have B3 : Below w.heap.size w w3 := belowNext hb2 hb3
    clear hb2 hb3 R2
    go_wp2_with fail
    refine (HT.out _ B3).mono ?_
    rintro e w4 ⟨A4, rfl, ho4, hb4⟩
    have R4 := Lib.hid ho4.row
    have B4 : Below w.heap.size w w4 := belowNext B3 hb4
    clear ho4 hb4
    go_wp2_with fail
    refine (HI.out _ _ R4.out).mono ?_
    rintro e w5 ⟨⟨r', rfl, HR'⟩, hb5⟩
    have R5 := Lib.hid (R4.out.next hb5)
    have B5 : Below w.heap.size w w5 := belowNext B4 hb5
    obtain rfl : r = r' := by
      rw [Bool.eq_iff_iff]
      exact HR.out.trans HR'.out.symm
    clear hb5 HR HR'
    cases r
    all_goals
      go_wp2_with fail
      refine (HT.out _ B5).mono ?_
      rintro e w6 ⟨A6, rfl, ho6, hb6⟩
      have R6 := Lib.hid ho6.row
      have R56 := Lib.hid (R5.out.next hb6)
      have B6 : Below w.heap.size w w6 := belowNext B5 hb6
      clear ho6 hb6
      go_wp2_with fail
      refine (eqLfS _ _ _ _ _ l _ R56.out R6.out HL.out (by omega)).mono ?_
      rintro e w7 ⟨rfl, hb7⟩
      have B7 : Below w.heap.size w w7 := belowNext B6 hb7
      go_wp2
      go_ret
      exact ⟨rfl, B7⟩
end Go.Proofs.Ytkpgfafmaoaefaa

/-
  The walk of the law of SequenceOfAddress.
-/
import Derived.Test.YtfakkibacepdeaaA7
namespace Go.Proofs.Ytfakkibacepdeaa
open Go.RowKit

set_option maxRecDepth 100000 in
set_option maxHeartbeats 2000000 in
theorem lawSeqAddr (A : Option Addr) (len cap : Nat) (l : List Int) (w : World) (hr : IntRow w w.heap.size A l) (hl : l.length = len) (hm : len ≤ 9223372036854775807) :
    Calls Try.prog 6 #[.slice A len cap] w fun e w' => e = .returned (.bool true) ∧ Below w.heap.size w w' := by
  subst hl
  by_cases h : (1048576 : Int) < (l.length : Int)
  · clear hr
    have h2 : (l.length : Int) > 1048576 := h
    go_enter Try.func6, Try.ntmps6
    go_wp2
    go_ret
    exact ⟨rfl, Below.refl _ _⟩
  · have hlt : l.length ≤ 1048576 := by omega
    have h2 : ¬ ((l.length : Int) > 1048576) := h
    have HT : Hid (∀ W, Below w.heap.size w W → Calls Try.prog 63 #[.slice A l.length cap] W fun e w' => e = .returned (.slice (some ⟨W.heap.size, 0, none⟩) l.length l.length) ∧ IntRow w' w'.heap.size (some ⟨W.heap.size, 0, none⟩) l ∧ Below W.heap.size W w') :=
      Lib.hid (fun W hB => toI64 A l.length cap l W ((hr.below hB).more hB.size) rfl hlt)
    have HSp := Lib.hid (fun (g : Nat) (W : World) (hr' : IntRow W W.heap.size (some ⟨g, 0, none⟩) l) => specSeqAddr (some ⟨g, 0, none⟩) l.length l W hr' hlt)
    have HIm := Lib.hid (fun (g : Nat) (W : World) (hr' : IntRow W W.heap.size (some ⟨g, 0, none⟩) l) => implSeqAddr (some ⟨g, 0, none⟩) l.length l W hr' hlt (Nat.le_refl _))
    have hlt2 : l.length ≤ 4611686018427387904 := by omega
    generalize addrR l = X at *
    generalize addrC l = C at *
    clear hr
    go_enter Try.func6, Try.ntmps6
    go_wp2_with fail
    refine (HT.out _ (Below.refl _ _)).mono ?_
    rintro e w1 ⟨rfl, hr1, hb1⟩
    go_wp2_with fail
    refine (HSp.out _ _ hr1).mono ?_
    rintro e w2 ⟨rfl, hb2⟩
    have B2 : Below w.heap.size w w2 := belowNext hb1 hb2
    clear hr1 hb1 hb2
    go_wp2_with fail
    refine (HT.out _ ?_).mono ?_
    · (repeat' (first | (with_reducible exact Below.refl _ _) | (with_reducible assumption) | (with_reducible refine belowNext ?_ (by with_reducible assumption)) | (with_reducible refine belowAlloc ?_ _) | (with_reducible refine Below.drew ?_) | (with_reducible refine below_drewN ?_ _) | (with_reducible refine Below.setCell ?_ ?_ _) | go_size | (with_reducible refine sizeOf' ?_) | (with_reducible refine sizeAdd ?_) | (dsimp only; first | (with_reducible refine sizeOf' ?_) | (with_reducible refine sizeAdd ?_))))
    rintro e w4 ⟨rfl, hr4, hb4⟩
    have m0 : w4.cell? ⟨w2.heap.size, 0, none⟩ = some (.string (bs [])) := cellThru hb4 (by simp <;> omega) (by simp [go_sem])
    have m1 : w4.cell? ⟨w2.heap.size, 1, none⟩ = some (.string (bs X)) := cellThru hb4 (by simp <;> omega) (by simp [go_sem])
    have z4 : w2.heap.size < w4.heap.size := by have := hb4.size; simp at this; omega
    have B4 : Below w.heap.size w w4 := by
      (repeat' (first | (with_reducible exact Below.refl _ _) | (with_reducible assumption) | (with_reducible refine belowNext ?_ (by with_reducible assumption)) | (with_reducible refine belowAlloc ?_ _) | (with_reducible refine Below.drew ?_) | (with_reducible refine below_drewN ?_ _) | (with_reducible refine Below.setCell ?_ ?_ _) | go_size | (with_reducible refine sizeOf' ?_) | (with_reducible refine sizeAdd ?_) | (dsimp only; first | (with_reducible refine sizeOf' ?_) | (with_reducible refine sizeAdd ?_))))
    clear hb4 B2
    generalize w2.heap.size = P at *
    try simp only [World.size_alloc] at hr4 ⊢
    have HR4 := Lib.hid hr4
    go_wp2_with fail
    refine (HIm.out _ _ hr4).mono ?_
    rintro e w5 ⟨rfl, hb5⟩
    have m0 := cellThru hb5 z4 m0
    have m1 := cellThru hb5 z4 m1
    have R5 := Lib.hid ((HR4.out.below hb5).more hb5.size)
    have z5 : P < w5.heap.size := Nat.lt_of_lt_of_le z4 hb5.size
    have B5 : Below w.heap.size w w5 := belowNext B4 hb5
    clear hr4 HR4 hb5 B4 z4
    go_wp2_with fail
    refine (eqSeqSameA _ _ _).mono ?_
    rintro e w6 ⟨rfl, hb6⟩
    have b56 : Below w5.heap.size w5 w6 := by
      (repeat' (first | (with_reducible exact Below.refl _ _) | (with_reducible assumption) | (with_reducible refine belowNext ?_ (by with_reducible assumption)) | (with_reducible refine belowAlloc ?_ _) | (with_reducible refine Below.drew ?_) | (with_reducible refine below_drewN ?_ _) | (with_reducible refine Below.setCell ?_ ?_ _) | go_size | (with_reducible refine sizeOf' ?_) | (with_reducible refine sizeAdd ?_) | (dsimp only; first | (with_reducible refine sizeOf' ?_) | (with_reducible refine sizeAdd ?_))))
    have B6 : Below w.heap.size w w6 := belowNext B5 b56
    have R6 := Lib.hid ((R5.out.below b56).more b56.size)
    clear hb6 b56 R5 B5 m0 m1 z5
    go_wp2_with fail
    refine (HT.out _ B6).mono ?_
    rintro e w7 ⟨rfl, hr7, hb7⟩
    have R7 := Lib.hid ((R6.out.below hb7).more hb7.size)
    have B7 : Below w.heap.size w w7 := belowNext B6 hb7
    have Y7 := Lib.hid hr7
    clear hr7 hb7 R6 B6
    go_wp2_with fail
    refine (eqIntS _ _ _ _ _ l _ R7.out Y7.out rfl hlt2).mono ?_
    rintro e w8 ⟨rfl, hn8⟩
    obtain ⟨j, rfl⟩ := hn8.out
    go_wp2
    go_ret
    exact ⟨rfl, below_drewN B7 j⟩
end Go.Proofs.Ytfakkibacepdeaa

/-
  The walk of the law of RotationOfSet: a list of angles, the answer a number and a code; written by genQ6.py.
-/
import Derived.Test.YtlmgpecfbpcgaaaQ5
namespace Go.Proofs.Ytlmgpecfbpcgaaa
open Go.RowKit

set_option maxRecDepth 100000 in
set_option maxHeartbeats 2000000 in
theorem lawRotationOfSet (A : Option Addr) (len cap : Nat) (l : List (Int × Int)) (w : World) (hr : AngRow w w.heap.size A l) (hl : l.length = len) (hm : len ≤ 9223372036854775807) :
    Calls Try.prog 11 #[.slice A len cap] w fun e w' => e = .returned (.bool true) ∧ Below w.heap.size w w' := by
  subst hl
  have HZ := Lib.hid (fun w => szAng A l.length cap 1048576 w (by omega) (by omega) hm)
  by_cases h : (1048576 : Int) < (l.length : Int)
  · rw [if_pos h] at HZ
    clear hr h
    go_enter Try.func11, Try.ntmps11
    go_wp2_with fail
    refine (HZ.out _).mono ?_
    rintro e w1 ⟨rfl, rfl⟩
    go_wp2
    go_ret
    exact ⟨rfl, Below.refl _ _⟩
  · rw [if_neg h] at HZ
    have hlt : l.length ≤ 1048576 := by omega
    have nn : ¬ ((1048576 : Int) - (l.length : Int) < 0) := by omega
    obtain ⟨R, C, hIs⟩ := rs_ex l
    have HT : Hid (∀ W, Below w.heap.size w W → Calls Try.prog 42 #[.slice A l.length cap] W fun e w' => e = .returned (.slice (some ⟨W.heap.size, 0, none⟩) l.length l.length) ∧ AngOwn w' W.heap.size (some ⟨W.heap.size, 0, none⟩) l ∧ Below W.heap.size W w' ∧ W.heap.size < w'.heap.size) :=
      Lib.hid (fun W hB => toAngSX A l.length cap l W ((hr.below hB).more hB.size) rfl hlt)
    have HSp := Lib.hid (fun (g : Nat) (W : World) (hr' : AngRow W W.heap.size (some ⟨g, 0, none⟩) l) => specRotOf (some ⟨g, 0, none⟩) l.length l.length l W hr' rfl (by omega) R C hIs)
    have HIm := Lib.hid (fun (g : Nat) (W : World) (hr' : AngRow W W.heap.size (some ⟨g, 0, none⟩) l) => implRotOf (some ⟨g, 0, none⟩) l.length l.length l W hr' rfl (by omega) R C hIs)
    clear hr h hIs
    generalize hleft : (1048576 : Int) - (l.length : Int) = left at *
    clear hleft
    go_enter Try.func11, Try.ntmps11
    go_wp2_with fail
    refine (HZ.out _).mono ?_
    rintro e w1 ⟨rfl, rfl⟩
    go_wp2_with fail
    refine (HT.out _ (Below.refl _ _)).mono ?_
    rintro e w2 ⟨rfl, ho2, hb2, _⟩
    have R2 := Lib.hid ho2.row
    clear ho2
    go_wp2_with fail
    refine (HSp.out _ _ R2.out).mono ?_
    rintro e w3 ⟨rfl, hb3⟩
    have K3 : Below w.heap.size w w3 := belowNext hb2 hb3
    clear hb2 hb3 R2
    go_wp2_with fail
    refine (HT.out _ K3).mono ?_
    rintro e w4 ⟨rfl, ho4, hb4, _⟩
    have X4 := Lib.hid ho4.row
    have K4 : Below w.heap.size w w4 := belowNext K3 hb4
    clear ho4 hb4 K3
    obtain ⟨G, hG⟩ : ∃ G, w3.heap.size = G := ⟨_, rfl⟩
    rw [hG] at X4
    try rw [hG]
    clear hG
    go_wp2_with fail
    refine (HIm.out _ _ X4.out).mono ?_
    rintro e w6 ⟨rfl, hb6⟩
    have X6 := Lib.hid (X4.out.next hb6)
    have K6 : Below w.heap.size w w6 := belowNext K4 hb6
    clear hb6 X4 K4
    go_wp2_with fail
    refine (HT.out _ K6).mono ?_
    rintro e w8 ⟨rfl, ho8, hb8, _⟩
    have X8 := Lib.hid (X6.out.next hb8)
    have Y8 := Lib.hid ho8.row
    have K8 : Below w.heap.size w w8 := belowNext K6 hb8
    clear hb8 X6 ho8 K6
    go_wp2_with fail
    refine (eqAngS _ _ _ _ _ l _ X8.out Y8.out rfl (by omega)).mono ?_
    rintro e w9 ⟨rfl, hb9⟩
    go_wp2
    go_ret
    exact ⟨rfl, belowNext K8 hb9⟩
end Go.Proofs.Ytlmgpecfbpcgaaa

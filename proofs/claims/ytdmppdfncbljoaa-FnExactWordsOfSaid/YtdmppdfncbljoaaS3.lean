/-
  Contracts: sequences told in the one way (the program's).
-/
import Derived.Test.YtdmppdfncbljoaaS2
namespace Go.Proofs.Ytdmppdfncbljoaa
open Go.RowKit

def strLen : Value → Nat
  | .string s => s.size
  | _ => 0
/-- A sequence as a value. -/
abbrev sqV (x y : Wd) : Value := .agg #[.string (bs x), .string (bs y)]
theorem byte_eq (x y : UInt8) : ((x.toNat : Int) == (y.toNat : Int)) = (x == y) := by
  rw [Bool.eq_iff_iff, beq_iff_eq, beq_iff_eq]
  constructor
  · intro h; exact UInt8.toNat_inj.1 (by omega)
  · intro h; rw [h]

theorem cloneS (x : Wd) (w : World) (h : x.length ≤ 281474976710656) :
    Calls Try.prog 220 #[.string (bs x)] w fun e w' => e = .returned (.string (bs x)) ∧ Below w.heap.size w w' := by
  have HC := Lib.hid (fun w => Try.stringslite_Clone (bs x) w (by rw [bs_size]; exact h))
  go_enter Try.func220, Try.ntmps220
  go_wp2_with fail
  refine (HC.out _).mono ?_
  rintro e w1 ⟨rfl, hb⟩
  go_wp2
  go_ret
  exact ⟨rfl, hb⟩

set_option maxHeartbeats 2000000 in
theorem implCanon (x y : Wd) (w : World) (h0 : 0 < y.length) (h1 : x.length + y.length ≤ 64) :
    Calls Try.prog 209 #[.string (bs x), .string (bs y)] w fun e w' => e = .returned (sqV (canon x y).1 (canon x y).2) ∧ Below w.heap.size w w' := by
  have HS := Lib.hid (fun w => implShort y w h0 (by omega))
  have hsl := shortW_len y h0
  have hsp := sp_le y h0
  have HR : Hid (rotTo x.length x (shortW y) = ((canon x y).1, (canon x y).2)) := Lib.hid rfl
  generalize (canon x y).1 = R1 at *
  generalize (canon x y).2 = R2 at *
  have hy : (shortW y).length ≤ 64 := by omega
  have hy0 : 0 < (shortW y).length := by omega
  generalize shortW y = y' at *
  obtain ⟨L, hL⟩ : ∃ L, y'.length = L := ⟨_, rfl⟩
  rw [hL] at hy hy0
  have hlen := fun W => lenS 9 3 y' Try.underlying9 W
  rw [hL] at hlen
  have HL := Lib.hid hL
  have hx : x.length ≤ 64 := by omega
  clear hL hsl hsp h0 h1
  go_enter Try.func209, Try.ntmps209
  go_wp2_with fail
  refine (HS.out _).mono ?_
  rintro e w1 ⟨rfl, hb1⟩
  have k0 : w1.cell? ⟨w.heap.size, 0, none⟩ = some (.string ⟨#[]⟩) := cellThru hb1 (by simp) (by simp [go_sem])
  have k1 : w1.cell? ⟨w.heap.size, 1, none⟩ = some (.string ⟨#[]⟩) := cellThru hb1 (by simp) (by simp [go_sem])
  have f0 : w1.frozen? ⟨w.heap.size, 0, none⟩ = false := frozThru hb1 (by simp) (by simp [go_sem])
  have f1 : w1.frozen? ⟨w.heap.size, 1, none⟩ = false := frozThru hb1 (by simp) (by simp [go_sem])
  have hz : w.heap.size < w1.heap.size := by have := hb1.size; simp at this; omega
  have B1 : Below w.heap.size w w1 := by
    (repeat' (first | (with_reducible exact Below.refl _ _) | (with_reducible assumption) | (with_reducible refine belowNext ?_ (by with_reducible assumption)) | (with_reducible refine belowAlloc ?_ _) | (with_reducible refine Below.drew ?_) | (with_reducible refine below_drewN ?_ _) | (with_reducible refine Below.setCell ?_ ?_ _) | go_size | (with_reducible refine sizeOf' ?_) | (with_reducible refine sizeAdd ?_) | (dsimp only; first | (with_reducible refine sizeOf' ?_) | (with_reducible refine sizeAdd ?_))))
  have HB := Lib.hid B1
  clear hb1 B1
  go_wp2
  go_loopw [0, 1] (fun p q wr => ∃ A B : Wd, A.length ≤ 64 ∧ B.length = L ∧ p = .string (bs A) ∧ q = .string (bs B) ∧ Hid (rotTo A.length A B = (R1, R2) ∧ ∃ j, wr = w1.drewN j)) (fun p _ _ => strLen p)
  case atStart => exact ⟨x, y', hx, HL.out, rfl, rfl, Lib.hid ⟨HR.out, 0, rfl⟩⟩
  case round =>
    obtain ⟨A, B, hA, hB, rfl, rfl, H⟩ := hrel
    obtain ⟨j, hj⟩ := H.out.2
    obtain ⟨a, ha⟩ : ∃ a, A.length = a := ⟨_, rfl⟩
    have HA := Lib.hid ha
    have HBl := Lib.hid hB
    have hlA := fun W => lenS 9 3 A Try.underlying9 W
    have hlB := fun W => lenS 9 3 B Try.underlying9 W
    rw [ha] at hA hlA
    rw [hB] at hlB
    have htl := bs_toList A
    have wL : IntKind.i64.wrap ((L : Int) - 1) = (L : Int) - 1 := IntWalk.i64_in _ (by omega)
    clear ha hB hlen
    by_cases h0 : 0 < a
    · have he1 : A.isEmpty = false := by
        cases A with
        | nil => have := HA.out; simp at this; omega
        | cons _ _ => rfl
      have he2 : (A == []) = false := by cases A with
        | nil => have := HA.out; simp at this; omega
        | cons _ _ => rfl
      have he3 : (A = []) = False := by simpa using he2
      have wa : IntKind.i64.wrap ((a : Int) - 1) = (a : Int) - 1 := IntWalk.i64_in _ (by omega)
      have x1 := fun W => idxS A (a - 1) ((a : Int) - 1) (by rw [HA.out]; omega) (by omega) W
      have x2 := fun W => idxS B (L - 1) ((L : Int) - 1) (by rw [HBl.out]; omega) (by omega) W
      have hq0 := byte_eq (A.getD (a - 1) 0) (B.getD (L - 1) 0)
      have HT : Hid (turnB A B = (A.getD (a - 1) 0 == B.getD (L - 1) 0)) := Lib.hid (by unfold turnB; rw [HA.out, HBl.out]; simp [h0])
      cases ht : (A.getD (a - 1) 0 == B.getD (L - 1) 0)
      · rw [ht] at HT
        have hq : (((A[a - 1]?.getD 0).toNat : Int) == ((B[L - 1]?.getD 0).toNat : Int)) = false := by rw [← List.getD_eq_getElem?_getD, ← List.getD_eq_getElem?_getD, hq0]; exact ht
        have HE : Hid ((A, B) = (R1, R2)) := Lib.hid ((rot_no HT.out).symm.trans H.out.1)
        subst hj
        go_wp2_with fail
        go_quiet (fail)
        go_wp2_with fail
        refine (cloneS A _ (by rw [HA.out]; omega)).mono ?_
        rintro e w2 ⟨rfl, hb2⟩
        have q0 := cellThru hb2 (by simpa using hz) k0
        have q1 := cellThru hb2 (by simpa using hz) k1
        have g0 := frozThru hb2 (by simpa using hz) f0
        have g1 := frozThru hb2 (by simpa using hz) f1
        have hz2 : w.heap.size < w2.heap.size := Nat.lt_of_lt_of_le hz hb2.size
        have HB2 := Lib.hid hb2
        clear hb2 k0 k1 f0 f1
        go_wp2_with fail
        refine (cloneS B _ (by rw [HBl.out]; omega)).mono ?_
        rintro e w3 ⟨rfl, hb3⟩
        have k0 := cellThru hb3 hz2 q0
        have k1 := cellThru hb3 hz2 q1
        have f0 := frozThru hb3 hz2 g0
        have f1 := frozThru hb3 hz2 g1
        have hz3 : w.heap.size < w3.heap.size := Nat.lt_of_lt_of_le hz2 hb3.size
        have HB3 := Lib.hid hb3
        clear hb3 q0 q1 g0 g1
        go_wp2
        refine bodyPost_ret (v := sqV A B) (by simp [results, Try.results209, go_sem, k0, k1]) rfl ⟨?_, ?_⟩
        · have e := HE.out
          simp only [Prod.mk.injEq] at e
          rw [e.1, e.2]
        · have hB := HB.out
          have hb2 := HB2.out
          have hb3 := HB3.out
          exact (((below_drewN hB _).trans (hb2.mono (by simpa using hB.size))).trans (hb3.mono (Nat.le_trans hB.size (by simpa using hb2.size)))).setCell (by simp) _ |>.setCell (by simp) _
      · rw [ht] at HT
        have hq : (((A[a - 1]?.getD 0).toNat : Int) == ((B[L - 1]?.getD 0).toNat : Int)) = true := by rw [← List.getD_eq_getElem?_getD, ← List.getD_eq_getElem?_getD, hq0]; exact ht
        have s1 := fun W => toS A (a - 1) ((a : Int) - 1) (by rw [HA.out]; omega) (by omega) W
        have s2 := fun W => fromS B (L - 1) ((L : Int) - 1) (by rw [HBl.out]; omega) (by omega) W
        have s3 := fun W => toS B (L - 1) ((L : Int) - 1) (by rw [HBl.out]; omega) (by omega) W
        have hd4 : (B.drop (L - 1)).length + (B.take (L - 1)).length ≤ 9223372036854775807 := by rw [List.length_drop, List.length_take, HBl.out]; omega
        have s4 := fun W => catO (B.drop (L - 1)) (B.take (L - 1)) hd4 W
        subst hj
        go_wp2_with fail
        go_quiet (fail)
        go_wp2_with fail
        go_quiet (fail)
        go_wp2_with fail
        go_roundw
        case rel =>
          refine ⟨A.take (a - 1), B.drop (L - 1) ++ B.take (L - 1), by rw [List.length_take, HA.out]; omega, by rw [List.length_append, List.length_drop, List.length_take, HBl.out]; omega, rfl, rfl, Lib.hid ⟨?_, _, by rw [World.drewN_drewN, World.drewN_drewN]⟩⟩
          have e := rot_yes HT.out
          rw [H.out.1] at e
          unfold turned at e
          rw [HA.out, HBl.out] at e
          exact e.symm
        case measure => simp only [strLen, bs_size, List.length_take, HA.out]; omega
    · obtain rfl : a = 0 := by omega
      have hA0 : A = [] := List.eq_nil_of_length_eq_zero HA.out
      have HE : Hid ((A, B) = (R1, R2)) := Lib.hid ((rot_no (by unfold turnB; rw [HA.out]; simp)).symm.trans H.out.1)
      have he1 : A.isEmpty = true := by rw [hA0]; rfl
      have he2 : (A == []) = true := by rw [hA0]; rfl
      have he3 : (A = []) = True := by simp [hA0]
      clear hA0
      subst hj
      go_wp2_with fail
      go_quiet (fail)
      go_wp2_with fail
      refine (cloneS A _ (by rw [HA.out]; omega)).mono ?_
      rintro e w2 ⟨rfl, hb2⟩
      have q0 := cellThru hb2 (by simpa using hz) k0
      have q1 := cellThru hb2 (by simpa using hz) k1
      have g0 := frozThru hb2 (by simpa using hz) f0
      have g1 := frozThru hb2 (by simpa using hz) f1
      have hz2 : w.heap.size < w2.heap.size := Nat.lt_of_lt_of_le hz hb2.size
      have HB2 := Lib.hid hb2
      clear hb2 k0 k1 f0 f1
      go_wp2_with fail
      refine (cloneS B _ (by rw [HBl.out]; omega)).mono ?_
      rintro e w3 ⟨rfl, hb3⟩
      have k0 := cellThru hb3 hz2 q0
      have k1 := cellThru hb3 hz2 q1
      have f0 := frozThru hb3 hz2 g0
      have f1 := frozThru hb3 hz2 g1
      have hz3 : w.heap.size < w3.heap.size := Nat.lt_of_lt_of_le hz2 hb3.size
      have HB3 := Lib.hid hb3
      clear hb3 q0 q1 g0 g1
      go_wp2
      refine bodyPost_ret (v := sqV A B) (by simp [results, Try.results209, go_sem, k0, k1]) rfl ⟨?_, ?_⟩
      · have e := HE.out
        simp only [Prod.mk.injEq] at e
        rw [e.1, e.2]
      · have hB := HB.out
        have hb2 := HB2.out
        have hb3 := HB3.out
        exact (((below_drewN hB _).trans (hb2.mono (by simpa using hB.size))).trans (hb3.mono (Nat.le_trans hB.size (by simpa using hb2.size)))).setCell (by simp) _ |>.setCell (by simp) _
end Go.Proofs.Ytdmppdfncbljoaa

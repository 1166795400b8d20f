/-
  The walk of the law of PullBackPast: two leaves, the answer a list of leaves.
-/
import Derived.Test.YtkpgfafmaoaefaaV15
namespace Go.Proofs.Ytkpgfafmaoaefaa
open Go.RowKit

theorem pb_len (a b c d e f g h : Int) : (pbL a b c d e f g h).length ≤ 1000000000000 := by
  unfold pbL
  split
  · split
    · simp
    · split
      · split <;> simp
      · simp
  · simp

/-- Two boxed leaves, kept. -/
structure Box8 (w W : World) (a b c d e f g h : Int) : Prop where
  z : w.heap.size + 1 < W.heap.size
  B : Below w.heap.size w W
  c0 : W.cell? ⟨w.heap.size, 0, none⟩ = some (.int .i64 a)
  c1 : W.cell? ⟨w.heap.size, 1, none⟩ = some (.int .i64 b)
  c2 : W.cell? ⟨w.heap.size, 2, none⟩ = some (.int .i64 c)
  c3 : W.cell? ⟨w.heap.size, 3, none⟩ = some (.int .i64 d)
  c4 : W.cell? ⟨w.heap.size + 1, 0, none⟩ = some (.int .i64 e)
  c5 : W.cell? ⟨w.heap.size + 1, 1, none⟩ = some (.int .i64 f)
  c6 : W.cell? ⟨w.heap.size + 1, 2, none⟩ = some (.int .i64 g)
  c7 : W.cell? ⟨w.heap.size + 1, 3, none⟩ = some (.int .i64 h)
theorem Box8.next {w W w1 : World} {a b c d e f g h : Int} {B : Nat} (H : Box8 w W a b c d e f g h) (hb : Below B W w1) (hB : w.heap.size + 1 < B) (hs : W.heap.size ≤ w1.heap.size) : Box8 w w1 a b c d e f g h :=
  ⟨Nat.lt_of_lt_of_le H.z hs, H.B.trans (hb.mono (by omega)), (hb.cell (p := ⟨_, _, none⟩) (by dsimp only; omega)).trans H.c0, (hb.cell (p := ⟨_, _, none⟩) (by dsimp only; omega)).trans H.c1, (hb.cell (p := ⟨_, _, none⟩) (by dsimp only; omega)).trans H.c2, (hb.cell (p := ⟨_, _, none⟩) (by dsimp only; omega)).trans H.c3,
    (hb.cell (p := ⟨_, _, none⟩) hB).trans H.c4, (hb.cell (p := ⟨_, _, none⟩) hB).trans H.c5, (hb.cell (p := ⟨_, _, none⟩) hB).trans H.c6, (hb.cell (p := ⟨_, _, none⟩) hB).trans H.c7⟩
theorem Box8.on {w W w1 : World} {a b c d e f g h : Int} (H : Box8 w W a b c d e f g h) (hb : Below W.heap.size W w1) : Box8 w w1 a b c d e f g h := H.next hb H.z hb.size
theorem Box8.all {w W : World} {a b c d e f g h : Int} (H : Box8 w W a b c d e f g h) : w.heap.size + 1 < W.heap.size ∧ Below w.heap.size w W ∧ W.cell? ⟨w.heap.size, 0, none⟩ = some (.int .i64 a) ∧ W.cell? ⟨w.heap.size, 1, none⟩ = some (.int .i64 b) ∧ W.cell? ⟨w.heap.size, 2, none⟩ = some (.int .i64 c) ∧ W.cell? ⟨w.heap.size, 3, none⟩ = some (.int .i64 d) ∧
      W.cell? ⟨w.heap.size + 1, 0, none⟩ = some (.int .i64 e) ∧ W.cell? ⟨w.heap.size + 1, 1, none⟩ = some (.int .i64 f) ∧ W.cell? ⟨w.heap.size + 1, 2, none⟩ = some (.int .i64 g) ∧ W.cell? ⟨w.heap.size + 1, 3, none⟩ = some (.int .i64 h) := ⟨H.z, H.B, H.c0, H.c1, H.c2, H.c3, H.c4, H.c5, H.c6, H.c7⟩
theorem Box8.of {w W : World} {a b c d e f g h : Int} (H : w.heap.size + 1 < W.heap.size ∧ Below w.heap.size w W ∧ W.cell? ⟨w.heap.size, 0, none⟩ = some (.int .i64 a) ∧ W.cell? ⟨w.heap.size, 1, none⟩ = some (.int .i64 b) ∧ W.cell? ⟨w.heap.size, 2, none⟩ = some (.int .i64 c) ∧ W.cell? ⟨w.heap.size, 3, none⟩ = some (.int .i64 d) ∧
      W.cell? ⟨w.heap.size + 1, 0, none⟩ = some (.int .i64 e) ∧ W.cell? ⟨w.heap.size + 1, 1, none⟩ = some (.int .i64 f) ∧ W.cell? ⟨w.heap.size + 1, 2, none⟩ = some (.int .i64 g) ∧ W.cell? ⟨w.heap.size + 1, 3, none⟩ = some (.int .i64 h)) : Box8 w W a b c d e f g h :=
  ⟨H.1, H.2.1, H.2.2.1, H.2.2.2.1, H.2.2.2.2.1, H.2.2.2.2.2.1, H.2.2.2.2.2.2.1, H.2.2.2.2.2.2.2.1, H.2.2.2.2.2.2.2.2.1, H.2.2.2.2.2.2.2.2.2⟩

set_option maxRecDepth 8000 in
set_option maxHeartbeats 4000000 in
theorem lawPullBackPast (a b c d : Int) (_ : (Lit.int .i64 a).wf = true) (_ : (Lit.int .i64 b).wf = true) (_ : (Lit.int .i64 c).wf = true) (_ : (Lit.int .i64 d).wf = true)
    (e f g h : Int) (_ : (Lit.int .i64 e).wf = true) (_ : (Lit.int .i64 f).wf = true) (_ : (Lit.int .i64 g).wf = true) (_ : (Lit.int .i64 h).wf = true) (w : World) :
    Calls Try.prog 9 #[leafV a b c d, leafV e f g h] w fun e' w' => e' = .returned (.bool true) ∧ Below w.heap.size w w' := by
  have hlen := pb_len a b c d e f g h
  have HA0 := fun w => specPb a b c d e f g h w
  have HB0 := fun w => implPb a b c d e f g h w
  generalize pbL a b c d e f g h = l at *
  generalize pbC a b c d e f g h = C at *
  obtain ⟨len, hl⟩ : ∃ len, l.length = len := ⟨_, rfl⟩
  have HA : Hid (∀ w : World, Calls Try.prog 36 #[leafV a b c d, leafV e f g h] w fun e' w' => ∃ A cap, e' = .returned (.tuple #[.slice A len cap, .int .i64 C]) ∧ LfOwn w' w.heap.size A l ∧ Below w.heap.size w w') := Lib.hid (fun w => (HA0 w).mono fun e' w' q => by rw [← hl]; exact q)
  have HB : Hid (∀ w : World, Calls Try.prog 37 #[leafV a b c d, leafV e f g h] w fun e' w' => ∃ A cap, e' = .returned (.tuple #[.slice A len cap, .int .i64 C]) ∧ LfOwn w' w.heap.size A l ∧ Below w.heap.size w w') := Lib.hid (fun w => (HB0 w).mono fun e' w' q => by rw [← hl]; exact q)
  rw [hl] at hlen
  have HL := Lib.hid hl
  clear hl HA0 HB0
  go_enter Try.func9, Try.ntmps9
  go_wp2_with fail
  have K0 : Box8 w ((w.alloc (.cells #[.int .i64 a, .int .i64 b, .int .i64 c, .int .i64 d] 25)).alloc (.cells #[.int .i64 e, .int .i64 f, .int .i64 g, .int .i64 h] 25)) a b c d e f g h := ⟨by simp, (by (repeat' (first | (with_reducible exact Below.refl _ _) | (with_reducible assumption) | (with_reducible refine belowNext ?_ (by with_reducible assumption)) | (with_reducible refine belowAlloc ?_ _) | (with_reducible refine Below.drew ?_) | (with_reducible refine below_drewN ?_ _) | (with_reducible refine Below.setCell ?_ ?_ _) | go_size | (with_reducible refine sizeOf' ?_) | (with_reducible refine sizeAdd ?_) | (dsimp only; first | (with_reducible refine sizeOf' ?_) | (with_reducible refine sizeAdd ?_))))), by simp [go_sem], by simp [go_sem], by simp [go_sem], by simp [go_sem], by simp [go_sem], by simp [go_sem], by simp [go_sem], by simp [go_sem]⟩
  go_region_held3 (fun w' => w.heap.size + 1 < w'.heap.size ∧ Below w.heap.size w w' ∧ w'.cell? ⟨w.heap.size, 0, none⟩ = some (.int .i64 a) ∧ w'.cell? ⟨w.heap.size, 1, none⟩ = some (.int .i64 b) ∧ w'.cell? ⟨w.heap.size, 2, none⟩ = some (.int .i64 c) ∧ w'.cell? ⟨w.heap.size, 3, none⟩ = some (.int .i64 d) ∧
      w'.cell? ⟨w.heap.size + 1, 0, none⟩ = some (.int .i64 e) ∧ w'.cell? ⟨w.heap.size + 1, 1, none⟩ = some (.int .i64 f) ∧ w'.cell? ⟨w.heap.size + 1, 2, none⟩ = some (.int .i64 g) ∧ w'.cell? ⟨w.heap.size + 1, 3, none⟩ = some (.int .i64 h))
      (first | (with_reducible assumption) | exact box8 (Below.refl _ _).drew K0.all | exact box8 (by assumption) (by assumption))
      (first
      | (go_at_call 16; (with_reducible refine (toLf a b c d _).mono ?_); rintro e' u1 ⟨rfl, hb1⟩; have hS1 := box8 hb1 (by first | with_reducible assumption | exact box8 (Below.refl _ _).drew K0.all))
      | (go_at_call 16; (with_reducible refine (toLf e f g h _).mono ?_); rintro e' u2 ⟨rfl, hb2⟩; have hS2 := box8 hb2 (by first | with_reducible assumption | exact box8 (Below.refl _ _).drew K0.all))
      | (go_at_call 36; (with_reducible refine (HA.out _).mono ?_); rintro e' w2 ⟨Aw2, capw2, rfl, haw2, hb3⟩; have hS3 := box8 hb3 (by with_reducible assumption)))
  have K2 := Box8.of hS3
  have R := Lib.hid haw2.row
  rename_i hHeld1
  clear hHeld1 hS1 hS2 hS3 hb1 hb2 hb3 haw2 K0
  go_wp2_with fail
  go_region_held3 (fun w' => w.heap.size + 1 < w'.heap.size ∧ Below w.heap.size w w' ∧ w'.cell? ⟨w.heap.size, 0, none⟩ = some (.int .i64 a) ∧ w'.cell? ⟨w.heap.size, 1, none⟩ = some (.int .i64 b) ∧ w'.cell? ⟨w.heap.size, 2, none⟩ = some (.int .i64 c) ∧ w'.cell? ⟨w.heap.size, 3, none⟩ = some (.int .i64 d) ∧
      w'.cell? ⟨w.heap.size + 1, 0, none⟩ = some (.int .i64 e) ∧ w'.cell? ⟨w.heap.size + 1, 1, none⟩ = some (.int .i64 f) ∧ w'.cell? ⟨w.heap.size + 1, 2, none⟩ = some (.int .i64 g) ∧ w'.cell? ⟨w.heap.size + 1, 3, none⟩ = some (.int .i64 h))
      (first | (with_reducible assumption) | exact box8 (Below.refl _ _).drew K2.all | exact box8 (by assumption) (by assumption))
      (first
      | (go_at_call 16; (with_reducible refine (toLf a b c d _).mono ?_); rintro e' u1 ⟨rfl, hb1⟩; have hS1 := box8 hb1 (by first | with_reducible assumption | exact box8 (Below.refl _ _).drew K2.all))
      | (go_at_call 16; (with_reducible refine (toLf e f g h _).mono ?_); rintro e' u2 ⟨rfl, hb2⟩; have hS2 := box8 hb2 (by first | with_reducible assumption | exact box8 (Below.refl _ _).drew K2.all))
      | (go_at_call 37; (with_reducible refine (HB.out _).mono ?_); rintro e' w4 ⟨Aw4, capw4, rfl, haw4, hb3⟩; have hS3 := box8 hb3 (by with_reducible assumption)))
  have K4 := Box8.of hS3
  have z23 : w2.heap.size ≤ u2.heap.size := Nat.le_trans hb1.size hb2.size
  have B24 : Below w2.heap.size w2 w4 := by
    (repeat' (first | (with_reducible exact Below.refl _ _) | (with_reducible assumption) | (with_reducible refine belowNext ?_ (by with_reducible assumption)) | (with_reducible refine belowAlloc ?_ _) | (with_reducible refine Below.drew ?_) | (with_reducible refine below_drewN ?_ _) | (with_reducible refine Below.setCell ?_ ?_ _) | go_size | (with_reducible refine sizeOf' ?_) | (with_reducible refine sizeAdd ?_) | (dsimp only; first | (with_reducible refine sizeOf' ?_) | (with_reducible refine sizeAdd ?_))))
  have R4 := Lib.hid (R.out.below B24)
  have Rs4 := Lib.hid (R4.out.more B24.size)
  have Q4 := Lib.hid haw4
  rename_i hHeld2
  clear hHeld2 hS1 hS2 hS3 hb1 hb2 hb3 haw4
  go_wp2_with fail
  refine (eqLfS _ _ _ _ _ l _ Q4.out.row Rs4.out HL.out (by omega)).mono ?_
  rintro e' w5 ⟨rfl, hb5⟩
  have K5 := K4.on hb5
  have R5 := Lib.hid (R4.out.below (hb5.mono B24.size))
  have Q5 := Lib.hid (Q4.out.next hb5)
  have B25 : Below w2.heap.size w2 w5 := belowNext B24 hb5
  clear hb5
  go_wp2_with fail
  refine (markLf _ _ _ l _ _ _ Q5.out HL.out (by omega) (by omega) hlen).mono ?_
  rintro e' w6 ⟨rfl, H6⟩
  have b6 := H6.out.2.mono z23
  have s6 := H6.out.2.size
  have K6 := K5.next b6 K2.z s6
  have R6 := Lib.hid (R5.out.below b6)
  have Q6 := Lib.hid H6.out.1
  have B26 : Below w2.heap.size w2 w6 := B25.trans b6
  have nn : (1 + 4 * (len : Int) < 0) = False := by simp; omega
  clear b6 H6 K5 K4
  go_wp2_with fail
  refine (heldLf _ _ _ _ _ Q6.out.row (by omega) (by omega) hlen).mono ?_
  rintro e' w7 ⟨rfl, rfl⟩
  go_wp2_with fail
  go_region_held3 (fun w' => w.heap.size + 1 < w'.heap.size ∧ Below w.heap.size w w' ∧ w'.cell? ⟨w.heap.size, 0, none⟩ = some (.int .i64 a) ∧ w'.cell? ⟨w.heap.size, 1, none⟩ = some (.int .i64 b) ∧ w'.cell? ⟨w.heap.size, 2, none⟩ = some (.int .i64 c) ∧ w'.cell? ⟨w.heap.size, 3, none⟩ = some (.int .i64 d) ∧
      w'.cell? ⟨w.heap.size + 1, 0, none⟩ = some (.int .i64 e) ∧ w'.cell? ⟨w.heap.size + 1, 1, none⟩ = some (.int .i64 f) ∧ w'.cell? ⟨w.heap.size + 1, 2, none⟩ = some (.int .i64 g) ∧ w'.cell? ⟨w.heap.size + 1, 3, none⟩ = some (.int .i64 h))
      (first | (with_reducible assumption) | exact box8 (Below.refl _ _).drew K6.all | exact box8 (by assumption) (by assumption))
      (first
      | (go_at_call 16; (with_reducible refine (toLf a b c d _).mono ?_); rintro e' u1 ⟨rfl, hb1⟩; have hS1 := box8 hb1 (by first | with_reducible assumption | exact box8 (Below.refl _ _).drew K6.all))
      | (go_at_call 16; (with_reducible refine (toLf e f g h _).mono ?_); rintro e' u2 ⟨rfl, hb2⟩; have hS2 := box8 hb2 (by first | with_reducible assumption | exact box8 (Below.refl _ _).drew K6.all))
      | (go_at_call 37; (with_reducible refine (HB.out _).mono ?_); rintro e' w9 ⟨Aw9, capw9, rfl, haw9, hb3⟩; have hS3 := box8 hb3 (by with_reducible assumption)))
  have B69 : Below w6.heap.size w6 w9 := by
    (repeat' (first | (with_reducible exact Below.refl _ _) | (with_reducible assumption) | (with_reducible refine belowNext ?_ (by with_reducible assumption)) | (with_reducible refine belowAlloc ?_ _) | (with_reducible refine Below.drew ?_) | (with_reducible refine below_drewN ?_ _) | (with_reducible refine Below.setCell ?_ ?_ _) | go_size | (with_reducible refine sizeOf' ?_) | (with_reducible refine sizeAdd ?_) | (dsimp only; first | (with_reducible refine sizeOf' ?_) | (with_reducible refine sizeAdd ?_))))
  have R9 := Lib.hid ((R6.out.below (B69.mono B26.size)).more (B26.trans (B69.mono B26.size)).size)
  have Q9 := Lib.hid haw9
  have Q69 := Lib.hid (Q6.out.next B69)
  have B29 : Below w2.heap.size w2 w9 := B26.trans (B69.mono B26.size)
  rename_i hHeld3
  clear hHeld3 hS1 hS2 hS3 hb1 hb2 hb3 haw9
  go_wp2_with fail
  refine (eqLfS _ _ _ _ _ l _ Q9.out.row R9.out HL.out (by omega)).mono ?_
  rintro e' w10 ⟨rfl, hb10⟩
  have Q10 := Lib.hid (Q69.out.next hb10)
  have B210 : Below w2.heap.size w2 w10 := belowNext B29 hb10
  have B10 : Below w.heap.size w w10 := K2.B.trans (B210.mono K2.B.size)
  clear hb10
  go_wp2_with fail
  refine (heldLf _ _ _ _ _ Q10.out.row (by omega) (by omega) hlen).mono ?_
  rintro e' w11 ⟨rfl, rfl⟩
  go_wp2
  go_ret
  exact ⟨rfl, B10⟩
end Go.Proofs.Ytkpgfafmaoaefaa

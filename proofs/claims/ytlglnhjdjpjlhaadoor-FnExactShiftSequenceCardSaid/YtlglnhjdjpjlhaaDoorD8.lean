/-
  Contracts: ShiftSequence, on both sides; the walk of its law.
-/
import Derived.Test.YtlglnhjdjpjlhaaDoorD5
import Derived.Test.YtlglnhjdjpjlhaaDoorD7
import Derived.StillTailTactics
namespace Go.Proofs.YtlglnhjdjpjlhaaDoor
open Go.RowKit

/-- The box of a sequence and, behind it, the cell of a result that is still empty. -/
structure BR (w : World) (x y : Wd) (W : World) : Prop where
  lt : w.heap.size + 1 < W.heap.size
  below : Below w.heap.size w W
  b0 : W.cell? ⟨w.heap.size, 0, none⟩ = some (.string (bs x))
  b1 : W.cell? ⟨w.heap.size, 1, none⟩ = some (.string (bs y))
  c0 : W.cell? ⟨w.heap.size + 1, 0, none⟩ = some (.string ⟨#[]⟩)
  c1 : W.cell? ⟨w.heap.size + 1, 1, none⟩ = some (.string ⟨#[]⟩)
  f0 : W.frozen? ⟨w.heap.size + 1, 0, none⟩ = false
  f1 : W.frozen? ⟨w.heap.size + 1, 1, none⟩ = false
theorem BR.next {w W w1 : World} {x y : Wd} (h : BR w x y W) (hb : Below W.heap.size W w1) : BR w x y w1 := by
  have hl := h.lt
  exact ⟨Nat.lt_of_lt_of_le h.lt hb.size, belowNext h.below hb, cellThru hb (by omega) h.b0, cellThru hb (by omega) h.b1, cellThru hb h.lt h.c0, cellThru hb h.lt h.c1, frozThru hb h.lt h.f0, frozThru hb h.lt h.f1⟩
theorem br0 (w : World) (x y : Wd) (T T' : TypeId) : BR w x y ((w.alloc (.cells #[.string (bs x), .string (bs y)] T)).alloc (.cells #[.string ⟨#[]⟩, .string ⟨#[]⟩] T')) :=
  ⟨by simp, belowAlloc (belowAlloc (Below.refl _ _) _) _, by simp [go_sem], by simp [go_sem], by simp [go_sem], by simp [go_sem], by simp [go_sem], by simp [go_sem]⟩

def shX (x y : Wd) : Wd := if isSeq x y = true then x.drop 1 else []
def shY (x y : Wd) : Wd := if isSeq x y = true then (if x.length = 0 then rot1 y else y) else []
def shC (x y : Wd) : Int := if isSeq x y = true then 0 else 1
theorem sh_no {x y : Wd} (h : isSeq x y = false) : shX x y = [] ∧ shY x y = [] ∧ shC x y = 1 := by
  unfold shX shY shC; rw [h]; simp
theorem sh_pre {x y : Wd} (h : isSeq x y = true) (hx : 0 < x.length) : shX x y = x.drop 1 ∧ shY x y = y ∧ shC x y = 0 := by
  unfold shX shY shC
  rw [if_pos h, if_pos h, if_pos h, if_neg (by omega)]
  exact ⟨rfl, rfl, rfl⟩
theorem sh_per {x y : Wd} (h : isSeq x y = true) (hx : x.length = 0) : shX x y = [] ∧ shY x y = rot1 y ∧ shC x y = 0 := by
  unfold shX shY shC
  rw [if_pos h, if_pos h, if_pos h, if_pos hx, List.eq_nil_of_length_eq_zero hx]
  exact ⟨rfl, rfl, rfl⟩

set_option maxHeartbeats 2000000 in
theorem implShift (x y : Wd) (w : World) (hxy : x.length + y.length ≤ 1048576) :
    Calls Tryd.prog 19 #[sqV x y] w fun e w' => e = .returned (.tuple #[sqV (shX x y) (shY x y), .int .i64 (shC x y)]) ∧ Below w.heap.size w w' := by
  have HA := Lib.hid (fun w => implIsSeq x y w hxy)
  have R0 := br0 w x y 26 26
  cases h : isSeq x y
  · obtain ⟨e1, e2, e3⟩ := sh_no h
    rw [e1, e2, e3]
    rw [h] at HA
    clear h e1 e2 e3
    go_enter Tryd.func19, Tryd.ntmps19
    go_wp2_with fail
    refine (HA.out _).mono ?_
    rintro e w2 ⟨rfl, hb2⟩
    have R2 := R0.next hb2
    clear hb2 R0
    obtain ⟨r1, r2, r3, r4, r5, r6, r7, r8⟩ := R2
    go_wp2
    refine bodyPost_ret (v := .tuple #[sqV [] [], .int .i64 1]) (by simp [results, Tryd.results19, go_sem, sqV, bs, r5, r6]) rfl ⟨rfl, ?_⟩
    (repeat' (first | (with_reducible exact Below.refl _ _) | (with_reducible assumption) | (with_reducible refine belowNext ?_ (by with_reducible assumption)) | (with_reducible refine belowAlloc ?_ _) | (with_reducible refine Below.drew ?_) | (with_reducible refine below_drewN ?_ _) | (with_reducible refine Below.setCell ?_ ?_ _) | go_size | (with_reducible refine sizeOf' ?_) | (with_reducible refine sizeAdd ?_) | (dsimp only; first | (with_reducible refine sizeOf' ?_) | (with_reducible refine sizeAdd ?_))))
  rw [h] at HA
  obtain ⟨_, _, hy0, h64, hcan⟩ := isSeq_yes h
  obtain ⟨y1, y2, y3, y4⟩ := emp_facts x
  by_cases hx : 0 < x.length
  · obtain ⟨e1, e2, e3⟩ := sh_pre h hx
    have HC := Lib.hid (fun w => implCanon (x.drop 1) y w hy0 (by rw [List.length_drop]; omega))
    simp only [canon_drop hy0 hcan] at HC
    have sl1 := fun W => fromS x 1 1 (by omega) rfl W
    rw [decide_eq_true hx] at y2 y3 y4
    rw [e1, e2, e3]
    clear h e1 e2 e3 hx hcan h64 hy0 hxy
    generalize x.drop 1 = x' at *
    go_enter Tryd.func19, Tryd.ntmps19
    go_wp2_with fail
    refine (HA.out _).mono ?_
    rintro e w2 ⟨rfl, hb2⟩
    have R2 := R0.next hb2
    clear hb2 R0
    obtain ⟨r1, r2, r3, r4, r5, r6, r7, r8⟩ := id R2
    go_wp2_with fail
    set_option maxRecDepth 8000 in
    go_still_tail 5, (by kernel_rfl)
    change wpList _ _ _ _ _ w2.drew
    clear r1 r2 r3 r4 r5 r6 r7 r8
    go_wp2_with fail
    refine (HC.out _).mono ?_
    rintro e w4 ⟨rfl, hb4⟩
    have R4 := (R2.next (Below.refl _ _).drew).next hb4
    clear hb4 R2
    obtain ⟨r1, r2, r3, r4, r5, r6, r7, r8⟩ := R4
    go_wp2
    refine bodyPost_ret (v := .tuple #[sqV x' y, .int .i64 0]) (by simp [results, Tryd.results19, go_sem, sqV, r5, r6]) rfl ⟨rfl, ?_⟩
    (repeat' (first | (with_reducible exact Below.refl _ _) | (with_reducible assumption) | (with_reducible refine belowNext ?_ (by with_reducible assumption)) | (with_reducible refine belowAlloc ?_ _) | (with_reducible refine Below.drew ?_) | (with_reducible refine below_drewN ?_ _) | (with_reducible refine Below.setCell ?_ ?_ _) | go_size | (with_reducible refine sizeOf' ?_) | (with_reducible refine sizeAdd ?_) | (dsimp only; first | (with_reducible refine sizeOf' ?_) | (with_reducible refine sizeAdd ?_))))
  · obtain ⟨e1, e2, e3⟩ := sh_per h (by omega)
    have hx0 : x = [] := List.eq_nil_of_length_eq_zero (by omega)
    have HC := Lib.hid (fun w => implCanon [] (rot1 y) w (by rw [rot1_len]; exact hy0) (by rw [rot1_len]; simp; omega))
    have hcr : canon [] (rot1 y) = ([], rot1 y) := canon_rot hy0 (by rw [hx0] at hcan; exact hcan)
    simp only [hcr] at HC
    have sl1 := fun W => fromS y 1 1 (by omega) rfl W
    have sl2 := fun W => toS y 1 1 (by omega) rfl W
    have sl3 : ∀ W, (Op.stringOp .add (bs (y.drop 1)) (bs (y.take 1))).run Tryd.prog W = .ok (.string (bs (rot1 y))) W := fun W => catO (y.drop 1) (y.take 1) (by rw [List.length_drop, List.length_take]; omega) W
    rw [decide_eq_false hx] at y2 y3 y4
    rw [e1, e2, e3]
    clear h e1 e2 e3 hx hcan h64 hy0 hxy hx0 hcr
    generalize rot1 y = y' at *
    generalize y.drop 1 = a at *
    generalize y.take 1 = b at *
    go_enter Tryd.func19, Tryd.ntmps19
    go_wp2_with fail
    refine (HA.out _).mono ?_
    rintro e w2 ⟨rfl, hb2⟩
    have R2 := R0.next hb2
    clear hb2 R0
    obtain ⟨r1, r2, r3, r4, r5, r6, r7, r8⟩ := id R2
    go_wp2_with fail
    set_option maxRecDepth 8000 in
    go_still_tail 7, (by kernel_rfl)
    change wpList _ _ _ _ _ w2.drew
    clear r1 r2 r3 r4 r5 r6 r7 r8
    go_wp2_with fail
    refine (HC.out _).mono ?_
    rintro e w4 ⟨rfl, hb4⟩
    have R4 := (R2.next (Below.refl _ _).drew).next hb4
    clear hb4 R2
    obtain ⟨r1, r2, r3, r4, r5, r6, r7, r8⟩ := R4
    go_wp2
    refine bodyPost_ret (v := .tuple #[sqV [] y', .int .i64 0]) (by simp [results, Tryd.results19, go_sem, sqV, bs, r5, r6]) rfl ⟨rfl, ?_⟩
    (repeat' (first | (with_reducible exact Below.refl _ _) | (with_reducible assumption) | (with_reducible refine belowNext ?_ (by with_reducible assumption)) | (with_reducible refine belowAlloc ?_ _) | (with_reducible refine Below.drew ?_) | (with_reducible refine below_drewN ?_ _) | (with_reducible refine Below.setCell ?_ ?_ _) | go_size | (with_reducible refine sizeOf' ?_) | (with_reducible refine sizeAdd ?_) | (dsimp only; first | (with_reducible refine sizeOf' ?_) | (with_reducible refine sizeAdd ?_))))

set_option maxHeartbeats 2000000 in
theorem specSh (x y : Wd) (w : World) (hy0 : 0 < y.length) (hxy : x.length + y.length ≤ 64) :
    Calls Tryd.prog 32 #[sqV x y] w fun e w' => e = .returned (sqV (x.drop 1) (if x.length = 0 then rot1 y else y)) ∧ Below w.heap.size w w' := by
  obtain ⟨y1, y2, y3, y4⟩ := emp_facts x
  have R0 := br0 w x y 26 26
  by_cases hx : 0 < x.length
  · have sl1 := fun W => fromS x 1 1 (by omega) rfl W
    rw [decide_eq_true hx] at y2 y3 y4
    rw [if_neg (by omega)]
    clear hx hxy hy0
    generalize x.drop 1 = x' at *
    go_enter Tryd.func32, Tryd.ntmps32
    obtain ⟨r1, r2, r3, r4, r5, r6, r7, r8⟩ := id R0
    go_wp2_with fail
    go_region
    all_goals go_wp2
    refine bodyPost_ret (v := sqV x' y) (by simp [results, Tryd.results32, go_sem, sqV]) rfl ⟨rfl, ?_⟩
    (repeat' (first | (with_reducible exact Below.refl _ _) | (with_reducible assumption) | (with_reducible refine belowNext ?_ (by with_reducible assumption)) | (with_reducible refine belowAlloc ?_ _) | (with_reducible refine Below.drew ?_) | (with_reducible refine below_drewN ?_ _) | (with_reducible refine Below.setCell ?_ ?_ _) | go_size | (with_reducible refine sizeOf' ?_) | (with_reducible refine sizeAdd ?_) | (dsimp only; first | (with_reducible refine sizeOf' ?_) | (with_reducible refine sizeAdd ?_))))
  · have hx0 : x = [] := List.eq_nil_of_length_eq_zero (by omega)
    have sl1 := fun W => fromS y 1 1 (by omega) rfl W
    have sl2 := fun W => toS y 1 1 (by omega) rfl W
    have sl3 : ∀ W, (Op.stringOp .add (bs (y.drop 1)) (bs (y.take 1))).run Tryd.prog W = .ok (.string (bs (rot1 y))) W := fun W => catO (y.drop 1) (y.take 1) (by rw [List.length_drop, List.length_take]; omega) W
    rw [decide_eq_false hx] at y2 y3 y4
    rw [if_pos (by omega)]
    have hd : x.drop 1 = [] := by rw [hx0]; rfl
    rw [hd]
    clear hx hxy hy0 hx0 hd
    generalize rot1 y = y' at *
    generalize y.drop 1 = a at *
    generalize y.take 1 = b at *
    go_enter Tryd.func32, Tryd.ntmps32
    obtain ⟨r1, r2, r3, r4, r5, r6, r7, r8⟩ := id R0
    go_wp2_with fail
    go_region
    all_goals go_wp2
    refine bodyPost_ret (v := sqV [] y') (by simp [results, Tryd.results32, go_sem, sqV, bs]) rfl ⟨rfl, ?_⟩
    (repeat' (first | (with_reducible exact Below.refl _ _) | (with_reducible assumption) | (with_reducible refine belowNext ?_ (by with_reducible assumption)) | (with_reducible refine belowAlloc ?_ _) | (with_reducible refine Below.drew ?_) | (with_reducible refine below_drewN ?_ _) | (with_reducible refine Below.setCell ?_ ?_ _) | go_size | (with_reducible refine sizeOf' ?_) | (with_reducible refine sizeAdd ?_) | (dsimp only; first | (with_reducible refine sizeOf' ?_) | (with_reducible refine sizeAdd ?_))))

set_option maxHeartbeats 2000000 in
theorem specShift (x y : Wd) (w : World) (hxy : x.length + y.length ≤ 1048576) :
    Calls Tryd.prog 18 #[sqV x y] w fun e w' => e = .returned (.tuple #[sqV (shX x y) (shY x y), .int .i64 (shC x y)]) ∧ Below w.heap.size w w' := by
  have HA := Lib.hid (fun w => specL01Seq x y w hxy)
  have R0 := br0 w x y 26 26
  cases h : isSeq x y
  · obtain ⟨e1, e2, e3⟩ := sh_no h
    rw [e1, e2, e3]
    rw [h] at HA
    clear h e1 e2 e3
    go_enter Tryd.func18, Tryd.ntmps18
    go_wp2_with fail
    refine (HA.out _).mono ?_
    rintro e w2 ⟨rfl, hb2⟩
    have R2 := R0.next hb2
    clear hb2 R0
    obtain ⟨r1, r2, r3, r4, r5, r6, r7, r8⟩ := R2
    go_wp2
    refine bodyPost_ret (v := .tuple #[sqV [] [], .int .i64 1]) (by simp [results, Tryd.results18, go_sem, sqV, bs, r5, r6]) rfl ⟨rfl, ?_⟩
    (repeat' (first | (with_reducible exact Below.refl _ _) | (with_reducible assumption) | (with_reducible refine belowNext ?_ (by with_reducible assumption)) | (with_reducible refine belowAlloc ?_ _) | (with_reducible refine Below.drew ?_) | (with_reducible refine below_drewN ?_ _) | (with_reducible refine Below.setCell ?_ ?_ _) | go_size | (with_reducible refine sizeOf' ?_) | (with_reducible refine sizeAdd ?_) | (dsimp only; first | (with_reducible refine sizeOf' ?_) | (with_reducible refine sizeAdd ?_))))
  · rw [h] at HA
    obtain ⟨_, _, hy0, h64, _⟩ := isSeq_yes h
    have HS := Lib.hid (fun w => specSh x y w hy0 h64)
    have e1 : shX x y = x.drop 1 := by unfold shX; rw [if_pos h]
    have e2 : shY x y = if x.length = 0 then rot1 y else y := by unfold shY; rw [if_pos h]
    have e3 : shC x y = 0 := by unfold shC; rw [if_pos h]
    rw [e1, e2, e3]
    clear h e1 e2 e3 h64 hy0 hxy
    generalize x.drop 1 = X at *
    generalize (if x.length = 0 then rot1 y else y) = Y at *
    go_enter Tryd.func18, Tryd.ntmps18
    go_wp2_with fail
    refine (HA.out _).mono ?_
    rintro e w2 ⟨rfl, hb2⟩
    have R2 := R0.next hb2
    clear hb2 R0
    obtain ⟨r1, r2, r3, r4, r5, r6, r7, r8⟩ := id R2
    go_wp2_with fail
    refine (HS.out _).mono ?_
    rintro e w4 ⟨rfl, hb4⟩
    have R4 := R2.next hb4
    clear hb4 R2 r1 r2 r3 r4 r5 r6 r7 r8
    obtain ⟨r1, r2, r3, r4, r5, r6, r7, r8⟩ := R4
    go_wp2
    refine bodyPost_ret (v := .tuple #[sqV X Y, .int .i64 0]) (by simp [results, Tryd.results18, go_sem, sqV, r5, r6]) rfl ⟨rfl, ?_⟩
    (repeat' (first | (with_reducible exact Below.refl _ _) | (with_reducible assumption) | (with_reducible refine belowNext ?_ (by with_reducible assumption)) | (with_reducible refine belowAlloc ?_ _) | (with_reducible refine Below.drew ?_) | (with_reducible refine below_drewN ?_ _) | (with_reducible refine Below.setCell ?_ ?_ _) | go_size | (with_reducible refine sizeOf' ?_) | (with_reducible refine sizeAdd ?_) | (dsimp only; first | (with_reducible refine sizeOf' ?_) | (with_reducible refine sizeAdd ?_))))

set_option maxHeartbeats 2000000 in
theorem lawShiftSequence (x y : Wd) (hx : x.length ≤ maxLen) (hy : y.length ≤ maxLen) (w : World) :
    Calls Tryd.prog 6 #[sqV x y] w fun e w' => e = .returned (.bool true) ∧ Below w.heap.size w w' := by
  have HZ := Lib.hid (fun w => szSeq x y w (by unfold maxLen at hx; omega) (by unfold maxLen at hy; omega))
  have HT := Lib.hid (fun w => toSeq x y w)
  rcases szQ_cases x y with h | ⟨h, hxy⟩
  · rw [h] at HZ
    clear h hx hy
    go_enter Tryd.func6, Tryd.ntmps6
    go_wp2_with fail
    refine (HZ.out _).mono ?_
    rintro e w2 ⟨rfl, hb2⟩
    have hS := keepQ hb2 keepQ0
    clear hb2
    obtain ⟨u1, u2, u3, u4⟩ := hS
    go_wp2
    go_ret
    exact ⟨rfl, u2⟩
  · have HA := Lib.hid (fun w => specShift x y w hxy)
    have HB := Lib.hid (fun w => implShift x y w hxy)
    generalize shX x y = X at *
    generalize shY x y = Y at *
    generalize shC x y = C at *
    have hlt : decide (szQ x y < 0) = false := by simp; omega
    generalize szQ x y = z at *
    clear h hx hy hxy
    go_enter Tryd.func6, Tryd.ntmps6
    go_wp2_with fail
    refine (HZ.out _).mono ?_
    rintro e w2 ⟨rfl, hb2⟩
    have hS := keepQ hb2 keepQ0
    clear hb2
    obtain ⟨u1, u2, u3, u4⟩ := id hS
    go_wp2_with fail
    refine (HT.out _).mono ?_
    rintro e w3 ⟨rfl, hb3⟩
    have hS3 := keepQ hb3 hS
    clear hb3 u1 u2 u3 u4 hS
    obtain ⟨u1, u2, u3, u4⟩ := id hS3
    go_wp2_with fail
    refine (HA.out _).mono ?_
    rintro e w4 ⟨rfl, hb4⟩
    have hS4 := keepQ hb4 hS3
    clear hb4 u1 u2 u3 u4 hS3
    obtain ⟨u1, u2, u3, u4⟩ := id hS4
    go_wp2_with fail
    refine (HT.out _).mono ?_
    rintro e w5 ⟨rfl, hb5⟩
    obtain ⟨hc5, hf5⟩ := bcell hb5
    have hz5 : w4.heap.size < w5.heap.size := by have := hb5.size; simp at this; omega
    have hy5 : w.heap.size < w5.heap.size := by omega
    go_wp2_with fail
    refine (HB.out _).mono ?_
    rintro e w6 ⟨rfl, hb6⟩
    obtain ⟨hc6, hf6⟩ := bcell hb6
    have hz6 : w4.heap.size < w6.heap.size := by have := hb6.size; omega
    go_wp2_with fail
    refine (eqSq _ _ _).mono ?_
    rintro e w7 ⟨rfl, hb7⟩
    go_wp2
    go_ret
    refine ⟨rfl, ?_⟩
    (repeat' (first | (with_reducible exact Below.refl _ _) | (with_reducible assumption) | (with_reducible refine belowNext ?_ (by with_reducible assumption)) | (with_reducible refine belowAlloc ?_ _) | (with_reducible refine Below.drew ?_) | (with_reducible refine below_drewN ?_ _) | (with_reducible refine Below.setCell ?_ ?_ _) | go_size | (with_reducible refine sizeOf' ?_) | (with_reducible refine sizeAdd ?_) | (dsimp only; first | (with_reducible refine sizeOf' ?_) | (with_reducible refine sizeAdd ?_))))
end Go.Proofs.YtlglnhjdjpjlhaaDoor

/-
  Contracts: ray pairs as arguments; whether two of them cross.
-/
import Derived.Test.YtillliangojdkaaV5
namespace Go.Proofs.Ytillliangojdkaa
open Go.RowKit

set_option maxHeartbeats 1000000 in
theorem toRp (a b c d : Int) (w : World) :
    Calls Try.prog 48 #[leafV a b c d] w fun e w' => e = .returned (leafV a b c d) ∧ Below w.heap.size w w' := by
  go_enter Try.func48, Try.ntmps48
  go_wp2_with fail
  refine (toAngX _ _ _).mono ?_
  rintro e w1 ⟨rfl, rfl⟩
  go_wp2_with fail
  refine (toAngX _ _ _).mono ?_
  rintro e w2 ⟨rfl, rfl⟩
  go_wp2
  go_returns
  refine ⟨rfl, ?_⟩
  (repeat' (first | (with_reducible exact Below.refl _ _) | (with_reducible assumption) | (with_reducible refine belowNext ?_ (by with_reducible assumption)) | (with_reducible refine belowAlloc ?_ _) | (with_reducible refine Below.drew ?_) | (with_reducible refine below_drewN ?_ _) | (with_reducible refine Below.setCell ?_ ?_ _) | go_size | (with_reducible refine sizeOf' ?_) | (with_reducible refine sizeAdd ?_) | (dsimp only; first | (with_reducible refine sizeOf' ?_) | (with_reducible refine sizeAdd ?_))))

set_option maxHeartbeats 1000000 in
theorem eqRpSame (a b c d : Int) (w : World) :
    Calls Try.prog 36 #[leafV a b c d, leafV a b c d] w fun e w' => e = .returned (.bool true) ∧ Below w.heap.size w w' := by
  go_enter Try.func36, Try.ntmps36
  go_wp2_with fail
  refine (eqAngSame _ _ _).mono ?_
  rintro e w1 ⟨rfl, hb1⟩
  obtain ⟨hc1, hf1⟩ := bcell hb1
  have hz1 : w.heap.size < w1.heap.size := by have := hb1.size; simp at this; omega
  have hz1' : w.heap.size + 1 < w1.heap.size := by have := hb1.size; simp at this; omega
  go_wp2_with fail
  refine (eqAngSame _ _ _).mono ?_
  rintro e w2 ⟨rfl, hb2⟩
  go_wp2
  go_ret
  refine ⟨rfl, ?_⟩
  (repeat' (first | (with_reducible exact Below.refl _ _) | (with_reducible assumption) | (with_reducible refine belowNext ?_ (by with_reducible assumption)) | (with_reducible refine belowAlloc ?_ _) | (with_reducible refine Below.drew ?_) | (with_reducible refine below_drewN ?_ _) | (with_reducible refine Below.setCell ?_ ?_ _) | go_size | (with_reducible refine sizeOf' ?_) | (with_reducible refine sizeAdd ?_) | (dsimp only; first | (with_reducible refine sizeOf' ?_) | (with_reducible refine sizeAdd ?_))))

set_option maxHeartbeats 1000000 in
theorem specIns (n d a b c e : Int) (w : World) (h1 : angOk n d) (h2 : angOk a b) (h3 : angOk c e) :
    Calls Try.prog 102 #[ang n d, leafV a b c e] w fun e' w' => e' = .returned (.bool (arcB n d a b c e)) ∧ Below w.heap.size w w' := by
  have H1 := Lib.hid (fun w => specArc n d a b c e w h1 h2 h3)
  clear h1 h2 h3
  generalize arcB n d a b c e = R at *
  go_enter Try.func102, Try.ntmps102
  go_wp2_with fail
  refine (H1.out _).mono ?_
  rintro e w1 ⟨rfl, hb1⟩
  obtain ⟨hc1, hf1⟩ := bcell hb1
  have hz1_0 : w.heap.size < w1.heap.size := by have := hb1.size; first | omega | (simp at this; omega)
  have hz1_1 : w.heap.size + 1 < w1.heap.size := by have := hb1.size; first | omega | (simp at this; omega)
  go_wp2
  go_ret
  refine ⟨rfl, ?_⟩
  (repeat' (first | (with_reducible exact Below.refl _ _) | (with_reducible assumption) | (with_reducible refine belowNext ?_ (by with_reducible assumption)) | (with_reducible refine belowAlloc ?_ _) | (with_reducible refine Below.drew ?_) | (with_reducible refine below_drewN ?_ _) | (with_reducible refine Below.setCell ?_ ?_ _) | go_size | (with_reducible refine sizeOf' ?_) | (with_reducible refine sizeAdd ?_) | (dsimp only; first | (with_reducible refine sizeOf' ?_) | (with_reducible refine sizeAdd ?_))))

set_option maxHeartbeats 2000000 in
theorem specCrossP (a b c d e f g h : Int) (w : World) (hl : isLf a b c d = true) (hm : isLf e f g h = true) :
    Calls Try.prog 80 #[leafV a b c d, leafV e f g h] w fun e' w' => e' = .returned (.bool (crossB a b c d e f g h)) ∧ Below w.heap.size w w' := by
  obtain ⟨r1, r2, -⟩ := isLf_yes hl
  obtain ⟨r3, r4, -⟩ := isLf_yes hm
  have H1 := Lib.hid (fun w => specIns a b e f g h w (okOf r1) (okOf r3) (okOf r4))
  have H2 := Lib.hid (fun w => specIns c d e f g h w (okOf r2) (okOf r3) (okOf r4))
  have T := fun hs => cross_turn hl hm hs
  clear hl hm r1 r2 r3 r4
  rcases share_cases a b c d e f g h with ⟨s, e1⟩ | ⟨s, e1, e2⟩ | ⟨s, e1, e2, e3⟩ | ⟨s, e1, e2, e3, e4⟩ | ⟨s, e1, e2, e3, e4⟩
  case inr.inr.inr.inr =>
    have E : Hid (crossB a b c d e f g h = (arcB a b e f g h != arcB c d e f g h)) := Lib.hid (by unfold crossB; rw [s, T s]; simp)
    have Q1 := fun W => eqlAng a b e f W
    rw [e1] at Q1
    have Q2 := fun W => eqlAng a b g h W
    rw [e2] at Q2
    have Q3 := fun W => eqlAng c d e f W
    rw [e3] at Q3
    have Q4 := fun W => eqlAng c d g h W
    rw [e4] at Q4
    clear s e1 e2 e3 e4 T
    generalize crossB a b c d e f g h = R at *
    generalize arcB a b e f g h = U at *
    generalize arcB c d e f g h = V at *
    go_enter Try.func80, Try.ntmps80
    go_wp2_with fail
    go_region_held3 (fun w' => w.heap.size + 1 < w'.heap.size ∧ Below w.heap.size w w' ∧ w'.cell? ⟨w.heap.size, 0, none⟩ = some (.int .i64 a) ∧ w'.cell? ⟨w.heap.size, 1, none⟩ = some (.int .i64 b) ∧ w'.cell? ⟨w.heap.size, 2, none⟩ = some (.int .i64 c) ∧ w'.cell? ⟨w.heap.size, 3, none⟩ = some (.int .i64 d) ∧
        w'.cell? ⟨w.heap.size + 1, 0, none⟩ = some (.int .i64 e) ∧ w'.cell? ⟨w.heap.size + 1, 1, none⟩ = some (.int .i64 f) ∧ w'.cell? ⟨w.heap.size + 1, 2, none⟩ = some (.int .i64 g) ∧ w'.cell? ⟨w.heap.size + 1, 3, none⟩ = some (.int .i64 h))
        (first | exact box8 (by assumption) (by assumption) | (refine ⟨by simp, ?_, by simp [go_sem], by simp [go_sem], by simp [go_sem], by simp [go_sem], by simp [go_sem], by simp [go_sem], by simp [go_sem], by simp [go_sem]⟩; (repeat' (first | (with_reducible exact Below.refl _ _) | (with_reducible assumption) | (with_reducible refine belowNext ?_ (by with_reducible assumption)) | (with_reducible refine belowAlloc ?_ _) | (with_reducible refine Below.drew ?_) | (with_reducible refine below_drewN ?_ _) | (with_reducible refine Below.setCell ?_ ?_ _) | go_size | (with_reducible refine sizeOf' ?_) | (with_reducible refine sizeAdd ?_) | (dsimp only; first | (with_reducible refine sizeOf' ?_) | (with_reducible refine sizeAdd ?_))))))
        (first
        | (go_at_call 102; (with_reducible refine (H1.out _).mono ?_); rintro e w1 ⟨rfl, hb1⟩)
        | (go_at_call 102; (with_reducible refine (H2.out _).mono ?_); rintro e w2 ⟨rfl, hb2⟩))
    rename_i hHeld
    obtain ⟨hz, hB, -⟩ := hHeld
    go_wp2
    go_ret
    refine ⟨retB ?_, ?_⟩
    rotate_left
    · (repeat' (first | (with_reducible exact Below.refl _ _) | (with_reducible assumption) | (with_reducible refine belowNext ?_ (by with_reducible assumption)) | (with_reducible refine belowAlloc ?_ _) | (with_reducible refine Below.drew ?_) | (with_reducible refine below_drewN ?_ _) | (with_reducible refine Below.setCell ?_ ?_ _) | go_size | (with_reducible refine sizeOf' ?_) | (with_reducible refine sizeAdd ?_) | (dsimp only; first | (with_reducible refine sizeOf' ?_) | (with_reducible refine sizeAdd ?_))))
    · rw [E.out]; cases U <;> cases V <;> rfl
  all_goals
    have E : Hid (crossB a b c d e f g h = false) := Lib.hid (by unfold crossB; rw [s]; rfl)
    have Q1 := fun W => eqlAng a b e f W
    rw [e1] at Q1
    clear e1 T
    generalize crossB a b c d e f g h = R at *
  · clear s
    go_enter Try.func80, Try.ntmps80
    go_wp2
    go_ret
    refine ⟨retB E.out.symm, ?_⟩
    (repeat' (first | (with_reducible exact Below.refl _ _) | (with_reducible assumption) | (with_reducible refine belowNext ?_ (by with_reducible assumption)) | (with_reducible refine belowAlloc ?_ _) | (with_reducible refine Below.drew ?_) | (with_reducible refine below_drewN ?_ _) | (with_reducible refine Below.setCell ?_ ?_ _) | go_size | (with_reducible refine sizeOf' ?_) | (with_reducible refine sizeAdd ?_) | (dsimp only; first | (with_reducible refine sizeOf' ?_) | (with_reducible refine sizeAdd ?_))))
  · have Q2 := fun W => eqlAng a b g h W
    rw [e2] at Q2
    clear s e2
    go_enter Try.func80, Try.ntmps80
    go_wp2
    go_ret
    refine ⟨retB E.out.symm, ?_⟩
    (repeat' (first | (with_reducible exact Below.refl _ _) | (with_reducible assumption) | (with_reducible refine belowNext ?_ (by with_reducible assumption)) | (with_reducible refine belowAlloc ?_ _) | (with_reducible refine Below.drew ?_) | (with_reducible refine below_drewN ?_ _) | (with_reducible refine Below.setCell ?_ ?_ _) | go_size | (with_reducible refine sizeOf' ?_) | (with_reducible refine sizeAdd ?_) | (dsimp only; first | (with_reducible refine sizeOf' ?_) | (with_reducible refine sizeAdd ?_))))
  · have Q2 := fun W => eqlAng a b g h W
    rw [e2] at Q2
    have Q3 := fun W => eqlAng c d e f W
    rw [e3] at Q3
    clear s e2 e3
    go_enter Try.func80, Try.ntmps80
    go_wp2
    go_ret
    refine ⟨retB E.out.symm, ?_⟩
    (repeat' (first | (with_reducible exact Below.refl _ _) | (with_reducible assumption) | (with_reducible refine belowNext ?_ (by with_reducible assumption)) | (with_reducible refine belowAlloc ?_ _) | (with_reducible refine Below.drew ?_) | (with_reducible refine below_drewN ?_ _) | (with_reducible refine Below.setCell ?_ ?_ _) | go_size | (with_reducible refine sizeOf' ?_) | (with_reducible refine sizeAdd ?_) | (dsimp only; first | (with_reducible refine sizeOf' ?_) | (with_reducible refine sizeAdd ?_))))
  · have Q2 := fun W => eqlAng a b g h W
    rw [e2] at Q2
    have Q3 := fun W => eqlAng c d e f W
    rw [e3] at Q3
    have Q4 := fun W => eqlAng c d g h W
    rw [e4] at Q4
    clear s e2 e3 e4
    go_enter Try.func80, Try.ntmps80
    go_wp2
    go_ret
    refine ⟨retB E.out.symm, ?_⟩
    (repeat' (first | (with_reducible exact Below.refl _ _) | (with_reducible assumption) | (with_reducible refine belowNext ?_ (by with_reducible assumption)) | (with_reducible refine belowAlloc ?_ _) | (with_reducible refine Below.drew ?_) | (with_reducible refine below_drewN ?_ _) | (with_reducible refine Below.setCell ?_ ?_ _) | go_size | (with_reducible refine sizeOf' ?_) | (with_reducible refine sizeAdd ?_) | (dsimp only; first | (with_reducible refine sizeOf' ?_) | (with_reducible refine sizeAdd ?_))))

set_option maxHeartbeats 1000000 in
theorem implPC (a b c d e f g h : Int) (w : World) (hl : isLf a b c d = true) (hm : isLf e f g h = true) :
    Calls Try.prog 83 #[leafV a b c d, leafV e f g h] w fun e' w' => e' = .returned (.bool (crossB a b c d e f g h)) ∧ Below w.heap.size w w' := by
  have H1 := Lib.hid (fun w => implCross a b c d e f g h w hl hm)
  clear hl hm
  generalize crossB a b c d e f g h = R at *
  go_enter Try.func83, Try.ntmps83
  go_wp2_with fail
  refine (H1.out _).mono ?_
  rintro e w1 ⟨rfl, hb1⟩
  obtain ⟨hc1, hf1⟩ := bcell hb1
  have hz1_0 : w.heap.size < w1.heap.size := by have := hb1.size; first | omega | (simp at this; omega)
  have hz1_1 : w.heap.size + 1 < w1.heap.size := by have := hb1.size; first | omega | (simp at this; omega)
  go_wp2
  go_ret
  refine ⟨rfl, ?_⟩
  (repeat' (first | (with_reducible exact Below.refl _ _) | (with_reducible assumption) | (with_reducible refine belowNext ?_ (by with_reducible assumption)) | (with_reducible refine belowAlloc ?_ _) | (with_reducible refine Below.drew ?_) | (with_reducible refine below_drewN ?_ _) | (with_reducible refine Below.setCell ?_ ?_ _) | go_size | (with_reducible refine sizeOf' ?_) | (with_reducible refine sizeAdd ?_) | (dsimp only; first | (with_reducible refine sizeOf' ?_) | (with_reducible refine sizeAdd ?_))))

/-- What ArePairsCrossing answers: four angles; both in order; they cross. -/
def apA (a b c d e f g h : Int) : Bool := isAng a b && (isAng c d && (isAng e f && isAng g h))
def apL (a b c d e f g h : Int) : Bool := ltA a b c d && ltA e f g h
def apB (a b c d e f g h : Int) : Bool := apA a b c d e f g h && (apL a b c d e f g h && crossB a b c d e f g h)
def apC (a b c d e f g h : Int) : Int := if apA a b c d e f g h then (if apL a b c d e f g h then 0 else 2) else 1
theorem ap_1 {a b c d e f g h : Int} (h1 : apA a b c d e f g h = false) : apB a b c d e f g h = false ∧ apC a b c d e f g h = 1 := by unfold apB apC; rw [h1]; simp
theorem ap_2 {a b c d e f g h : Int} (h1 : apA a b c d e f g h = true) (h2 : apL a b c d e f g h = false) : apB a b c d e f g h = false ∧ apC a b c d e f g h = 2 := by unfold apB apC; rw [h1, h2]; simp
theorem ap_3 {a b c d e f g h : Int} (h1 : apA a b c d e f g h = true) (h2 : apL a b c d e f g h = true) : apB a b c d e f g h = crossB a b c d e f g h ∧ apC a b c d e f g h = 0 := by unfold apB apC; rw [h1, h2]; simp
theorem ap_cases (x y z u : Bool) : (x = false ∧ (x && (y && (z && u))) = false) ∨ (x = true ∧ y = false ∧ (x && (y && (z && u))) = false) ∨ (x = true ∧ y = true ∧ z = false ∧ (x && (y && (z && u))) = false) ∨ (x = true ∧ y = true ∧ z = true ∧ u = false ∧ (x && (y && (z && u))) = false) ∨
    (x = true ∧ y = true ∧ z = true ∧ u = true ∧ (x && (y && (z && u))) = true) := by cases x <;> cases y <;> cases z <;> cases u <;> simp
theorem ap_two (x y : Bool) : (x = false ∧ (x && y) = false) ∨ (x = true ∧ y = false ∧ (x && y) = false) ∨ (x = true ∧ y = true ∧ (x && y) = true) := by cases x <;> cases y <;> simp
theorem row4 (W : World) (T : TypeId) (a b c d e f p q : Int) (g : Nat) (hg : g = W.heap.size) : AngRow (W.alloc (.cells #[.int .i64 a, .int .i64 b, .int .i64 c, .int .i64 d, .int .i64 e, .int .i64 f, .int .i64 p, .int .i64 q] T)) (W.alloc (.cells #[.int .i64 a, .int .i64 b, .int .i64 c, .int .i64 d, .int .i64 e, .int .i64 f, .int .i64 p, .int .i64 q] T)).heap.size (some ⟨g, 0, none⟩) [(a, b), (c, d), (e, f), (p, q)] := by
  subst hg
  intro _
  refine ⟨W.heap.size, 0, rfl, by simp, fun i n m hi => ?_⟩
  match i, hi with
  | 0, hi => simp at hi; obtain ⟨rfl, rfl⟩ := hi; exact ⟨by simp [go_sem], by simp [go_sem]⟩
  | 1, hi => simp at hi; obtain ⟨rfl, rfl⟩ := hi; exact ⟨by simp [go_sem], by simp [go_sem]⟩
  | 2, hi => simp at hi; obtain ⟨rfl, rfl⟩ := hi; exact ⟨by simp [go_sem], by simp [go_sem]⟩
  | 3, hi => simp at hi; obtain ⟨rfl, rfl⟩ := hi; exact ⟨by simp [go_sem], by simp [go_sem]⟩
theorem all4 (a b c d e f p q : Int) : allAng [(a, b), (c, d), (e, f), (p, q)] = (isAng a b && (isAng c d && (isAng e f && isAng p q))) := by simp [allAng]

set_option maxHeartbeats 1000000 in
theorem specApc (a b c d e f g h : Int) (w : World) :
    Calls Try.prog 47 #[leafV a b c d, leafV e f g h] w fun e' w' => e' = .returned (.tuple #[.bool (apB a b c d e f g h), .int .i64 (apC a b c d e f g h)]) ∧ Below w.heap.size w w' := by
  have A1 := Lib.hid (fun w => specIs1 a b w)
  have A2 := Lib.hid (fun w => specIs1 c d w)
  have A3 := Lib.hid (fun w => specIs1 e f w)
  have A4 := Lib.hid (fun w => specIs1 g h w)
  rcases ap_cases (isAng a b) (isAng c d) (isAng e f) (isAng g h) with ⟨h1, s⟩ | ⟨h1, h2, s⟩ | ⟨h1, h2, h3, s⟩ | ⟨h1, h2, h3, h4, s⟩ | ⟨h1, h2, h3, h4, s⟩
  · have E := Lib.hid (ap_1 s)
    rw [h1] at A1
    clear s h1
    generalize apB a b c d e f g h = X at *
    generalize apC a b c d e f g h = Y at *
    go_enter Try.func47, Try.ntmps47
    go_wp2_with fail
    refine (A1.out _).mono ?_
    rintro e w1 ⟨rfl, hb1⟩
    obtain ⟨hc1, hf1⟩ := bcell hb1
    have hz1_0 : w.heap.size < w1.heap.size := by have := hb1.size; first | omega | (simp at this; omega)
    have hz1_1 : w.heap.size + 1 < w1.heap.size := by have := hb1.size; first | omega | (simp at this; omega)
    go_wp2
    go_ret2
    refine ⟨ret2B E.out.1.symm E.out.2.symm, ?_⟩
    (repeat' (first | (with_reducible exact Below.refl _ _) | (with_reducible assumption) | (with_reducible refine belowNext ?_ (by with_reducible assumption)) | (with_reducible refine belowAlloc ?_ _) | (with_reducible refine Below.drew ?_) | (with_reducible refine below_drewN ?_ _) | (with_reducible refine Below.setCell ?_ ?_ _) | go_size | (with_reducible refine sizeOf' ?_) | (with_reducible refine sizeAdd ?_) | (dsimp only; first | (with_reducible refine sizeOf' ?_) | (with_reducible refine sizeAdd ?_))))
  · have E := Lib.hid (ap_1 s)
    rw [h1] at A1
    rw [h2] at A2
    clear s h1 h2
    generalize apB a b c d e f g h = X at *
    generalize apC a b c d e f g h = Y at *
    go_enter Try.func47, Try.ntmps47
    go_wp2_with fail
    refine (A1.out _).mono ?_
    rintro e w1 ⟨rfl, hb1⟩
    obtain ⟨hc1, hf1⟩ := bcell hb1
    have hz1_0 : w.heap.size < w1.heap.size := by have := hb1.size; first | omega | (simp at this; omega)
    have hz1_1 : w.heap.size + 1 < w1.heap.size := by have := hb1.size; first | omega | (simp at this; omega)
    go_wp2_with fail
    refine (A2.out _).mono ?_
    rintro e w2 ⟨rfl, hb2⟩
    obtain ⟨hc2, hf2⟩ := bcell hb2
    have hz2_0 : w.heap.size < w2.heap.size := by have := hb2.size; first | omega | (simp at this; omega)
    have hz2_1 : w.heap.size + 1 < w2.heap.size := by have := hb2.size; first | omega | (simp at this; omega)
    go_wp2
    go_ret2
    refine ⟨ret2B E.out.1.symm E.out.2.symm, ?_⟩
    (repeat' (first | (with_reducible exact Below.refl _ _) | (with_reducible assumption) | (with_reducible refine belowNext ?_ (by with_reducible assumption)) | (with_reducible refine belowAlloc ?_ _) | (with_reducible refine Below.drew ?_) | (with_reducible refine below_drewN ?_ _) | (with_reducible refine Below.setCell ?_ ?_ _) | go_size | (with_reducible refine sizeOf' ?_) | (with_reducible refine sizeAdd ?_) | (dsimp only; first | (with_reducible refine sizeOf' ?_) | (with_reducible refine sizeAdd ?_))))
  · have E := Lib.hid (ap_1 s)
    rw [h1] at A1
    rw [h2] at A2
    rw [h3] at A3
    clear s h1 h2 h3
    generalize apB a b c d e f g h = X at *
    generalize apC a b c d e f g h = Y at *
    go_enter Try.func47, Try.ntmps47
    go_wp2_with fail
    refine (A1.out _).mono ?_
    rintro e w1 ⟨rfl, hb1⟩
    obtain ⟨hc1, hf1⟩ := bcell hb1
    have hz1_0 : w.heap.size < w1.heap.size := by have := hb1.size; first | omega | (simp at this; omega)
    have hz1_1 : w.heap.size + 1 < w1.heap.size := by have := hb1.size; first | omega | (simp at this; omega)
    go_wp2_with fail
    refine (A2.out _).mono ?_
    rintro e w2 ⟨rfl, hb2⟩
    obtain ⟨hc2, hf2⟩ := bcell hb2
    have hz2_0 : w.heap.size < w2.heap.size := by have := hb2.size; first | omega | (simp at this; omega)
    have hz2_1 : w.heap.size + 1 < w2.heap.size := by have := hb2.size; first | omega | (simp at this; omega)
    go_wp2_with fail
    refine (A3.out _).mono ?_
    rintro e w3 ⟨rfl, hb3⟩
    obtain ⟨hc3, hf3⟩ := bcell hb3
    have hz3_0 : w.heap.size < w3.heap.size := by have := hb3.size; first | omega | (simp at this; omega)
    have hz3_1 : w.heap.size + 1 < w3.heap.size := by have := hb3.size; first | omega | (simp at this; omega)
    go_wp2
    go_ret2
    refine ⟨ret2B E.out.1.symm E.out.2.symm, ?_⟩
    (repeat' (first | (with_reducible exact Below.refl _ _) | (with_reducible assumption) | (with_reducible refine belowNext ?_ (by with_reducible assumption)) | (with_reducible refine belowAlloc ?_ _) | (with_reducible refine Below.drew ?_) | (with_reducible refine below_drewN ?_ _) | (with_reducible refine Below.setCell ?_ ?_ _) | go_size | (with_reducible refine sizeOf' ?_) | (with_reducible refine sizeAdd ?_) | (dsimp only; first | (with_reducible refine sizeOf' ?_) | (with_reducible refine sizeAdd ?_))))
  · have E := Lib.hid (ap_1 s)
    rw [h1] at A1
    rw [h2] at A2
    rw [h3] at A3
    rw [h4] at A4
    clear s h1 h2 h3 h4
    generalize apB a b c d e f g h = X at *
    generalize apC a b c d e f g h = Y at *
    go_enter Try.func47, Try.ntmps47
    go_wp2_with fail
    refine (A1.out _).mono ?_
    rintro e w1 ⟨rfl, hb1⟩
    obtain ⟨hc1, hf1⟩ := bcell hb1
    have hz1_0 : w.heap.size < w1.heap.size := by have := hb1.size; first | omega | (simp at this; omega)
    have hz1_1 : w.heap.size + 1 < w1.heap.size := by have := hb1.size; first | omega | (simp at this; omega)
    go_wp2_with fail
    refine (A2.out _).mono ?_
    rintro e w2 ⟨rfl, hb2⟩
    obtain ⟨hc2, hf2⟩ := bcell hb2
    have hz2_0 : w.heap.size < w2.heap.size := by have := hb2.size; first | omega | (simp at this; omega)
    have hz2_1 : w.heap.size + 1 < w2.heap.size := by have := hb2.size; first | omega | (simp at this; omega)
    go_wp2_with fail
    refine (A3.out _).mono ?_
    rintro e w3 ⟨rfl, hb3⟩
    obtain ⟨hc3, hf3⟩ := bcell hb3
    have hz3_0 : w.heap.size < w3.heap.size := by have := hb3.size; first | omega | (simp at this; omega)
    have hz3_1 : w.heap.size + 1 < w3.heap.size := by have := hb3.size; first | omega | (simp at this; omega)
    go_wp2_with fail
    refine (A4.out _).mono ?_
    rintro e w4 ⟨rfl, hb4⟩
    obtain ⟨hc4, hf4⟩ := bcell hb4
    have hz4_0 : w.heap.size < w4.heap.size := by have := hb4.size; first | omega | (simp at this; omega)
    have hz4_1 : w.heap.size + 1 < w4.heap.size := by have := hb4.size; first | omega | (simp at this; omega)
    go_wp2
    go_ret2
    refine ⟨ret2B E.out.1.symm E.out.2.symm, ?_⟩
    (repeat' (first | (with_reducible exact Below.refl _ _) | (with_reducible assumption) | (with_reducible refine belowNext ?_ (by with_reducible assumption)) | (with_reducible refine belowAlloc ?_ _) | (with_reducible refine Below.drew ?_) | (with_reducible refine below_drewN ?_ _) | (with_reducible refine Below.setCell ?_ ?_ _) | go_size | (with_reducible refine sizeOf' ?_) | (with_reducible refine sizeAdd ?_) | (dsimp only; first | (with_reducible refine sizeOf' ?_) | (with_reducible refine sizeAdd ?_))))
  · have L1 := Lib.hid (fun w => specLess a b c d w (isAng_ok h1) (isAng_ok h2))
    have L2 := Lib.hid (fun w => specLess e f g h w (isAng_ok h3) (isAng_ok h4))
    have HC : Hid (ltA a b c d = true → ltA e f g h = true → ∀ w, Calls Try.prog 80 #[leafV a b c d, leafV e f g h] w fun e' w' => e' = .returned (.bool (crossB a b c d e f g h)) ∧ Below w.heap.size w w') := Lib.hid (fun q1 q2 w => specCrossP a b c d e f g h w (by unfold isLf; rw [h1, h2, q1]; rfl) (by unfold isLf; rw [h3, h4, q2]; rfl))
    rw [h1] at A1
    rw [h2] at A2
    rw [h3] at A3
    rw [h4] at A4
    clear h1 h2 h3 h4
    rcases ap_two (ltA a b c d) (ltA e f g h) with ⟨l1, t⟩ | ⟨l1, l2, t⟩ | ⟨l1, l2, t⟩
    · have E := Lib.hid (ap_2 s t)
      rw [l1] at L1
      clear s t HC l1 
      generalize apB a b c d e f g h = X at *
      generalize apC a b c d e f g h = Y at *
      go_enter Try.func47, Try.ntmps47
      go_wp2_with fail
      refine (A1.out _).mono ?_
      rintro e w1 ⟨rfl, hb1⟩
      obtain ⟨hc1, hf1⟩ := bcell hb1
      have hz1_0 : w.heap.size < w1.heap.size := by have := hb1.size; first | omega | (simp at this; omega)
      have hz1_1 : w.heap.size + 1 < w1.heap.size := by have := hb1.size; first | omega | (simp at this; omega)
      go_wp2_with fail
      refine (A2.out _).mono ?_
      rintro e w2 ⟨rfl, hb2⟩
      obtain ⟨hc2, hf2⟩ := bcell hb2
      have hz2_0 : w.heap.size < w2.heap.size := by have := hb2.size; first | omega | (simp at this; omega)
      have hz2_1 : w.heap.size + 1 < w2.heap.size := by have := hb2.size; first | omega | (simp at this; omega)
      go_wp2_with fail
      refine (A3.out _).mono ?_
      rintro e w3 ⟨rfl, hb3⟩
      obtain ⟨hc3, hf3⟩ := bcell hb3
      have hz3_0 : w.heap.size < w3.heap.size := by have := hb3.size; first | omega | (simp at this; omega)
      have hz3_1 : w.heap.size + 1 < w3.heap.size := by have := hb3.size; first | omega | (simp at this; omega)
      go_wp2_with fail
      refine (A4.out _).mono ?_
      rintro e w4 ⟨rfl, hb4⟩
      obtain ⟨hc4, hf4⟩ := bcell hb4
      have hz4_0 : w.heap.size < w4.heap.size := by have := hb4.size; first | omega | (simp at this; omega)
      have hz4_1 : w.heap.size + 1 < w4.heap.size := by have := hb4.size; first | omega | (simp at this; omega)
      go_wp2_with fail
      refine (L1.out _).mono ?_
      rintro e w5 ⟨rfl, hb5⟩
      obtain ⟨hc5, hf5⟩ := bcell hb5
      have hz5_0 : w.heap.size < w5.heap.size := by have := hb5.size; first | omega | (simp at this; omega)
      have hz5_1 : w.heap.size + 1 < w5.heap.size := by have := hb5.size; first | omega | (simp at this; omega)
      go_wp2
      go_ret2
      refine ⟨ret2B E.out.1.symm E.out.2.symm, ?_⟩
      (repeat' (first | (with_reducible exact Below.refl _ _) | (with_reducible assumption) | (with_reducible refine belowNext ?_ (by with_reducible assumption)) | (with_reducible refine belowAlloc ?_ _) | (with_reducible refine Below.drew ?_) | (with_reducible refine below_drewN ?_ _) | (with_reducible refine Below.setCell ?_ ?_ _) | go_size | (with_reducible refine sizeOf' ?_) | (with_reducible refine sizeAdd ?_) | (dsimp only; first | (with_reducible refine sizeOf' ?_) | (with_reducible refine sizeAdd ?_))))
    · have E := Lib.hid (ap_2 s t)
      rw [l1] at L1
      rw [l2] at L2
      clear s t HC l1 l2
      generalize apB a b c d e f g h = X at *
      generalize apC a b c d e f g h = Y at *
      go_enter Try.func47, Try.ntmps47
      go_wp2_with fail
      refine (A1.out _).mono ?_
      rintro e w1 ⟨rfl, hb1⟩
      obtain ⟨hc1, hf1⟩ := bcell hb1
      have hz1_0 : w.heap.size < w1.heap.size := by have := hb1.size; first | omega | (simp at this; omega)
      have hz1_1 : w.heap.size + 1 < w1.heap.size := by have := hb1.size; first | omega | (simp at this; omega)
      go_wp2_with fail
      refine (A2.out _).mono ?_
      rintro e w2 ⟨rfl, hb2⟩
      obtain ⟨hc2, hf2⟩ := bcell hb2
      have hz2_0 : w.heap.size < w2.heap.size := by have := hb2.size; first | omega | (simp at this; omega)
      have hz2_1 : w.heap.size + 1 < w2.heap.size := by have := hb2.size; first | omega | (simp at this; omega)
      go_wp2_with fail
      refine (A3.out _).mono ?_
      rintro e w3 ⟨rfl, hb3⟩
      obtain ⟨hc3, hf3⟩ := bcell hb3
      have hz3_0 : w.heap.size < w3.heap.size := by have := hb3.size; first | omega | (simp at this; omega)
      have hz3_1 : w.heap.size + 1 < w3.heap.size := by have := hb3.size; first | omega | (simp at this; omega)
      go_wp2_with fail
      refine (A4.out _).mono ?_
      rintro e w4 ⟨rfl, hb4⟩
      obtain ⟨hc4, hf4⟩ := bcell hb4
      have hz4_0 : w.heap.size < w4.heap.size := by have := hb4.size; first | omega | (simp at this; omega)
      have hz4_1 : w.heap.size + 1 < w4.heap.size := by have := hb4.size; first | omega | (simp at this; omega)
      go_wp2_with fail
      refine (L1.out _).mono ?_
      rintro e w5 ⟨rfl, hb5⟩
      obtain ⟨hc5, hf5⟩ := bcell hb5
      have hz5_0 : w.heap.size < w5.heap.size := by have := hb5.size; first | omega | (simp at this; omega)
      have hz5_1 : w.heap.size + 1 < w5.heap.size := by have := hb5.size; first | omega | (simp at this; omega)
      go_wp2_with fail
      refine (L2.out _).mono ?_
      rintro e w6 ⟨rfl, hb6⟩
      obtain ⟨hc6, hf6⟩ := bcell hb6
      have hz6_0 : w.heap.size < w6.heap.size := by have := hb6.size; first | omega | (simp at this; omega)
      have hz6_1 : w.heap.size + 1 < w6.heap.size := by have := hb6.size; first | omega | (simp at this; omega)
      go_wp2
      go_ret2
      refine ⟨ret2B E.out.1.symm E.out.2.symm, ?_⟩
      (repeat' (first | (with_reducible exact Below.refl _ _) | (with_reducible assumption) | (with_reducible refine belowNext ?_ (by with_reducible assumption)) | (with_reducible refine belowAlloc ?_ _) | (with_reducible refine Below.drew ?_) | (with_reducible refine below_drewN ?_ _) | (with_reducible refine Below.setCell ?_ ?_ _) | go_size | (with_reducible refine sizeOf' ?_) | (with_reducible refine sizeAdd ?_) | (dsimp only; first | (with_reducible refine sizeOf' ?_) | (with_reducible refine sizeAdd ?_))))
    · have E := Lib.hid (ap_3 s t)
      have HD := Lib.hid (HC.out l1 l2)
      rw [l1] at L1
      rw [l2] at L2
      clear s t HC l1 l2
      generalize apB a b c d e f g h = X at *
      generalize apC a b c d e f g h = Y at *
      generalize crossB a b c d e f g h = Z at *
      go_enter Try.func47, Try.ntmps47
      go_wp2_with fail
      refine (A1.out _).mono ?_
      rintro e w1 ⟨rfl, hb1⟩
      obtain ⟨hc1, hf1⟩ := bcell hb1
      have hz1_0 : w.heap.size < w1.heap.size := by have := hb1.size; first | omega | (simp at this; omega)
      have hz1_1 : w.heap.size + 1 < w1.heap.size := by have := hb1.size; first | omega | (simp at this; omega)
      go_wp2_with fail
      refine (A2.out _).mono ?_
      rintro e w2 ⟨rfl, hb2⟩
      obtain ⟨hc2, hf2⟩ := bcell hb2
      have hz2_0 : w.heap.size < w2.heap.size := by have := hb2.size; first | omega | (simp at this; omega)
      have hz2_1 : w.heap.size + 1 < w2.heap.size := by have := hb2.size; first | omega | (simp at this; omega)
      go_wp2_with fail
      refine (A3.out _).mono ?_
      rintro e w3 ⟨rfl, hb3⟩
      obtain ⟨hc3, hf3⟩ := bcell hb3
      have hz3_0 : w.heap.size < w3.heap.size := by have := hb3.size; first | omega | (simp at this; omega)
      have hz3_1 : w.heap.size + 1 < w3.heap.size := by have := hb3.size; first | omega | (simp at this; omega)
      go_wp2_with fail
      refine (A4.out _).mono ?_
      rintro e w4 ⟨rfl, hb4⟩
      obtain ⟨hc4, hf4⟩ := bcell hb4
      have hz4_0 : w.heap.size < w4.heap.size := by have := hb4.size; first | omega | (simp at this; omega)
      have hz4_1 : w.heap.size + 1 < w4.heap.size := by have := hb4.size; first | omega | (simp at this; omega)
      go_wp2_with fail
      refine (L1.out _).mono ?_
      rintro e w5 ⟨rfl, hb5⟩
      obtain ⟨hc5, hf5⟩ := bcell hb5
      have hz5_0 : w.heap.size < w5.heap.size := by have := hb5.size; first | omega | (simp at this; omega)
      have hz5_1 : w.heap.size + 1 < w5.heap.size := by have := hb5.size; first | omega | (simp at this; omega)
      go_wp2_with fail
      refine (L2.out _).mono ?_
      rintro e w6 ⟨rfl, hb6⟩
      obtain ⟨hc6, hf6⟩ := bcell hb6
      have hz6_0 : w.heap.size < w6.heap.size := by have := hb6.size; first | omega | (simp at this; omega)
      have hz6_1 : w.heap.size + 1 < w6.heap.size := by have := hb6.size; first | omega | (simp at this; omega)
      go_wp2_with fail
      refine (HD.out _).mono ?_
      rintro e w7 ⟨rfl, hb7⟩
      obtain ⟨hc7, hf7⟩ := bcell hb7
      have hz7_0 : w.heap.size < w7.heap.size := by have := hb7.size; first | omega | (simp at this; omega)
      have hz7_1 : w.heap.size + 1 < w7.heap.size := by have := hb7.size; first | omega | (simp at this; omega)
      go_wp2
      go_ret2
      refine ⟨ret2B E.out.1.symm E.out.2.symm, ?_⟩
      (repeat' (first | (with_reducible exact Below.refl _ _) | (with_reducible assumption) | (with_reducible refine belowNext ?_ (by with_reducible assumption)) | (with_reducible refine belowAlloc ?_ _) | (with_reducible refine Below.drew ?_) | (with_reducible refine below_drewN ?_ _) | (with_reducible refine Below.setCell ?_ ?_ _) | go_size | (with_reducible refine sizeOf' ?_) | (with_reducible refine sizeAdd ?_) | (dsimp only; first | (with_reducible refine sizeOf' ?_) | (with_reducible refine sizeAdd ?_))))

set_option maxHeartbeats 1000000 in
theorem implApc (a b c d e f g h : Int) (w : World) :
    Calls Try.prog 49 #[leafV a b c d, leafV e f g h] w fun e' w' => e' = .returned (.tuple #[.bool (apB a b c d e f g h), .int .i64 (apC a b c d e f g h)]) ∧ Below w.heap.size w w' := by
  have HA : Hid (∀ (w : World) B cap, AngRow w w.heap.size (some ⟨B, 0, none⟩) [(a, b), (c, d), (e, f), (g, h)] → Calls Try.prog 81 #[.slice (some ⟨B, 0, none⟩) 4 cap] w fun e' w' => e' = .returned (.bool (isAng a b && (isAng c d && (isAng e f && isAng g h)))) ∧ Below w.heap.size w w') := Lib.hid (fun w B cap hh => by
    have := areAng (some ⟨B, 0, none⟩) 4 cap [(a, b), (c, d), (e, f), (g, h)] w hh rfl (by omega)
    rw [all4] at this
    exact this)
  cases s : (isAng a b && (isAng c d && (isAng e f && isAng g h)))
  · have E := Lib.hid (ap_1 s)
    rw [s] at HA
    clear s
    generalize apB a b c d e f g h = X at *
    generalize apC a b c d e f g h = Y at *
    go_enter Try.func49, Try.ntmps49
    go_wp2_with fail
    refine (HA.out _ _ _ (by exact row4 _ _ _ _ _ _ _ _ _ _ _ (by simp))).mono ?_
    rintro e w1 ⟨rfl, hb1⟩
    obtain ⟨hc1, hf1⟩ := bcell hb1
    have hz1_0 : w.heap.size < w1.heap.size := by have := hb1.size; first | omega | (simp at this; omega)
    have hz1_1 : w.heap.size + 1 < w1.heap.size := by have := hb1.size; first | omega | (simp at this; omega)
    go_wp2
    go_ret2
    refine ⟨ret2B E.out.1.symm E.out.2.symm, ?_⟩
    (repeat' (first | (with_reducible exact Below.refl _ _) | (with_reducible assumption) | (with_reducible refine belowNext ?_ (by with_reducible assumption)) | (with_reducible refine belowAlloc ?_ _) | (with_reducible refine Below.drew ?_) | (with_reducible refine below_drewN ?_ _) | (with_reducible refine Below.setCell ?_ ?_ _) | go_size | (with_reducible refine sizeOf' ?_) | (with_reducible refine sizeAdd ?_) | (dsimp only; first | (with_reducible refine sizeOf' ?_) | (with_reducible refine sizeAdd ?_))))
  · obtain ⟨h1, h2, h3, h4⟩ : isAng a b = true ∧ isAng c d = true ∧ isAng e f = true ∧ isAng g h = true := by simpa using s
    have L1 := Lib.hid (fun w => cmpAng a b c d w (isAng_ok h1) (isAng_ok h2))
    have L2 := Lib.hid (fun w => cmpAng e f g h w (isAng_ok h3) (isAng_ok h4))
    have HC : Hid (ltA a b c d = true → ltA e f g h = true → ∀ w, Calls Try.prog 83 #[leafV a b c d, leafV e f g h] w fun e' w' => e' = .returned (.bool (crossB a b c d e f g h)) ∧ Below w.heap.size w w') := Lib.hid (fun q1 q2 w => implPC a b c d e f g h w (by unfold isLf; rw [h1, h2, q1]; rfl) (by unfold isLf; rw [h3, h4, q2]; rfl))
    have c1 := ltA_cmp a b c d
    have c2 := ltA_cmp e f g h
    rw [s] at HA
    clear h1 h2 h3 h4
    rcases ap_two (ltA a b c d) (ltA e f g h) with ⟨l1, t⟩ | ⟨l1, l2, t⟩ | ⟨l1, l2, t⟩
    · have E := Lib.hid (ap_2 s t)
      rw [l1] at c1
      have d1 := c1.symm
      simp at d1
      clear s t HC c1 c2 l1 
      generalize apB a b c d e f g h = X at *
      generalize apC a b c d e f g h = Y at *
      generalize cmpI (a * d) (c * b) = C1 at *
      generalize cmpI (e * h) (g * f) = C2 at *
      have n1 : ¬ C1 < 0 := by omega
      go_enter Try.func49, Try.ntmps49
      go_wp2_with fail
      refine (HA.out _ _ _ (by exact row4 _ _ _ _ _ _ _ _ _ _ _ (by simp))).mono ?_
      rintro e w1 ⟨rfl, hb1⟩
      obtain ⟨hc1, hf1⟩ := bcell hb1
      have hz1_0 : w.heap.size < w1.heap.size := by have := hb1.size; first | omega | (simp at this; omega)
      have hz1_1 : w.heap.size + 1 < w1.heap.size := by have := hb1.size; first | omega | (simp at this; omega)
      go_wp2_with fail
      refine (L1.out _).mono ?_
      rintro e w2 ⟨rfl, hb2⟩
      obtain ⟨hc2, hf2⟩ := bcell hb2
      have hz2_0 : w.heap.size < w2.heap.size := by have := hb2.size; first | omega | (simp at this; omega)
      have hz2_1 : w.heap.size + 1 < w2.heap.size := by have := hb2.size; first | omega | (simp at this; omega)
      go_wp2
      go_ret2
      refine ⟨ret2B E.out.1.symm E.out.2.symm, ?_⟩
      (repeat' (first | (with_reducible exact Below.refl _ _) | (with_reducible assumption) | (with_reducible refine belowNext ?_ (by with_reducible assumption)) | (with_reducible refine belowAlloc ?_ _) | (with_reducible refine Below.drew ?_) | (with_reducible refine below_drewN ?_ _) | (with_reducible refine Below.setCell ?_ ?_ _) | go_size | (with_reducible refine sizeOf' ?_) | (with_reducible refine sizeAdd ?_) | (dsimp only; first | (with_reducible refine sizeOf' ?_) | (with_reducible refine sizeAdd ?_))))
    · have E := Lib.hid (ap_2 s t)
      rw [l1] at c1
      have d1 := of_decide_eq_true c1.symm
      rw [l2] at c2
      have d2 := c2.symm
      simp at d2
      clear s t HC c1 c2 l1 l2
      generalize apB a b c d e f g h = X at *
      generalize apC a b c d e f g h = Y at *
      generalize cmpI (a * d) (c * b) = C1 at *
      generalize cmpI (e * h) (g * f) = C2 at *
      have n1 : ¬ 0 ≤ C1 := by omega
      go_enter Try.func49, Try.ntmps49
      go_wp2_with fail
      refine (HA.out _ _ _ (by exact row4 _ _ _ _ _ _ _ _ _ _ _ (by simp))).mono ?_
      rintro e w1 ⟨rfl, hb1⟩
      obtain ⟨hc1, hf1⟩ := bcell hb1
      have hz1_0 : w.heap.size < w1.heap.size := by have := hb1.size; first | omega | (simp at this; omega)
      have hz1_1 : w.heap.size + 1 < w1.heap.size := by have := hb1.size; first | omega | (simp at this; omega)
      go_wp2_with fail
      refine (L1.out _).mono ?_
      rintro e w2 ⟨rfl, hb2⟩
      obtain ⟨hc2, hf2⟩ := bcell hb2
      have hz2_0 : w.heap.size < w2.heap.size := by have := hb2.size; first | omega | (simp at this; omega)
      have hz2_1 : w.heap.size + 1 < w2.heap.size := by have := hb2.size; first | omega | (simp at this; omega)
      go_wp2_with fail
      refine (L2.out _).mono ?_
      rintro e w3 ⟨rfl, hb3⟩
      obtain ⟨hc3, hf3⟩ := bcell hb3
      have hz3_0 : w.heap.size < w3.heap.size := by have := hb3.size; first | omega | (simp at this; omega)
      have hz3_1 : w.heap.size + 1 < w3.heap.size := by have := hb3.size; first | omega | (simp at this; omega)
      go_wp2
      go_ret2
      refine ⟨ret2B E.out.1.symm E.out.2.symm, ?_⟩
      (repeat' (first | (with_reducible exact Below.refl _ _) | (with_reducible assumption) | (with_reducible refine belowNext ?_ (by with_reducible assumption)) | (with_reducible refine belowAlloc ?_ _) | (with_reducible refine Below.drew ?_) | (with_reducible refine below_drewN ?_ _) | (with_reducible refine Below.setCell ?_ ?_ _) | go_size | (with_reducible refine sizeOf' ?_) | (with_reducible refine sizeAdd ?_) | (dsimp only; first | (with_reducible refine sizeOf' ?_) | (with_reducible refine sizeAdd ?_))))
    · have E := Lib.hid (ap_3 s t)
      have HD := Lib.hid (HC.out l1 l2)
      rw [l1] at c1
      have d1 := of_decide_eq_true c1.symm
      rw [l2] at c2
      have d2 := of_decide_eq_true c2.symm
      clear s t HC c1 c2 l1 l2
      generalize apB a b c d e f g h = X at *
      generalize apC a b c d e f g h = Y at *
      generalize cmpI (a * d) (c * b) = C1 at *
      generalize cmpI (e * h) (g * f) = C2 at *
      generalize crossB a b c d e f g h = Z at *
      have n1 : ¬ 0 ≤ C1 := by omega
      have n2 : ¬ 0 ≤ C2 := by omega
      go_enter Try.func49, Try.ntmps49
      go_wp2_with fail
      refine (HA.out _ _ _ (by exact row4 _ _ _ _ _ _ _ _ _ _ _ (by simp))).mono ?_
      rintro e w1 ⟨rfl, hb1⟩
      obtain ⟨hc1, hf1⟩ := bcell hb1
      have hz1_0 : w.heap.size < w1.heap.size := by have := hb1.size; first | omega | (simp at this; omega)
      have hz1_1 : w.heap.size + 1 < w1.heap.size := by have := hb1.size; first | omega | (simp at this; omega)
      go_wp2_with fail
      refine (L1.out _).mono ?_
      rintro e w2 ⟨rfl, hb2⟩
      obtain ⟨hc2, hf2⟩ := bcell hb2
      have hz2_0 : w.heap.size < w2.heap.size := by have := hb2.size; first | omega | (simp at this; omega)
      have hz2_1 : w.heap.size + 1 < w2.heap.size := by have := hb2.size; first | omega | (simp at this; omega)
      go_wp2_with fail
      refine (L2.out _).mono ?_
      rintro e w3 ⟨rfl, hb3⟩
      obtain ⟨hc3, hf3⟩ := bcell hb3
      have hz3_0 : w.heap.size < w3.heap.size := by have := hb3.size; first | omega | (simp at this; omega)
      have hz3_1 : w.heap.size + 1 < w3.heap.size := by have := hb3.size; first | omega | (simp at this; omega)
      go_wp2_with fail
      refine (HD.out _).mono ?_
      rintro e w4 ⟨rfl, hb4⟩
      obtain ⟨hc4, hf4⟩ := bcell hb4
      have hz4_0 : w.heap.size < w4.heap.size := by have := hb4.size; first | omega | (simp at this; omega)
      have hz4_1 : w.heap.size + 1 < w4.heap.size := by have := hb4.size; first | omega | (simp at this; omega)
      go_wp2
      go_ret2
      refine ⟨ret2B E.out.1.symm E.out.2.symm, ?_⟩
      (repeat' (first | (with_reducible exact Below.refl _ _) | (with_reducible assumption) | (with_reducible refine belowNext ?_ (by with_reducible assumption)) | (with_reducible refine belowAlloc ?_ _) | (with_reducible refine Below.drew ?_) | (with_reducible refine below_drewN ?_ _) | (with_reducible refine Below.setCell ?_ ?_ _) | go_size | (with_reducible refine sizeOf' ?_) | (with_reducible refine sizeAdd ?_) | (dsimp only; first | (with_reducible refine sizeOf' ?_) | (with_reducible refine sizeAdd ?_))))

end Go.Proofs.Ytillliangojdkaa

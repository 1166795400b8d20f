/-
  Contracts: ray pairs as arguments; whether two of them cross.
-/
import Derived.Test.YtnciiodgkanpjaaV5
namespace Go.Proofs.Ytnciiodgkanpjaa
open Go.RowKit

set_option maxHeartbeats 1000000 in
theorem specIns (n d a b c e : Int) (w : World) (h1 : angOk n d) (h2 : angOk a b) (h3 : angOk c e) :
    Calls Try.prog 94 #[ang n d, leafV a b c e] w fun e' w' => e' = .returned (.bool (arcB n d a b c e)) ∧ Below w.heap.size w w' := by
  have H1 := Lib.hid (fun w => specArc n d a b c e w h1 h2 h3)
  clear h1 h2 h3
  generalize arcB n d a b c e = R at *
  go_enter Try.func94, Try.ntmps94
  go_wp2_with fail
  refine (H1.out _).mono ?_
  rintro e w1 ⟨rfl, hb1⟩
  obtain ⟨hc1, hf1⟩ := bcell hb1
  have hz1_0 : w.heap.size < w1.heap.size := by have := hb1.size; first | omega | (simp at this; omega)
  have hz1_1 : w.heap.size + 1 < w1.heap.size := by have := hb1.size; first | omega | (simp at this; omega)
  go_wp2
  go_ret
  refine ⟨rfl, ?_⟩
  (repeat' (first | (with_reducible exact Below.refl _ _) | (with_reducible assumption) | (with_reducible refine belowNext ?_ (by with_reducible assumption)) | (with_reducible refine belowAlloc ?_ _) | (with_reducible refine Below.drew ?_) | (with_reducible refine below_drewN ?_ _) | (with_reducible refine Below.setCell ?_ ?_ _) | go_size | (with_reducible refine sizeOf' ?_) | (with_reducible refine sizeAdd ?_) | (dsimp only; first | (with_reducible refine sizeOf' ?_) | (with_reducible refine sizeAdd ?_))))

set_option maxHeartbeats 2000000 in
theorem specCrossP (a b c d e f g h : Int) (w : World) (hl : isLf a b c d = true) (hm : isLf e f g h = true) :
    Calls Try.prog 112 #[leafV a b c d, leafV e f g h] w fun e' w' => e' = .returned (.bool (crossB a b c d e f g h)) ∧ Below w.heap.size w w' := by
  obtain ⟨r1, r2, -⟩ := isLf_yes hl
  obtain ⟨r3, r4, -⟩ := isLf_yes hm
  have H1 := Lib.hid (fun w => specIns a b e f g h w (okOf r1) (okOf r3) (okOf r4))
  have H2 := Lib.hid (fun w => specIns c d e f g h w (okOf r2) (okOf r3) (okOf r4))
  have T := fun hs => cross_turn hl hm hs
  clear hl hm r1 r2 r3 r4
  rcases share_cases a b c d e f g h with ⟨s, e1⟩ | ⟨s, e1, e2⟩ | ⟨s, e1, e2, e3⟩ | ⟨s, e1, e2, e3, e4⟩ | ⟨s, e1, e2, e3, e4⟩
  case inr.inr.inr.inr =>
    have E : Hid (crossB a b c d e f g h = (arcB a b e f g h != arcB c d e f g h)) := Lib.hid (by unfold crossB; rw [s, T s]; simp)
    have Q1 := fun W => eqlAng a b e f W
    rw [e1] at Q1
    have Q2 := fun W => eqlAng a b g h W
    rw [e2] at Q2
    have Q3 := fun W => eqlAng c d e f W
    rw [e3] at Q3
    have Q4 := fun W => eqlAng c d g h W
    rw [e4] at Q4
    clear s e1 e2 e3 e4 T
    generalize crossB a b c d e f g h = R at *
    generalize arcB a b e f g h = U at *
    generalize arcB c d e f g h = V at *
    go_enter Try.func112, Try.ntmps112
    go_wp2_with fail
    go_region_held3 (fun w' => w.heap.size + 1 < w'.heap.size ∧ Below w.heap.size w w' ∧ w'.cell? ⟨w.heap.size, 0, none⟩ = some (.int .i64 a) ∧ w'.cell? ⟨w.heap.size, 1, none⟩ = some (.int .i64 b) ∧ w'.cell? ⟨w.heap.size, 2, none⟩ = some (.int .i64 c) ∧ w'.cell? ⟨w.heap.size, 3, none⟩ = some (.int .i64 d) ∧
        w'.cell? ⟨w.heap.size + 1, 0, none⟩ = some (.int .i64 e) ∧ w'.cell? ⟨w.heap.size + 1, 1, none⟩ = some (.int .i64 f) ∧ w'.cell? ⟨w.heap.size + 1, 2, none⟩ = some (.int .i64 g) ∧ w'.cell? ⟨w.heap.size + 1, 3, none⟩ = some (.int .i64 h))
        (first | exact box8 (by assumption) (by assumption) | (refine ⟨by simp, ?_, by simp [go_sem], by simp [go_sem], by simp [go_sem], by simp [go_sem], by simp [go_sem], by simp [go_sem], by simp [go_sem], by simp [go_sem]⟩; (repeat' (first | (with_reducible exact Below.refl _ _) | (with_reducible assumption) | (with_reducible refine belowNext ?_ (by with_reducible assumption)) | (with_reducible refine belowAlloc ?_ _) | (with_reducible refine Below.drew ?_) | (with_reducible refine below_drewN ?_ _) | (with_reducible refine Below.setCell ?_ ?_ _) | go_size | (with_reducible refine sizeOf' ?_) | (with_reducible refine sizeAdd ?_) | (dsimp only; first | (with_reducible refine sizeOf' ?_) | (with_reducible refine sizeAdd ?_))))))
        (first
        | (go_at_call 94; (with_reducible refine (H1.out _).mono ?_); rintro e w1 ⟨rfl, hb1⟩)
        | (go_at_call 94; (with_reducible refine (H2.out _).mono ?_); rintro e w2 ⟨rfl, hb2⟩))
    rename_i hHeld
    obtain ⟨hz, hB, -⟩ := hHeld
    go_wp2
    go_ret
    refine ⟨retB ?_, ?_⟩
    rotate_left
    · (repeat' (first | (with_reducible exact Below.refl _ _) | (with_reducible assumption) | (with_reducible refine belowNext ?_ (by with_reducible assumption)) | (with_reducible refine belowAlloc ?_ _) | (with_reducible refine Below.drew ?_) | (with_reducible refine below_drewN ?_ _) | (with_reducible refine Below.setCell ?_ ?_ _) | go_size | (with_reducible refine sizeOf' ?_) | (with_reducible refine sizeAdd ?_) | (dsimp only; first | (with_reducible refine sizeOf' ?_) | (with_reducible refine sizeAdd ?_))))
    · rw [E.out]; cases U <;> cases V <;> rfl
  all_goals
    have E : Hid (crossB a b c d e f g h = false) := Lib.hid (by unfold crossB; rw [s]; rfl)
    have Q1 := fun W => eqlAng a b e f W
    rw [e1] at Q1
    clear e1 T
    generalize crossB a b c d e f g h = R at *
  · clear s
    go_enter Try.func112, Try.ntmps112
    go_wp2
    go_ret
    refine ⟨retB E.out.symm, ?_⟩
    (repeat' (first | (with_reducible exact Below.refl _ _) | (with_reducible assumption) | (with_reducible refine belowNext ?_ (by with_reducible assumption)) | (with_reducible refine belowAlloc ?_ _) | (with_reducible refine Below.drew ?_) | (with_reducible refine below_drewN ?_ _) | (with_reducible refine Below.setCell ?_ ?_ _) | go_size | (with_reducible refine sizeOf' ?_) | (with_reducible refine sizeAdd ?_) | (dsimp only; first | (with_reducible refine sizeOf' ?_) | (with_reducible refine sizeAdd ?_))))
  · have Q2 := fun W => eqlAng a b g h W
    rw [e2] at Q2
    clear s e2
    go_enter Try.func112, Try.ntmps112
    go_wp2
    go_ret
    refine ⟨retB E.out.symm, ?_⟩
    (repeat' (first | (with_reducible exact Below.refl _ _) | (with_reducible assumption) | (with_reducible refine belowNext ?_ (by with_reducible assumption)) | (with_reducible refine belowAlloc ?_ _) | (with_reducible refine Below.drew ?_) | (with_reducible refine below_drewN ?_ _) | (with_reducible refine Below.setCell ?_ ?_ _) | go_size | (with_reducible refine sizeOf' ?_) | (with_reducible refine sizeAdd ?_) | (dsimp only; first | (with_reducible refine sizeOf' ?_) | (with_reducible refine sizeAdd ?_))))
  · have Q2 := fun W => eqlAng a b g h W
    rw [e2] at Q2
    have Q3 := fun W => eqlAng c d e f W
    rw [e3] at Q3
    clear s e2 e3
    go_enter Try.func112, Try.ntmps112
    go_wp2
    go_ret
    refine ⟨retB E.out.symm, ?_⟩
    (repeat' (first | (with_reducible exact Below.refl _ _) | (with_reducible assumption) | (with_reducible refine belowNext ?_ (by with_reducible assumption)) | (with_reducible refine belowAlloc ?_ _) | (with_reducible refine Below.drew ?_) | (with_reducible refine below_drewN ?_ _) | (with_reducible refine Below.setCell ?_ ?_ _) | go_size | (with_reducible refine sizeOf' ?_) | (with_reducible refine sizeAdd ?_) | (dsimp only; first | (with_reducible refine sizeOf' ?_) | (with_reducible refine sizeAdd ?_))))
  · have Q2 := fun W => eqlAng a b g h W
    rw [e2] at Q2
    have Q3 := fun W => eqlAng c d e f W
    rw [e3] at Q3
    have Q4 := fun W => eqlAng c d g h W
    rw [e4] at Q4
    clear s e2 e3 e4
    go_enter Try.func112, Try.ntmps112
    go_wp2
    go_ret
    refine ⟨retB E.out.symm, ?_⟩
    (repeat' (first | (with_reducible exact Below.refl _ _) | (with_reducible assumption) | (with_reducible refine belowNext ?_ (by with_reducible assumption)) | (with_reducible refine belowAlloc ?_ _) | (with_reducible refine Below.drew ?_) | (with_reducible refine below_drewN ?_ _) | (with_reducible refine Below.setCell ?_ ?_ _) | go_size | (with_reducible refine sizeOf' ?_) | (with_reducible refine sizeAdd ?_) | (dsimp only; first | (with_reducible refine sizeOf' ?_) | (with_reducible refine sizeAdd ?_))))

set_option maxHeartbeats 1000000 in
theorem implPC (a b c d e f g h : Int) (w : World) (hl : isLf a b c d = true) (hm : isLf e f g h = true) :
    Calls Try.prog 108 #[leafV a b c d, leafV e f g h] w fun e' w' => e' = .returned (.bool (crossB a b c d e f g h)) ∧ Below w.heap.size w w' := by
  have H1 := Lib.hid (fun w => implCross a b c d e f g h w hl hm)
  clear hl hm
  generalize crossB a b c d e f g h = R at *
  go_enter Try.func108, Try.ntmps108
  go_wp2_with fail
  refine (H1.out _).mono ?_
  rintro e w1 ⟨rfl, hb1⟩
  obtain ⟨hc1, hf1⟩ := bcell hb1
  have hz1_0 : w.heap.size < w1.heap.size := by have := hb1.size; first | omega | (simp at this; omega)
  have hz1_1 : w.heap.size + 1 < w1.heap.size := by have := hb1.size; first | omega | (simp at this; omega)
  go_wp2
  go_ret
  refine ⟨rfl, ?_⟩
  (repeat' (first | (with_reducible exact Below.refl _ _) | (with_reducible assumption) | (with_reducible refine belowNext ?_ (by with_reducible assumption)) | (with_reducible refine belowAlloc ?_ _) | (with_reducible refine Below.drew ?_) | (with_reducible refine below_drewN ?_ _) | (with_reducible refine Below.setCell ?_ ?_ _) | go_size | (with_reducible refine sizeOf' ?_) | (with_reducible refine sizeAdd ?_) | (dsimp only; first | (with_reducible refine sizeOf' ?_) | (with_reducible refine sizeAdd ?_))))

/-- What ArePairsCrossing answers: four angles; both in order; they cross. -/
def apA (a b c d e f g h : Int) : Bool := isAng a b && (isAng c d && (isAng e f && isAng g h))
def apL (a b c d e f g h : Int) : Bool := ltA a b c d && ltA e f g h
def apB (a b c d e f g h : Int) : Bool := apA a b c d e f g h && (apL a b c d e f g h && crossB a b c d e f g h)
def apC (a b c d e f g h : Int) : Int := if apA a b c d e f g h then (if apL a b c d e f g h then 0 else 2) else 1
theorem ap_1 {a b c d e f g h : Int} (h1 : apA a b c d e f g h = false) : apB a b c d e f g h = false ∧ apC a b c d e f g h = 1 := by unfold apB apC; rw [h1]; simp
theorem ap_2 {a b c d e f g h : Int} (h1 : apA a b c d e f g h = true) (h2 : apL a b c d e f g h = false) : apB a b c d e f g h = false ∧ apC a b c d e f g h = 2 := by unfold apB apC; rw [h1, h2]; simp
theorem ap_3 {a b c d e f g h : Int} (h1 : apA a b c d e f g h = true) (h2 : apL a b c d e f g h = true) : apB a b c d e f g h = crossB a b c d e f g h ∧ apC a b c d e f g h = 0 := by unfold apB apC; rw [h1, h2]; simp
theorem ap_cases (x y z u : Bool) : (x = false ∧ (x && (y && (z && u))) = false) ∨ (x = true ∧ y = false ∧ (x && (y && (z && u))) = false) ∨ (x = true ∧ y = true ∧ z = false ∧ (x && (y && (z && u))) = false) ∨ (x = true ∧ y = true ∧ z = true ∧ u = false ∧ (x && (y && (z && u))) = false) ∨
    (x = true ∧ y = true ∧ z = true ∧ u = true ∧ (x && (y && (z && u))) = true) := by cases x <;> cases y <;> cases z <;> cases u <;> simp
theorem ap_two (x y : Bool) : (x = false ∧ (x && y) = false) ∨ (x = true ∧ y = false ∧ (x && y) = false) ∨ (x = true ∧ y = true ∧ (x && y) = true) := by cases x <;> cases y <;> simp
theorem row4 (W : World) (T : TypeId) (a b c d e f p q : Int) (g : Nat) (hg : g = W.heap.size) : AngRow (W.alloc (.cells #[.int .i64 a, .int .i64 b, .int .i64 c, .int .i64 d, .int .i64 e, .int .i64 f, .int .i64 p, .int .i64 q] T)) (W.alloc (.cells #[.int .i64 a, .int .i64 b, .int .i64 c, .int .i64 d, .int .i64 e, .int .i64 f, .int .i64 p, .int .i64 q] T)).heap.size (some ⟨g, 0, none⟩) [(a, b), (c, d), (e, f), (p, q)] := by
  subst hg
  intro _
  refine ⟨W.heap.size, 0, rfl, by simp, fun i n m hi => ?_⟩
  match i, hi with
  | 0, hi => simp at hi; obtain ⟨rfl, rfl⟩ := hi; exact ⟨by simp [go_sem], by simp [go_sem]⟩
  | 1, hi => simp at hi; obtain ⟨rfl, rfl⟩ := hi; exact ⟨by simp [go_sem], by simp [go_sem]⟩
  | 2, hi => simp at hi; obtain ⟨rfl, rfl⟩ := hi; exact ⟨by simp [go_sem], by simp [go_sem]⟩
  | 3, hi => simp at hi; obtain ⟨rfl, rfl⟩ := hi; exact ⟨by simp [go_sem], by simp [go_sem]⟩
theorem all4 (a b c d e f p q : Int) : allAng [(a, b), (c, d), (e, f), (p, q)] = (isAng a b && (isAng c d && (isAng e f && isAng p q))) := by simp [allAng]

end Go.Proofs.Ytnciiodgkanpjaa

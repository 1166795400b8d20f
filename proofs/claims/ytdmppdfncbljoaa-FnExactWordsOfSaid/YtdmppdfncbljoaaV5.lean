/-
  Contracts: crossings on the model's side; DoLeavesCross; its law.
-/
import Derived.Test.YtdmppdfncbljoaaV4
namespace Go.Proofs.Ytdmppdfncbljoaa
open Go.RowKit

set_option maxHeartbeats 2000000 in
theorem specCross (a b c d e f g h : Int) (w : World) (hl : isLf a b c d = true) (hm : isLf e f g h = true) :
    Calls Try.prog 77 #[leafV a b c d, leafV e f g h] w fun e' w' => e' = .returned (.bool (crossB a b c d e f g h)) ∧ Below w.heap.size w w' := by
  obtain ⟨r1, r2, -⟩ := isLf_yes hl
  obtain ⟨r3, r4, -⟩ := isLf_yes hm
  have H1 := Lib.hid (fun w => specArc a b e f g h w (okOf r1) (okOf r3) (okOf r4))
  have H2 := Lib.hid (fun w => specArc c d e f g h w (okOf r2) (okOf r3) (okOf r4))
  have T := fun hs => cross_turn hl hm hs
  clear hl hm r1 r2 r3 r4
  rcases share_cases a b c d e f g h with ⟨s, e1⟩ | ⟨s, e1, e2⟩ | ⟨s, e1, e2, e3⟩ | ⟨s, e1, e2, e3, e4⟩ | ⟨s, e1, e2, e3, e4⟩
  case inr.inr.inr.inr =>
    have E : Hid (crossB a b c d e f g h = (arcB a b e f g h != arcB c d e f g h)) := Lib.hid (by unfold crossB; rw [s, T s]; simp)
    have Q1 := fun W => eqlAng a b e f W
    rw [e1] at Q1
    have Q2 := fun W => eqlAng a b g h W
    rw [e2] at Q2
    have Q3 := fun W => eqlAng c d e f W
    rw [e3] at Q3
    have Q4 := fun W => eqlAng c d g h W
    rw [e4] at Q4
    clear s e1 e2 e3 e4 T
    generalize crossB a b c d e f g h = R at *
    generalize arcB a b e f g h = U at *
    generalize arcB c d e f g h = V at *
    go_enter Try.func77, Try.ntmps77
    go_wp2_with fail
    go_region_held3 (fun w' => w.heap.size + 1 < w'.heap.size ∧ Below w.heap.size w w' ∧ w'.cell? ⟨w.heap.size, 0, none⟩ = some (.int .i64 a) ∧ w'.cell? ⟨w.heap.size, 1, none⟩ = some (.int .i64 b) ∧ w'.cell? ⟨w.heap.size, 2, none⟩ = some (.int .i64 c) ∧ w'.cell? ⟨w.heap.size, 3, none⟩ = some (.int .i64 d) ∧
        w'.cell? ⟨w.heap.size + 1, 0, none⟩ = some (.int .i64 e) ∧ w'.cell? ⟨w.heap.size + 1, 1, none⟩ = some (.int .i64 f) ∧ w'.cell? ⟨w.heap.size + 1, 2, none⟩ = some (.int .i64 g) ∧ w'.cell? ⟨w.heap.size + 1, 3, none⟩ = some (.int .i64 h))
        (first | exact box8 (by assumption) (by assumption) | (refine ⟨by simp, ?_, by simp [go_sem], by simp [go_sem], by simp [go_sem], by simp [go_sem], by simp [go_sem], by simp [go_sem], by simp [go_sem], by simp [go_sem]⟩; (repeat' (first | (with_reducible exact Below.refl _ _) | (with_reducible assumption) | (with_reducible refine belowNext ?_ (by with_reducible assumption)) | (with_reducible refine belowAlloc ?_ _) | (with_reducible refine Below.drew ?_) | (with_reducible refine below_drewN ?_ _) | (with_reducible refine Below.setCell ?_ ?_ _) | go_size | (with_reducible refine sizeOf' ?_) | (with_reducible refine sizeAdd ?_) | (dsimp only; first | (with_reducible refine sizeOf' ?_) | (with_reducible refine sizeAdd ?_))))))
        (first
        | (go_at_call 123; (with_reducible refine (H1.out _).mono ?_); rintro e w1 ⟨rfl, hb1⟩)
        | (go_at_call 123; (with_reducible refine (H2.out _).mono ?_); rintro e w2 ⟨rfl, hb2⟩))
    rename_i hHeld
    obtain ⟨hz, hB, -⟩ := hHeld
    go_wp2
    go_ret
    refine ⟨retB ?_, ?_⟩
    rotate_left
    · (repeat' (first | (with_reducible exact Below.refl _ _) | (with_reducible assumption) | (with_reducible refine belowNext ?_ (by with_reducible assumption)) | (with_reducible refine belowAlloc ?_ _) | (with_reducible refine Below.drew ?_) | (with_reducible refine below_drewN ?_ _) | (with_reducible refine Below.setCell ?_ ?_ _) | go_size | (with_reducible refine sizeOf' ?_) | (with_reducible refine sizeAdd ?_) | (dsimp only; first | (with_reducible refine sizeOf' ?_) | (with_reducible refine sizeAdd ?_))))
    · rw [E.out]; cases U <;> cases V <;> rfl
  all_goals
    have E : Hid (crossB a b c d e f g h = false) := Lib.hid (by unfold crossB; rw [s]; rfl)
    have Q1 := fun W => eqlAng a b e f W
    rw [e1] at Q1
    clear e1 T
    generalize crossB a b c d e f g h = R at *
  · clear s
    go_enter Try.func77, Try.ntmps77
    go_wp2
    go_ret
    refine ⟨retB E.out.symm, ?_⟩
    (repeat' (first | (with_reducible exact Below.refl _ _) | (with_reducible assumption) | (with_reducible refine belowNext ?_ (by with_reducible assumption)) | (with_reducible refine belowAlloc ?_ _) | (with_reducible refine Below.drew ?_) | (with_reducible refine below_drewN ?_ _) | (with_reducible refine Below.setCell ?_ ?_ _) | go_size | (with_reducible refine sizeOf' ?_) | (with_reducible refine sizeAdd ?_) | (dsimp only; first | (with_reducible refine sizeOf' ?_) | (with_reducible refine sizeAdd ?_))))
  · have Q2 := fun W => eqlAng a b g h W
    rw [e2] at Q2
    clear s e2
    go_enter Try.func77, Try.ntmps77
    go_wp2
    go_ret
    refine ⟨retB E.out.symm, ?_⟩
    (repeat' (first | (with_reducible exact Below.refl _ _) | (with_reducible assumption) | (with_reducible refine belowNext ?_ (by with_reducible assumption)) | (with_reducible refine belowAlloc ?_ _) | (with_reducible refine Below.drew ?_) | (with_reducible refine below_drewN ?_ _) | (with_reducible refine Below.setCell ?_ ?_ _) | go_size | (with_reducible refine sizeOf' ?_) | (with_reducible refine sizeAdd ?_) | (dsimp only; first | (with_reducible refine sizeOf' ?_) | (with_reducible refine sizeAdd ?_))))
  · have Q2 := fun W => eqlAng a b g h W
    rw [e2] at Q2
    have Q3 := fun W => eqlAng c d e f W
    rw [e3] at Q3
    clear s e2 e3
    go_enter Try.func77, Try.ntmps77
    go_wp2
    go_ret
    refine ⟨retB E.out.symm, ?_⟩
    (repeat' (first | (with_reducible exact Below.refl _ _) | (with_reducible assumption) | (with_reducible refine belowNext ?_ (by with_reducible assumption)) | (with_reducible refine belowAlloc ?_ _) | (with_reducible refine Below.drew ?_) | (with_reducible refine below_drewN ?_ _) | (with_reducible refine Below.setCell ?_ ?_ _) | go_size | (with_reducible refine sizeOf' ?_) | (with_reducible refine sizeAdd ?_) | (dsimp only; first | (with_reducible refine sizeOf' ?_) | (with_reducible refine sizeAdd ?_))))
  · have Q2 := fun W => eqlAng a b g h W
    rw [e2] at Q2
    have Q3 := fun W => eqlAng c d e f W
    rw [e3] at Q3
    have Q4 := fun W => eqlAng c d g h W
    rw [e4] at Q4
    clear s e2 e3 e4
    go_enter Try.func77, Try.ntmps77
    go_wp2
    go_ret
    refine ⟨retB E.out.symm, ?_⟩
    (repeat' (first | (with_reducible exact Below.refl _ _) | (with_reducible assumption) | (with_reducible refine belowNext ?_ (by with_reducible assumption)) | (with_reducible refine belowAlloc ?_ _) | (with_reducible refine Below.drew ?_) | (with_reducible refine below_drewN ?_ _) | (with_reducible refine Below.setCell ?_ ?_ _) | go_size | (with_reducible refine sizeOf' ?_) | (with_reducible refine sizeAdd ?_) | (dsimp only; first | (with_reducible refine sizeOf' ?_) | (with_reducible refine sizeAdd ?_))))

def dlcB (a b c d e f g h : Int) : Bool := (isLf a b c d && isLf e f g h) && crossB a b c d e f g h
def dlcC (a b c d e f g h : Int) : Int := if isLf a b c d && isLf e f g h then 0 else 1
theorem dlc_yes {a b c d e f g h : Int} (hi : (isLf a b c d && isLf e f g h) = true) : dlcB a b c d e f g h = crossB a b c d e f g h ∧ dlcC a b c d e f g h = 0 := by
  unfold dlcB dlcC; rw [hi]; simp
theorem dlc_no {a b c d e f g h : Int} (hi : (isLf a b c d && isLf e f g h) = false) : dlcB a b c d e f g h = false ∧ dlcC a b c d e f g h = 1 := by
  unfold dlcB dlcC; rw [hi]; simp
theorem two_cases (x y : Bool) : (x = false ∧ (x && y) = false) ∨ (x = true ∧ y = false ∧ (x && y) = false) ∨ (x = true ∧ y = true ∧ (x && y) = true) := by cases x <;> cases y <;> simp
theorem allLf2 (a b c d e f g h : Int) : allLf [(a, b, c, d), (e, f, g, h)] = (isLf a b c d && isLf e f g h) := by simp [allLf]

end Go.Proofs.Ytdmppdfncbljoaa

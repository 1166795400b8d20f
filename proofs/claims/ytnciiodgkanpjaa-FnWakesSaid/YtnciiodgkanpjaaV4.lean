/-
  Contracts: rows of leaves; crossings on both sides.
-/
import Derived.Test.YtnciiodgkanpjaaV3
namespace Go.Proofs.Ytnciiodgkanpjaa
open Go.RowKit

abbrev Lf4 := Int × Int × Int × Int
/-- A slice with the address A holds the leaves l, in a block below B. -/
def LfRow (w : World) (B : Nat) (A : Option Addr) (l : List Lf4) : Prop :=
  l ≠ [] → ∃ b off, A = some ⟨b, off, none⟩ ∧ b < B ∧ ∀ i n d m c, l[i]? = some (n, d, m, c) → w.cell? ⟨b, off + i * 4, none⟩ = some (.int .i64 n) ∧ w.cell? ⟨b, off + i * 4 + 1, none⟩ = some (.int .i64 d) ∧ w.cell? ⟨b, off + i * 4 + 2, none⟩ = some (.int .i64 m) ∧ w.cell? ⟨b, off + i * 4 + 3, none⟩ = some (.int .i64 c)
theorem LfRow.keep {w w' : World} {B : Nat} {A : Option Addr} {l : List Lf4} (h : LfRow w B A l) (hk : ∀ p : Addr, p.block < B → w'.cell? p = w.cell? p) : LfRow w' B A l := by
  intro hl
  obtain ⟨b, off, e, hb, hc⟩ := h hl
  exact ⟨b, off, e, hb, fun i n d m c hi => ⟨(hk _ hb).trans (hc i n d m c hi).1, (hk _ hb).trans (hc i n d m c hi).2.1, (hk _ hb).trans (hc i n d m c hi).2.2.1, (hk _ hb).trans (hc i n d m c hi).2.2.2⟩⟩
theorem LfRow.below {w w' : World} {B : Nat} {A : Option Addr} {l : List Lf4} (h : LfRow w B A l) (hb : Below B w w') : LfRow w' B A l := h.keep fun _ hp => hb.cell hp
theorem LfRow.more {w : World} {B B' : Nat} {A : Option Addr} {l : List Lf4} (h : LfRow w B A l) (hB : B ≤ B') : LfRow w B' A l := by
  intro hl
  obtain ⟨b, off, e, hb, hc⟩ := h hl
  exact ⟨b, off, e, by omega, hc⟩
theorem LfRow.next {w w' : World} {A : Option Addr} {l : List Lf4} (h : LfRow w w.heap.size A l) (hb : Below w.heap.size w w') : LfRow w' w'.heap.size A l := (h.below hb).more hb.size

/-- All of them are leaves. -/
def allLf (l : List Lf4) : Bool := l.all fun x => isLf x.1 x.2.1 x.2.2.1 x.2.2.2
theorem allLf_no {l : List Lf4} {k : Nat} {n d m c : Int} (h : l[k]? = some (n, d, m, c)) (hi : isLf n d m c = false) : allLf l = false := by
  unfold allLf
  rw [List.all_eq_false]
  exact ⟨(n, d, m, c), List.mem_of_getElem? h, by simp [hi]⟩
theorem allLf_yes {l : List Lf4} (h : ∀ i, i < l.length → ∃ n d m c, l[i]? = some (n, d, m, c) ∧ isLf n d m c = true) : allLf l = true := by
  unfold allLf
  rw [List.all_eq_true]
  intro x hx
  obtain ⟨i, hi, e⟩ := List.getElem_of_mem hx
  obtain ⟨n, d, m, c, e2, h2⟩ := h i hi
  rw [List.getElem?_eq_getElem hi, e] at e2
  injection e2 with e2
  rw [e2]
  exact h2
theorem allLf_at {l : List Lf4} {k : Nat} {n d m c : Int} (h : allLf l = true) (hk : l[k]? = some (n, d, m, c)) : isLf n d m c = true := by
  unfold allLf at h
  rw [List.all_eq_true] at h
  exact h (n, d, m, c) (List.mem_of_getElem? hk)

theorem rowL2 (W : World) (T : TypeId) (a b c d e f g h : Int) (G : Nat) (hg : G = W.heap.size) : LfRow (W.alloc (.cells #[.int .i64 a, .int .i64 b, .int .i64 c, .int .i64 d, .int .i64 e, .int .i64 f, .int .i64 g, .int .i64 h] T)) (W.alloc (.cells #[.int .i64 a, .int .i64 b, .int .i64 c, .int .i64 d, .int .i64 e, .int .i64 f, .int .i64 g, .int .i64 h] T)).heap.size (some ⟨G, 0, none⟩) [(a, b, c, d), (e, f, g, h)] := by
  subst hg
  intro _
  refine ⟨W.heap.size, 0, rfl, by simp, fun i n m p q hi => ?_⟩
  match i, hi with
  | 0, hi => simp at hi; obtain ⟨rfl, rfl, rfl, rfl⟩ := hi; exact ⟨by simp [go_sem], by simp [go_sem], by simp [go_sem], by simp [go_sem]⟩
  | 1, hi => simp at hi; obtain ⟨rfl, rfl, rfl, rfl⟩ := hi; exact ⟨by simp [go_sem], by simp [go_sem], by simp [go_sem], by simp [go_sem]⟩

/-- Two boxed leaves, kept. -/
structure Two4 (w W : World) (a b c d e f g h : Int) : Prop where
  z : w.heap.size + 1 < W.heap.size
  B : Below w.heap.size w W
  c0 : W.cell? ⟨w.heap.size, 0, none⟩ = some (.int .i64 a)
  c1 : W.cell? ⟨w.heap.size, 1, none⟩ = some (.int .i64 b)
  c2 : W.cell? ⟨w.heap.size, 2, none⟩ = some (.int .i64 c)
  c3 : W.cell? ⟨w.heap.size, 3, none⟩ = some (.int .i64 d)
  c4 : W.cell? ⟨w.heap.size + 1, 0, none⟩ = some (.int .i64 e)
  c5 : W.cell? ⟨w.heap.size + 1, 1, none⟩ = some (.int .i64 f)
  c6 : W.cell? ⟨w.heap.size + 1, 2, none⟩ = some (.int .i64 g)
  c7 : W.cell? ⟨w.heap.size + 1, 3, none⟩ = some (.int .i64 h)
theorem Two4.next {w W w1 : World} {a b c d e f g h : Int} (H : Two4 w W a b c d e f g h) (hb : Below W.heap.size W w1) : Two4 w w1 a b c d e f g h := by
  obtain ⟨hz, hB, h0, h1, h2, h3, h4, h5, h6, h7⟩ := H
  exact ⟨Nat.lt_of_lt_of_le hz hb.size, belowNext hB hb, cellThru hb (by omega) h0, cellThru hb (by omega) h1, cellThru hb (by omega) h2, cellThru hb (by omega) h3, cellThru hb (by omega) h4, cellThru hb (by omega) h5, cellThru hb (by omega) h6, cellThru hb (by omega) h7⟩

theorem box8 {w W w1 : World} {a b c d e f g h : Int} (hb : Below W.heap.size W w1)
    (H : w.heap.size + 1 < W.heap.size ∧ Below w.heap.size w W ∧ W.cell? ⟨w.heap.size, 0, none⟩ = some (.int .i64 a) ∧ W.cell? ⟨w.heap.size, 1, none⟩ = some (.int .i64 b) ∧ W.cell? ⟨w.heap.size, 2, none⟩ = some (.int .i64 c) ∧ W.cell? ⟨w.heap.size, 3, none⟩ = some (.int .i64 d) ∧
      W.cell? ⟨w.heap.size + 1, 0, none⟩ = some (.int .i64 e) ∧ W.cell? ⟨w.heap.size + 1, 1, none⟩ = some (.int .i64 f) ∧ W.cell? ⟨w.heap.size + 1, 2, none⟩ = some (.int .i64 g) ∧ W.cell? ⟨w.heap.size + 1, 3, none⟩ = some (.int .i64 h)) :
    w.heap.size + 1 < w1.heap.size ∧ Below w.heap.size w w1 ∧ w1.cell? ⟨w.heap.size, 0, none⟩ = some (.int .i64 a) ∧ w1.cell? ⟨w.heap.size, 1, none⟩ = some (.int .i64 b) ∧ w1.cell? ⟨w.heap.size, 2, none⟩ = some (.int .i64 c) ∧ w1.cell? ⟨w.heap.size, 3, none⟩ = some (.int .i64 d) ∧
      w1.cell? ⟨w.heap.size + 1, 0, none⟩ = some (.int .i64 e) ∧ w1.cell? ⟨w.heap.size + 1, 1, none⟩ = some (.int .i64 f) ∧ w1.cell? ⟨w.heap.size + 1, 2, none⟩ = some (.int .i64 g) ∧ w1.cell? ⟨w.heap.size + 1, 3, none⟩ = some (.int .i64 h) := by
  obtain ⟨hz, hB, h0, h1, h2, h3, h4, h5, h6, h7⟩ := H
  exact ⟨Nat.lt_of_lt_of_le hz hb.size, belowNext hB hb, cellThru hb (by omega) h0, cellThru hb (by omega) h1, cellThru hb (by omega) h2, cellThru hb (by omega) h3, cellThru hb (by omega) h4, cellThru hb (by omega) h5, cellThru hb (by omega) h6, cellThru hb (by omega) h7⟩

set_option maxHeartbeats 2000000 in
theorem implCross (a b c d e f g h : Int) (w : World) (hl : isLf a b c d = true) (hm : isLf e f g h = true) :
    Calls Try.prog 113 #[leafV a b c d, leafV e f g h] w fun e' w' => e' = .returned (.bool (crossB a b c d e f g h)) ∧ Below w.heap.size w w' := by
  obtain ⟨r1, r2, -⟩ := isLf_yes hl
  obtain ⟨r3, r4, -⟩ := isLf_yes hm
  have H1 := Lib.hid (fun w => implArc e f a b c d w (okOf r3) (okOf r1) (okOf r2))
  have H2 := Lib.hid (fun w => implArc g h a b c d w (okOf r4) (okOf r1) (okOf r2))
  clear hl hm r1 r2 r3 r4
  rcases share_cases a b c d e f g h with ⟨s, e1⟩ | ⟨s, e1, e2⟩ | ⟨s, e1, e2, e3⟩ | ⟨s, e1, e2, e3, e4⟩ | ⟨s, e1, e2, e3, e4⟩
  case inr.inr.inr.inr =>
    have E : Hid (crossB a b c d e f g h = (arcB e f a b c d != arcB g h a b c d)) := Lib.hid (by unfold crossB; rw [s]; simp)
    have Q1 := fun W => eqlAng a b e f W
    rw [e1] at Q1
    have Q2 := fun W => eqlAng a b g h W
    rw [e2] at Q2
    have Q3 := fun W => eqlAng c d e f W
    rw [e3] at Q3
    have Q4 := fun W => eqlAng c d g h W
    rw [e4] at Q4
    clear s e1 e2 e3 e4
    generalize crossB a b c d e f g h = R at *
    generalize arcB e f a b c d = U at *
    generalize arcB g h a b c d = V at *
    go_enter Try.func113, Try.ntmps113
    go_wp2_with fail
    go_region_held3 (fun w' => w.heap.size + 1 < w'.heap.size ∧ Below w.heap.size w w' ∧ w'.cell? ⟨w.heap.size, 0, none⟩ = some (.int .i64 a) ∧ w'.cell? ⟨w.heap.size, 1, none⟩ = some (.int .i64 b) ∧ w'.cell? ⟨w.heap.size, 2, none⟩ = some (.int .i64 c) ∧ w'.cell? ⟨w.heap.size, 3, none⟩ = some (.int .i64 d) ∧
        w'.cell? ⟨w.heap.size + 1, 0, none⟩ = some (.int .i64 e) ∧ w'.cell? ⟨w.heap.size + 1, 1, none⟩ = some (.int .i64 f) ∧ w'.cell? ⟨w.heap.size + 1, 2, none⟩ = some (.int .i64 g) ∧ w'.cell? ⟨w.heap.size + 1, 3, none⟩ = some (.int .i64 h))
        (first | exact box8 (by assumption) (by assumption) | (refine ⟨by simp, ?_, by simp [go_sem], by simp [go_sem], by simp [go_sem], by simp [go_sem], by simp [go_sem], by simp [go_sem], by simp [go_sem], by simp [go_sem]⟩; (repeat' (first | (with_reducible exact Below.refl _ _) | (with_reducible assumption) | (with_reducible refine belowNext ?_ (by with_reducible assumption)) | (with_reducible refine belowAlloc ?_ _) | (with_reducible refine Below.drew ?_) | (with_reducible refine below_drewN ?_ _) | (with_reducible refine Below.setCell ?_ ?_ _) | go_size | (with_reducible refine sizeOf' ?_) | (with_reducible refine sizeAdd ?_) | (dsimp only; first | (with_reducible refine sizeOf' ?_) | (with_reducible refine sizeAdd ?_))))))
        (first
        | (go_at_call 92; (with_reducible refine (H1.out _).mono ?_); rintro e w1 ⟨rfl, hb1⟩)
        | (go_at_call 92; (with_reducible refine (H2.out _).mono ?_); rintro e w2 ⟨rfl, hb2⟩))
    rename_i hHeld
    obtain ⟨hz, hB, -⟩ := hHeld
    go_wp2
    go_ret
    refine ⟨retB ?_, ?_⟩
    rotate_left
    · (repeat' (first | (with_reducible exact Below.refl _ _) | (with_reducible assumption) | (with_reducible refine belowNext ?_ (by with_reducible assumption)) | (with_reducible refine belowAlloc ?_ _) | (with_reducible refine Below.drew ?_) | (with_reducible refine below_drewN ?_ _) | (with_reducible refine Below.setCell ?_ ?_ _) | go_size | (with_reducible refine sizeOf' ?_) | (with_reducible refine sizeAdd ?_) | (dsimp only; first | (with_reducible refine sizeOf' ?_) | (with_reducible refine sizeAdd ?_))))
    · rw [E.out]; cases U <;> cases V <;> rfl
  all_goals
    have E : Hid (crossB a b c d e f g h = false) := Lib.hid (by unfold crossB; rw [s]; rfl)
    have Q1 := fun W => eqlAng a b e f W
    rw [e1] at Q1
    clear e1
    generalize crossB a b c d e f g h = R at *
  · clear s
    go_enter Try.func113, Try.ntmps113
    go_wp2
    go_ret
    refine ⟨retB E.out.symm, ?_⟩
    (repeat' (first | (with_reducible exact Below.refl _ _) | (with_reducible assumption) | (with_reducible refine belowNext ?_ (by with_reducible assumption)) | (with_reducible refine belowAlloc ?_ _) | (with_reducible refine Below.drew ?_) | (with_reducible refine below_drewN ?_ _) | (with_reducible refine Below.setCell ?_ ?_ _) | go_size | (with_reducible refine sizeOf' ?_) | (with_reducible refine sizeAdd ?_) | (dsimp only; first | (with_reducible refine sizeOf' ?_) | (with_reducible refine sizeAdd ?_))))
  · have Q2 := fun W => eqlAng a b g h W
    rw [e2] at Q2
    clear s e2
    go_enter Try.func113, Try.ntmps113
    go_wp2
    go_ret
    refine ⟨retB E.out.symm, ?_⟩
    (repeat' (first | (with_reducible exact Below.refl _ _) | (with_reducible assumption) | (with_reducible refine belowNext ?_ (by with_reducible assumption)) | (with_reducible refine belowAlloc ?_ _) | (with_reducible refine Below.drew ?_) | (with_reducible refine below_drewN ?_ _) | (with_reducible refine Below.setCell ?_ ?_ _) | go_size | (with_reducible refine sizeOf' ?_) | (with_reducible refine sizeAdd ?_) | (dsimp only; first | (with_reducible refine sizeOf' ?_) | (with_reducible refine sizeAdd ?_))))
  · have Q2 := fun W => eqlAng a b g h W
    rw [e2] at Q2
    have Q3 := fun W => eqlAng c d e f W
    rw [e3] at Q3
    clear s e2 e3
    go_enter Try.func113, Try.ntmps113
    go_wp2
    go_ret
    refine ⟨retB E.out.symm, ?_⟩
    (repeat' (first | (with_reducible exact Below.refl _ _) | (with_reducible assumption) | (with_reducible refine belowNext ?_ (by with_reducible assumption)) | (with_reducible refine belowAlloc ?_ _) | (with_reducible refine Below.drew ?_) | (with_reducible refine below_drewN ?_ _) | (with_reducible refine Below.setCell ?_ ?_ _) | go_size | (with_reducible refine sizeOf' ?_) | (with_reducible refine sizeAdd ?_) | (dsimp only; first | (with_reducible refine sizeOf' ?_) | (with_reducible refine sizeAdd ?_))))
  · have Q2 := fun W => eqlAng a b g h W
    rw [e2] at Q2
    have Q3 := fun W => eqlAng c d e f W
    rw [e3] at Q3
    have Q4 := fun W => eqlAng c d g h W
    rw [e4] at Q4
    clear s e2 e3 e4
    go_enter Try.func113, Try.ntmps113
    go_wp2
    go_ret
    refine ⟨retB E.out.symm, ?_⟩
    (repeat' (first | (with_reducible exact Below.refl _ _) | (with_reducible assumption) | (with_reducible refine belowNext ?_ (by with_reducible assumption)) | (with_reducible refine belowAlloc ?_ _) | (with_reducible refine Below.drew ?_) | (with_reducible refine below_drewN ?_ _) | (with_reducible refine Below.setCell ?_ ?_ _) | go_size | (with_reducible refine sizeOf' ?_) | (with_reducible refine sizeAdd ?_) | (dsimp only; first | (with_reducible refine sizeOf' ?_) | (with_reducible refine sizeAdd ?_))))
end Go.Proofs.Ytnciiodgkanpjaa

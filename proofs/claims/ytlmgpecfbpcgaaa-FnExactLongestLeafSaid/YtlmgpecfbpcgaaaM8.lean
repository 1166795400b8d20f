/-
  Contracts: the longest leaf, on both sides; the walk of the law.
-/
import Derived.Test.YtlmgpecfbpcgaaaM7
import Derived.Test.YtlmgpecfbpcgaaaV23
namespace Go.Proofs.Ytlmgpecfbpcgaaa
open Go.RowKit

/-- What LongestLeaf answers. -/
def LgIs (l : List Lf4) (x : Lf4) (c : Int) : Prop :=
  (¬ Lam l ∧ x = (0, 0, 0, 0) ∧ c = 1) ∨ (Lam l ∧ l = [] ∧ x = (0, 0, 0, 0) ∧ c = 5) ∨ (Lam l ∧ ∃ x0, l[0]? = some x0 ∧ x = bestL x0 (l.drop 1) ∧ c = 0)
theorem lg_is (l : List Lf4) : ∃ x c, LgIs l x c := by
  by_cases h : Lam l
  · cases l with
    | nil => exact ⟨_, _, .inr (.inl ⟨h, rfl, rfl, rfl⟩)⟩
    | cons x0 t => exact ⟨_, _, .inr (.inr ⟨h, x0, rfl, rfl, rfl⟩)⟩
  · exact ⟨_, _, .inl ⟨h, rfl, rfl⟩⟩
def ResL4 (w : World) (x : Lf4) (c : Int) (e : Ending) (w' : World) : Prop := e = .returned (resL x.1 x.2.1 x.2.2.1 x.2.2.2 c) ∧ Below w.heap.size w w'

set_option maxHeartbeats 2000000 in
theorem implLg (A : Option Addr) (len cap : Nat) (l : List Lf4) (w : World) (hr : LfRow w w.heap.size A l) (hl : l.length = len) (hm : len ≤ 1000000000000) (hcap : len ≤ cap) (x : Lf4) (c : Int) (hx : LgIs l x c) :
    Calls Try.prog 22 #[.slice A len cap] w (ResL4 w x c) := by
  have HI := Lib.hid (fun W (hB : Below w.heap.size w W) => implLam A len cap l W ((hr.below hB).more hB.size) hl hm hcap)
  rcases hx with ⟨hN, rfl, rfl⟩ | ⟨hY, h0, rfl, rfl⟩ | ⟨hY, x0, h0, rfl, rfl⟩
  · have HN := Lib.hid hN
    clear hr hl hcap hN
    go_enter Try.func22, Try.ntmps22
    go_wp2_with fail
    refine (HI.out _ (by (repeat' (first | (with_reducible exact Below.refl _ _) | (with_reducible assumption) | (with_reducible refine belowNext ?_ (by with_reducible assumption)) | (with_reducible refine belowAlloc ?_ _) | (with_reducible refine Below.drew ?_) | (with_reducible refine below_drewN ?_ _) | (with_reducible refine Below.setCell ?_ ?_ _) | go_size | (with_reducible refine sizeOf' ?_) | (with_reducible refine sizeAdd ?_) | (dsimp only; first | (with_reducible refine sizeOf' ?_) | (with_reducible refine sizeAdd ?_)))))).mono ?_
    rintro e w1 ⟨⟨r, rfl, HQ⟩, hb1⟩
    obtain ⟨hc1, hf1⟩ := bcell hb1
    have hz1_0 : w.heap.size < w1.heap.size := by have := hb1.size; first | omega | (simp at this; omega)
    obtain rfl : r = false := by
      cases r
      · rfl
      · exact absurd (HQ.out.1 rfl) HN.out
    have q1_0_0 : w1.cell? ⟨w.heap.size, 0, none⟩ = some (.int .i64 0) := cellThru hb1 (by simp <;> omega) (by simp [go_sem])
    have q1_0_1 : w1.cell? ⟨w.heap.size, 1, none⟩ = some (.int .i64 0) := cellThru hb1 (by simp <;> omega) (by simp [go_sem])
    have q1_0_2 : w1.cell? ⟨w.heap.size, 2, none⟩ = some (.int .i64 0) := cellThru hb1 (by simp <;> omega) (by simp [go_sem])
    have q1_0_3 : w1.cell? ⟨w.heap.size, 3, none⟩ = some (.int .i64 0) := cellThru hb1 (by simp <;> omega) (by simp [go_sem])
    have j1_0_0 : w1.frozen? ⟨w.heap.size, 0, none⟩ = false := frozThru hb1 (by simp <;> omega) (by simp [go_sem])
    have j1_0_1 : w1.frozen? ⟨w.heap.size, 1, none⟩ = false := frozThru hb1 (by simp <;> omega) (by simp [go_sem])
    have j1_0_2 : w1.frozen? ⟨w.heap.size, 2, none⟩ = false := frozThru hb1 (by simp <;> omega) (by simp [go_sem])
    have j1_0_3 : w1.frozen? ⟨w.heap.size, 3, none⟩ = false := frozThru hb1 (by simp <;> omega) (by simp [go_sem])
    go_wp2
    refine bodyPost_ret (v := resL 0 0 0 0 1) (by simp [results, Try.results22, go_sem, q1_0_0, q1_0_1, q1_0_2, q1_0_3]) rfl ⟨rfl, ?_⟩
    (repeat' (first | (with_reducible exact Below.refl _ _) | (with_reducible assumption) | (with_reducible refine belowNext ?_ (by with_reducible assumption)) | (with_reducible refine belowAlloc ?_ _) | (with_reducible refine Below.drew ?_) | (with_reducible refine below_drewN ?_ _) | (with_reducible refine Below.setCell ?_ ?_ _) | go_size | (with_reducible refine sizeOf' ?_) | (with_reducible refine sizeAdd ?_) | (dsimp only; first | (with_reducible refine sizeOf' ?_) | (with_reducible refine sizeAdd ?_))))
  · have HN := Lib.hid hY
    have hz : (len : Int) = 0 := by rw [h0] at hl; simp at hl; omega
    clear hr hl hcap hY h0
    go_enter Try.func22, Try.ntmps22
    go_wp2_with fail
    refine (HI.out _ (by (repeat' (first | (with_reducible exact Below.refl _ _) | (with_reducible assumption) | (with_reducible refine belowNext ?_ (by with_reducible assumption)) | (with_reducible refine belowAlloc ?_ _) | (with_reducible refine Below.drew ?_) | (with_reducible refine below_drewN ?_ _) | (with_reducible refine Below.setCell ?_ ?_ _) | go_size | (with_reducible refine sizeOf' ?_) | (with_reducible refine sizeAdd ?_) | (dsimp only; first | (with_reducible refine sizeOf' ?_) | (with_reducible refine sizeAdd ?_)))))).mono ?_
    rintro e w1 ⟨⟨r, rfl, HQ⟩, hb1⟩
    obtain ⟨hc1, hf1⟩ := bcell hb1
    have hz1_0 : w.heap.size < w1.heap.size := by have := hb1.size; first | omega | (simp at this; omega)
    obtain rfl : r = true := HQ.out.2 HN.out
    have q1_0_0 : w1.cell? ⟨w.heap.size, 0, none⟩ = some (.int .i64 0) := cellThru hb1 (by simp <;> omega) (by simp [go_sem])
    have q1_0_1 : w1.cell? ⟨w.heap.size, 1, none⟩ = some (.int .i64 0) := cellThru hb1 (by simp <;> omega) (by simp [go_sem])
    have q1_0_2 : w1.cell? ⟨w.heap.size, 2, none⟩ = some (.int .i64 0) := cellThru hb1 (by simp <;> omega) (by simp [go_sem])
    have q1_0_3 : w1.cell? ⟨w.heap.size, 3, none⟩ = some (.int .i64 0) := cellThru hb1 (by simp <;> omega) (by simp [go_sem])
    have j1_0_0 : w1.frozen? ⟨w.heap.size, 0, none⟩ = false := frozThru hb1 (by simp <;> omega) (by simp [go_sem])
    have j1_0_1 : w1.frozen? ⟨w.heap.size, 1, none⟩ = false := frozThru hb1 (by simp <;> omega) (by simp [go_sem])
    have j1_0_2 : w1.frozen? ⟨w.heap.size, 2, none⟩ = false := frozThru hb1 (by simp <;> omega) (by simp [go_sem])
    have j1_0_3 : w1.frozen? ⟨w.heap.size, 3, none⟩ = false := frozThru hb1 (by simp <;> omega) (by simp [go_sem])
    go_wp2
    refine bodyPost_ret (v := resL 0 0 0 0 5) (by simp [results, Try.results22, go_sem, q1_0_0, q1_0_1, q1_0_2, q1_0_3]) rfl ⟨rfl, ?_⟩
    (repeat' (first | (with_reducible exact Below.refl _ _) | (with_reducible assumption) | (with_reducible refine belowNext ?_ (by with_reducible assumption)) | (with_reducible refine belowAlloc ?_ _) | (with_reducible refine Below.drew ?_) | (with_reducible refine below_drewN ?_ _) | (with_reducible refine Below.setCell ?_ ?_ _) | go_size | (with_reducible refine sizeOf' ?_) | (with_reducible refine sizeAdd ?_) | (dsimp only; first | (with_reducible refine sizeOf' ?_) | (with_reducible refine sizeAdd ?_))))
  · have HN := Lib.hid hY
    have hz : ¬ ((len : Int) = 0) := by
      rcases Nat.lt_or_ge 0 l.length with h1 | h1
      · omega
      · rw [List.getElem?_eq_none h1] at h0; cases h0
    have HM := Lib.hid (fun W (hB : Below w.heap.size w W) => implMax A len cap l x0 W ((hr.below hB).more hB.size) hl hm h0 hY.2.1)
    clear hr hl hcap hY h0
    generalize bestL x0 (l.drop 1) = y at *
    obtain ⟨y1, y2, y3, y4⟩ := y
    dsimp only at *
    go_enter Try.func22, Try.ntmps22
    go_wp2_with fail
    refine (HI.out _ (by (repeat' (first | (with_reducible exact Below.refl _ _) | (with_reducible assumption) | (with_reducible refine belowNext ?_ (by with_reducible assumption)) | (with_reducible refine belowAlloc ?_ _) | (with_reducible refine Below.drew ?_) | (with_reducible refine below_drewN ?_ _) | (with_reducible refine Below.setCell ?_ ?_ _) | go_size | (with_reducible refine sizeOf' ?_) | (with_reducible refine sizeAdd ?_) | (dsimp only; first | (with_reducible refine sizeOf' ?_) | (with_reducible refine sizeAdd ?_)))))).mono ?_
    rintro e w1 ⟨⟨r, rfl, HQ⟩, hb1⟩
    obtain ⟨hc1, hf1⟩ := bcell hb1
    have hz1_0 : w.heap.size < w1.heap.size := by have := hb1.size; first | omega | (simp at this; omega)
    obtain rfl : r = true := HQ.out.2 HN.out
    have q1_0_0 : w1.cell? ⟨w.heap.size, 0, none⟩ = some (.int .i64 0) := cellThru hb1 (by simp <;> omega) (by simp [go_sem])
    have q1_0_1 : w1.cell? ⟨w.heap.size, 1, none⟩ = some (.int .i64 0) := cellThru hb1 (by simp <;> omega) (by simp [go_sem])
    have q1_0_2 : w1.cell? ⟨w.heap.size, 2, none⟩ = some (.int .i64 0) := cellThru hb1 (by simp <;> omega) (by simp [go_sem])
    have q1_0_3 : w1.cell? ⟨w.heap.size, 3, none⟩ = some (.int .i64 0) := cellThru hb1 (by simp <;> omega) (by simp [go_sem])
    have j1_0_0 : w1.frozen? ⟨w.heap.size, 0, none⟩ = false := frozThru hb1 (by simp <;> omega) (by simp [go_sem])
    have j1_0_1 : w1.frozen? ⟨w.heap.size, 1, none⟩ = false := frozThru hb1 (by simp <;> omega) (by simp [go_sem])
    have j1_0_2 : w1.frozen? ⟨w.heap.size, 2, none⟩ = false := frozThru hb1 (by simp <;> omega) (by simp [go_sem])
    have j1_0_3 : w1.frozen? ⟨w.heap.size, 3, none⟩ = false := frozThru hb1 (by simp <;> omega) (by simp [go_sem])
    go_wp2_with fail
    refine (HM.out _ (by (repeat' (first | (with_reducible exact Below.refl _ _) | (with_reducible assumption) | (with_reducible refine belowNext ?_ (by with_reducible assumption)) | (with_reducible refine belowAlloc ?_ _) | (with_reducible refine Below.drew ?_) | (with_reducible refine below_drewN ?_ _) | (with_reducible refine Below.setCell ?_ ?_ _) | go_size | (with_reducible refine sizeOf' ?_) | (with_reducible refine sizeAdd ?_) | (dsimp only; first | (with_reducible refine sizeOf' ?_) | (with_reducible refine sizeAdd ?_)))))).mono ?_
    rintro e w2 ⟨rfl, hb2⟩
    obtain ⟨hc2, hf2⟩ := bcell hb2
    have hz2_0 : w.heap.size < w2.heap.size := by have := hb2.size; first | omega | (simp at this; omega)
    have q2_0_0 : w2.cell? ⟨w.heap.size, 0, none⟩ = some (.int .i64 0) := by first | exact cellThru hb2 hz1_0 q1_0_0 | (refine cellThru hb2 ?_ (cellThru (belowAlloc (Below.refl _ _) _) hz1_0 q1_0_0); first | omega | (simp; omega)) | (refine cellThru hb2 ?_ (cellThru (belowAlloc (belowAlloc (Below.refl _ _) _) _) hz1_0 q1_0_0); first | omega | (simp; omega)) | (refine cellThru hb2 ?_ ?_; (first | omega | (simp; omega) | go_size); simp [go_sem, q1_0_0])
    have q2_0_1 : w2.cell? ⟨w.heap.size, 1, none⟩ = some (.int .i64 0) := by first | exact cellThru hb2 hz1_0 q1_0_1 | (refine cellThru hb2 ?_ (cellThru (belowAlloc (Below.refl _ _) _) hz1_0 q1_0_1); first | omega | (simp; omega)) | (refine cellThru hb2 ?_ (cellThru (belowAlloc (belowAlloc (Below.refl _ _) _) _) hz1_0 q1_0_1); first | omega | (simp; omega)) | (refine cellThru hb2 ?_ ?_; (first | omega | (simp; omega) | go_size); simp [go_sem, q1_0_1])
    have q2_0_2 : w2.cell? ⟨w.heap.size, 2, none⟩ = some (.int .i64 0) := by first | exact cellThru hb2 hz1_0 q1_0_2 | (refine cellThru hb2 ?_ (cellThru (belowAlloc (Below.refl _ _) _) hz1_0 q1_0_2); first | omega | (simp; omega)) | (refine cellThru hb2 ?_ (cellThru (belowAlloc (belowAlloc (Below.refl _ _) _) _) hz1_0 q1_0_2); first | omega | (simp; omega)) | (refine cellThru hb2 ?_ ?_; (first | omega | (simp; omega) | go_size); simp [go_sem, q1_0_2])
    have q2_0_3 : w2.cell? ⟨w.heap.size, 3, none⟩ = some (.int .i64 0) := by first | exact cellThru hb2 hz1_0 q1_0_3 | (refine cellThru hb2 ?_ (cellThru (belowAlloc (Below.refl _ _) _) hz1_0 q1_0_3); first | omega | (simp; omega)) | (refine cellThru hb2 ?_ (cellThru (belowAlloc (belowAlloc (Below.refl _ _) _) _) hz1_0 q1_0_3); first | omega | (simp; omega)) | (refine cellThru hb2 ?_ ?_; (first | omega | (simp; omega) | go_size); simp [go_sem, q1_0_3])
    have j2_0_0 : w2.frozen? ⟨w.heap.size, 0, none⟩ = false := by first | exact frozThru hb2 hz1_0 j1_0_0 | (refine frozThru hb2 ?_ ?_; (first | omega | (simp; omega) | go_size); simp [go_sem, j1_0_0])
    have j2_0_1 : w2.frozen? ⟨w.heap.size, 1, none⟩ = false := by first | exact frozThru hb2 hz1_0 j1_0_1 | (refine frozThru hb2 ?_ ?_; (first | omega | (simp; omega) | go_size); simp [go_sem, j1_0_1])
    have j2_0_2 : w2.frozen? ⟨w.heap.size, 2, none⟩ = false := by first | exact frozThru hb2 hz1_0 j1_0_2 | (refine frozThru hb2 ?_ ?_; (first | omega | (simp; omega) | go_size); simp [go_sem, j1_0_2])
    have j2_0_3 : w2.frozen? ⟨w.heap.size, 3, none⟩ = false := by first | exact frozThru hb2 hz1_0 j1_0_3 | (refine frozThru hb2 ?_ ?_; (first | omega | (simp; omega) | go_size); simp [go_sem, j1_0_3])
    go_wp2
    refine bodyPost_ret (v := resL y1 y2 y3 y4 0) (by simp [results, Try.results22, go_sem, q2_0_0, q2_0_1, q2_0_2, q2_0_3]) rfl ⟨rfl, ?_⟩
    (repeat' (first | (with_reducible exact Below.refl _ _) | (with_reducible assumption) | (with_reducible refine belowNext ?_ (by with_reducible assumption)) | (with_reducible refine belowAlloc ?_ _) | (with_reducible refine Below.drew ?_) | (with_reducible refine below_drewN ?_ _) | (with_reducible refine Below.setCell ?_ ?_ _) | go_size | (with_reducible refine sizeOf' ?_) | (with_reducible refine sizeAdd ?_) | (dsimp only; first | (with_reducible refine sizeOf' ?_) | (with_reducible refine sizeAdd ?_))))

set_option maxHeartbeats 4000000 in
theorem specLg (A : Option Addr) (len cap : Nat) (l : List Lf4) (w : World) (hr : LfRow w w.heap.size A l) (hl : l.length = len) (hm : len ≤ 1000000000000) (x : Lf4) (c : Int) (hx : LgIs l x c) :
    Calls Try.prog 20 #[.slice A len cap] w (ResL4 w x c) := by
  have HI := Lib.hid (fun W (hB : Below w.heap.size w W) => specLam1 A len cap l W ((hr.below hB).more hB.size) hl hm)
  rcases hx with ⟨hN, rfl, rfl⟩ | ⟨hY, h0, rfl, rfl⟩ | ⟨hY, x0, h0, rfl, rfl⟩
  · have HN := Lib.hid hN
    clear hr hl hN
    go_enter Try.func20, Try.ntmps20
    go_wp2_with fail
    refine (HI.out _ (by (repeat' (first | (with_reducible exact Below.refl _ _) | (with_reducible assumption) | (with_reducible refine belowNext ?_ (by with_reducible assumption)) | (with_reducible refine belowAlloc ?_ _) | (with_reducible refine Below.drew ?_) | (with_reducible refine below_drewN ?_ _) | (with_reducible refine Below.setCell ?_ ?_ _) | go_size | (with_reducible refine sizeOf' ?_) | (with_reducible refine sizeAdd ?_) | (dsimp only; first | (with_reducible refine sizeOf' ?_) | (with_reducible refine sizeAdd ?_)))))).mono ?_
    rintro e w1 ⟨⟨r, rfl, HQ⟩, hb1⟩
    obtain ⟨hc1, hf1⟩ := bcell hb1
    have hz1_0 : w.heap.size < w1.heap.size := by have := hb1.size; first | omega | (simp at this; omega)
    obtain rfl : r = false := by
      cases r
      · rfl
      · exact absurd (HQ.out.1 rfl) HN.out
    have q1_0_0 : w1.cell? ⟨w.heap.size, 0, none⟩ = some (.int .i64 0) := cellThru hb1 (by simp <;> omega) (by simp [go_sem])
    have q1_0_1 : w1.cell? ⟨w.heap.size, 1, none⟩ = some (.int .i64 0) := cellThru hb1 (by simp <;> omega) (by simp [go_sem])
    have q1_0_2 : w1.cell? ⟨w.heap.size, 2, none⟩ = some (.int .i64 0) := cellThru hb1 (by simp <;> omega) (by simp [go_sem])
    have q1_0_3 : w1.cell? ⟨w.heap.size, 3, none⟩ = some (.int .i64 0) := cellThru hb1 (by simp <;> omega) (by simp [go_sem])
    have j1_0_0 : w1.frozen? ⟨w.heap.size, 0, none⟩ = false := frozThru hb1 (by simp <;> omega) (by simp [go_sem])
    have j1_0_1 : w1.frozen? ⟨w.heap.size, 1, none⟩ = false := frozThru hb1 (by simp <;> omega) (by simp [go_sem])
    have j1_0_2 : w1.frozen? ⟨w.heap.size, 2, none⟩ = false := frozThru hb1 (by simp <;> omega) (by simp [go_sem])
    have j1_0_3 : w1.frozen? ⟨w.heap.size, 3, none⟩ = false := frozThru hb1 (by simp <;> omega) (by simp [go_sem])
    go_wp2
    refine bodyPost_ret (v := resL 0 0 0 0 1) (by simp [results, Try.results20, go_sem, q1_0_0, q1_0_1, q1_0_2, q1_0_3]) rfl ⟨rfl, ?_⟩
    (repeat' (first | (with_reducible exact Below.refl _ _) | (with_reducible assumption) | (with_reducible refine belowNext ?_ (by with_reducible assumption)) | (with_reducible refine belowAlloc ?_ _) | (with_reducible refine Below.drew ?_) | (with_reducible refine below_drewN ?_ _) | (with_reducible refine Below.setCell ?_ ?_ _) | go_size | (with_reducible refine sizeOf' ?_) | (with_reducible refine sizeAdd ?_) | (dsimp only; first | (with_reducible refine sizeOf' ?_) | (with_reducible refine sizeAdd ?_))))
  · have HN := Lib.hid hY
    have hz : (len : Int) = 0 := by rw [h0] at hl; simp at hl; omega
    clear hr hl hY h0
    go_enter Try.func20, Try.ntmps20
    go_wp2_with fail
    refine (HI.out _ (by (repeat' (first | (with_reducible exact Below.refl _ _) | (with_reducible assumption) | (with_reducible refine belowNext ?_ (by with_reducible assumption)) | (with_reducible refine belowAlloc ?_ _) | (with_reducible refine Below.drew ?_) | (with_reducible refine below_drewN ?_ _) | (with_reducible refine Below.setCell ?_ ?_ _) | go_size | (with_reducible refine sizeOf' ?_) | (with_reducible refine sizeAdd ?_) | (dsimp only; first | (with_reducible refine sizeOf' ?_) | (with_reducible refine sizeAdd ?_)))))).mono ?_
    rintro e w1 ⟨⟨r, rfl, HQ⟩, hb1⟩
    obtain ⟨hc1, hf1⟩ := bcell hb1
    have hz1_0 : w.heap.size < w1.heap.size := by have := hb1.size; first | omega | (simp at this; omega)
    obtain rfl : r = true := HQ.out.2 HN.out
    have q1_0_0 : w1.cell? ⟨w.heap.size, 0, none⟩ = some (.int .i64 0) := cellThru hb1 (by simp <;> omega) (by simp [go_sem])
    have q1_0_1 : w1.cell? ⟨w.heap.size, 1, none⟩ = some (.int .i64 0) := cellThru hb1 (by simp <;> omega) (by simp [go_sem])
    have q1_0_2 : w1.cell? ⟨w.heap.size, 2, none⟩ = some (.int .i64 0) := cellThru hb1 (by simp <;> omega) (by simp [go_sem])
    have q1_0_3 : w1.cell? ⟨w.heap.size, 3, none⟩ = some (.int .i64 0) := cellThru hb1 (by simp <;> omega) (by simp [go_sem])
    have j1_0_0 : w1.frozen? ⟨w.heap.size, 0, none⟩ = false := frozThru hb1 (by simp <;> omega) (by simp [go_sem])
    have j1_0_1 : w1.frozen? ⟨w.heap.size, 1, none⟩ = false := frozThru hb1 (by simp <;> omega) (by simp [go_sem])
    have j1_0_2 : w1.frozen? ⟨w.heap.size, 2, none⟩ = false := frozThru hb1 (by simp <;> omega) (by simp [go_sem])
    have j1_0_3 : w1.frozen? ⟨w.heap.size, 3, none⟩ = false := frozThru hb1 (by simp <;> omega) (by simp [go_sem])
    go_wp2
    refine bodyPost_ret (v := resL 0 0 0 0 5) (by simp [results, Try.results20, go_sem, q1_0_0, q1_0_1, q1_0_2, q1_0_3]) rfl ⟨rfl, ?_⟩
    (repeat' (first | (with_reducible exact Below.refl _ _) | (with_reducible assumption) | (with_reducible refine belowNext ?_ (by with_reducible assumption)) | (with_reducible refine belowAlloc ?_ _) | (with_reducible refine Below.drew ?_) | (with_reducible refine below_drewN ?_ _) | (with_reducible refine Below.setCell ?_ ?_ _) | go_size | (with_reducible refine sizeOf' ?_) | (with_reducible refine sizeAdd ?_) | (dsimp only; first | (with_reducible refine sizeOf' ?_) | (with_reducible refine sizeAdd ?_))))
  · have HN := Lib.hid hY
    have hpos : 0 < len := by
      rcases Nat.lt_or_ge 0 l.length with h1 | h1
      · omega
      · rw [List.getElem?_eq_none h1] at h0; cases h0
    have hz0 : ((len : Int) == 0) = false := by simp; omega
    have HL := Lib.hid hl
    have HA := Lib.hid hY.2.1
    have hne : l ≠ [] := by intro h; rw [h] at h0; simp at h0
    obtain ⟨b', off, rfl, hbb, hcells⟩ := row_at hr hne
    obtain ⟨a, b, c, d⟩ := x0
    have HG : Hid (isLfX (a, b, c, d) = true) := Lib.hid (allLf_at hY.2.1 h0)
    have HC := Lib.hid hcells
    have H0 := Lib.hid h0
    clear hr hl hY h0 hne hcells
    go_enter Try.func20, Try.ntmps20
    go_wp2_with fail
    refine (HI.out _ (by (repeat' (first | (with_reducible exact Below.refl _ _) | (with_reducible assumption) | (with_reducible refine belowNext ?_ (by with_reducible assumption)) | (with_reducible refine belowAlloc ?_ _) | (with_reducible refine Below.drew ?_) | (with_reducible refine below_drewN ?_ _) | (with_reducible refine Below.setCell ?_ ?_ _) | go_size | (with_reducible refine sizeOf' ?_) | (with_reducible refine sizeAdd ?_) | (dsimp only; first | (with_reducible refine sizeOf' ?_) | (with_reducible refine sizeAdd ?_)))))).mono ?_
    rintro e w1 ⟨⟨r, rfl, HQ⟩, hb1⟩
    obtain ⟨hc1, hf1⟩ := bcell hb1
    have hz1_0 : w.heap.size < w1.heap.size := by have := hb1.size; first | omega | (simp at this; omega)
    obtain rfl : r = true := HQ.out.2 HN.out
    have q1_0_0 : w1.cell? ⟨w.heap.size, 0, none⟩ = some (.int .i64 0) := cellThru hb1 (by simp <;> omega) (by simp [go_sem])
    have q1_0_1 : w1.cell? ⟨w.heap.size, 1, none⟩ = some (.int .i64 0) := cellThru hb1 (by simp <;> omega) (by simp [go_sem])
    have q1_0_2 : w1.cell? ⟨w.heap.size, 2, none⟩ = some (.int .i64 0) := cellThru hb1 (by simp <;> omega) (by simp [go_sem])
    have q1_0_3 : w1.cell? ⟨w.heap.size, 3, none⟩ = some (.int .i64 0) := cellThru hb1 (by simp <;> omega) (by simp [go_sem])
    have j1_0_0 : w1.frozen? ⟨w.heap.size, 0, none⟩ = false := frozThru hb1 (by simp <;> omega) (by simp [go_sem])
    have j1_0_1 : w1.frozen? ⟨w.heap.size, 1, none⟩ = false := frozThru hb1 (by simp <;> omega) (by simp [go_sem])
    have j1_0_2 : w1.frozen? ⟨w.heap.size, 2, none⟩ = false := frozThru hb1 (by simp <;> omega) (by simp [go_sem])
    have j1_0_3 : w1.frozen? ⟨w.heap.size, 3, none⟩ = false := frozThru hb1 (by simp <;> omega) (by simp [go_sem])
    have B1 : Below w.heap.size w w1 := by
      (repeat' (first | (with_reducible exact Below.refl _ _) | (with_reducible assumption) | (with_reducible refine belowNext ?_ (by with_reducible assumption)) | (with_reducible refine belowAlloc ?_ _) | (with_reducible refine Below.drew ?_) | (with_reducible refine below_drewN ?_ _) | (with_reducible refine Below.setCell ?_ ?_ _) | go_size | (with_reducible refine sizeOf' ?_) | (with_reducible refine sizeAdd ?_) | (dsimp only; first | (with_reducible refine sizeOf' ?_) | (with_reducible refine sizeAdd ?_))))
    obtain ⟨x0, x1, x2, x3⟩ := (HC.out 0 a b c d H0.out).next B1 hbb
    simp only [Nat.zero_mul, Nat.add_zero] at x0 x1 x2 x3
    clear HQ HI hb1 hc1 hf1
    go_wp2
    have hst : LgSt w w.heap.size w1.heap.size l (a, b, c, d) 1 (a, b, c, d) (w1.alloc (.cells #[.int .i64 a, .int .i64 b, .int .i64 c, .int .i64 d] 34)) := by
      refine ⟨⟨by simp [go_sem], by simp [go_sem], by simp [go_sem], by simp [go_sem]⟩, ⟨by simp [go_sem], by simp [go_sem], by simp [go_sem], by simp [go_sem]⟩, ?_, ?_, by simp, ?_, HG.out, rfl⟩
      · exact (⟨q1_0_0, q1_0_1, q1_0_2, q1_0_3⟩ : Cells4 w1 w.heap.size 0 0 0 0 0).next (belowAlloc (Below.refl _ _) _) hz1_0
      · exact (⟨j1_0_0, j1_0_1, j1_0_2, j1_0_3⟩ : Free4 w1 w.heap.size 0).next (belowAlloc (Below.refl _ _) _) hz1_0
      · exact belowAlloc B1 _
    have HS := Lib.hid hst
    have hs1 := hz1_0
    clear hz0
    clear hst x0 x1 x2 x3 q1_0_0 q1_0_1 q1_0_2 q1_0_3 j1_0_0 j1_0_1 j1_0_2 j1_0_3 B1 hz1_0
    go_loopw [5] (fun i wr => ∃ (k : Nat) (m : Lf4), k ≤ len ∧ i = .int .i64 k ∧ Hid (LgSt w w.heap.size w1.heap.size l (a, b, c, d) k m wr)) (fun i _ => len - (intOf i).toNat)
    case atStart => exact ⟨1, _, by omega, rfl, HS⟩
    case round =>
      obtain ⟨k, ⟨m1, m2, m3, m4⟩, hk, rfl, H⟩ := hrel
      obtain ⟨⟨y0, y1, y2, y3⟩, ⟨f0, f1, f2, f3⟩, ⟨z0, z1, z2, z3⟩, ⟨g0, g1, g2, g3⟩, hz, hB, hG, hE⟩ := id H.out
      dsimp only at y0 y1 y2 y3
      simp only [Nat.zero_add] at y0 y1 y2 y3 f0 f1 f2 f3 z0 z1 z2 z3 g0 g1 g2 g3
      have hzr : w.heap.size < wr.heap.size := by omega
      by_cases hlt : k < len
      · obtain ⟨n, d', m', c', hx⟩ := lfAt (l := l) (k := k) (by have := HL.out; omega)
        obtain ⟨x0, x1, x2, x3⟩ := (HC.out k n d' m' c' hx).next hB hbb
        obtain ⟨r1, r2, -⟩ := isLf_yes (allLf_at HA.out hx)
        obtain ⟨r3, r4, -⟩ := isLf_yes hG
        have HF1 : Hid (∀ w, Calls Try.prog 46 #[ang m1 m2, ang m3 m4] w fun e w' => e = .returned (ang (dsN m1 m2 m3 m4) (dsD m1 m2 m3 m4)) ∧ Below w.heap.size w w') := Lib.hid (fun w => specDist1 m1 m2 m3 m4 w (okOf r3) (okOf r4))
        have HF2 : Hid (∀ w, Calls Try.prog 46 #[ang n d', ang m' c'] w fun e w' => e = .returned (ang (dsN n d' m' c') (dsD n d' m' c')) ∧ Below w.heap.size w w') := Lib.hid (fun w => specDist1 n d' m' c' w (okOf r1) (okOf r2))
        have HF3 : Hid (∀ w, Calls Try.prog 53 #[ang (dsN m1 m2 m3 m4) (dsD m1 m2 m3 m4), ang (dsN n d' m' c') (dsD n d' m' c')] w fun e w' => e = .returned (.bool (lngB (m1, m2, m3, m4) (n, d', m', c'))) ∧ Below w.heap.size w w') := Lib.hid (fun w => specLessW _ _ _ _ w (ds_W (okOf r3) (okOf r4)) (ds_W (okOf r1) (okOf r2)))
        have HX := Lib.hid hx
        have hGx : Hid (isLfX (n, d', m', c') = true) := Lib.hid (allLf_at HA.out hx)
        clear hx r1 r2 r3 r4 hG hE
        generalize dsN m1 m2 m3 m4 = u1 at *
        generalize dsD m1 m2 m3 m4 = u2 at *
        generalize dsN n d' m' c' = v1 at *
        generalize dsD n d' m' c' = v2 at *
        have hbw : b' < wr.heap.size := by omega
        clear hpos HS
        cases hT : lngB (m1, m2, m3, m4) (n, d', m', c')
        · rw [hT] at HF3
          have HQ := Lib.hid (H.out.step HX.out hT)
          clear hT f0 f1 f2 f3 z0 z1 z2 z3 g0 g1 g2 g3
          have H0 : w1.heap.size < wr.drew.heap.size ∧ b' < wr.drew.heap.size ∧ b' < wr.drew.heap.size ∧ Below wr.heap.size wr wr.drew ∧ wr.drew.cell? ⟨w1.heap.size, 0, none⟩ = some (.int .i64 m1) ∧ wr.drew.cell? ⟨w1.heap.size, 1, none⟩ = some (.int .i64 m2) ∧ wr.drew.cell? ⟨w1.heap.size, 2, none⟩ = some (.int .i64 m3) ∧ wr.drew.cell? ⟨w1.heap.size, 3, none⟩ = some (.int .i64 m4) ∧
              wr.drew.cell? ⟨b', off + k * 4, none⟩ = some (.int .i64 n) ∧ wr.drew.cell? ⟨b', off + k * 4 + 1, none⟩ = some (.int .i64 d') ∧ wr.drew.cell? ⟨b', off + k * 4 + 2, none⟩ = some (.int .i64 m') ∧ wr.drew.cell? ⟨b', off + k * 4 + 2 + 1, none⟩ = some (.int .i64 c') := ⟨hz, hbw, hbw, (Below.refl _ _).drew, y0, y1, y2, y3, x0, x1, x2, x3⟩
          clear x0 x1 x2 x3 y0 y1 y2 y3
          go_wp2_with fail
          go_region_held3 (fun W' => w1.heap.size < W'.heap.size ∧ b' < W'.heap.size ∧ b' < W'.heap.size ∧ Below wr.heap.size wr W' ∧ W'.cell? ⟨w1.heap.size, 0, none⟩ = some (.int .i64 m1) ∧ W'.cell? ⟨w1.heap.size, 1, none⟩ = some (.int .i64 m2) ∧ W'.cell? ⟨w1.heap.size, 2, none⟩ = some (.int .i64 m3) ∧ W'.cell? ⟨w1.heap.size, 3, none⟩ = some (.int .i64 m4) ∧
              W'.cell? ⟨b', off + k * 4, none⟩ = some (.int .i64 n) ∧ W'.cell? ⟨b', off + k * 4 + 1, none⟩ = some (.int .i64 d') ∧ W'.cell? ⟨b', off + k * 4 + 2, none⟩ = some (.int .i64 m') ∧ W'.cell? ⟨b', off + k * 4 + 2 + 1, none⟩ = some (.int .i64 c'))
            (first | with_reducible exact keepPB (by with_reducible assumption) (by with_reducible assumption) | with_reducible exact H0)
            (first
            | (go_at_call 46; (with_reducible refine (HF1.out _).mono ?_); rintro e' w3 ⟨rfl, hb3⟩)
            | (go_at_call 46; (with_reducible refine (HF2.out _).mono ?_); rintro e' w4 ⟨rfl, hb4⟩)
            | (go_at_call 53; (with_reducible refine (HF3.out _).mono ?_); rintro e' w5 ⟨rfl, hb5⟩))
          all_goals
            rename_i hHeld
            have HQ5 := Lib.hid (HQ.out.next (W := w5) (by omega) hHeld.2.2.2.1)
            clear hHeld H0
            go_wp2
            go_roundw
            case rel => exact ⟨k + 1, _, by omega, by go_num, HQ5⟩
            case measure => simp [intOf]; omega
        · rw [hT] at HF3
          have HE : Hid (bestL (n, d', m', c') (l.drop (k + 1)) = bestL (a, b, c, d) (l.drop 1)) := Lib.hid (by rw [← best_yes HX.out hT]; exact H.out.e)
          clear hT f0 f1 f2 f3 z0 z1 z2 z3 g0 g1 g2 g3
          have H0 : w1.heap.size < wr.drew.heap.size ∧ b' < wr.drew.heap.size ∧ b' < wr.drew.heap.size ∧ Below wr.heap.size wr wr.drew ∧ wr.drew.cell? ⟨w1.heap.size, 0, none⟩ = some (.int .i64 m1) ∧ wr.drew.cell? ⟨w1.heap.size, 1, none⟩ = some (.int .i64 m2) ∧ wr.drew.cell? ⟨w1.heap.size, 2, none⟩ = some (.int .i64 m3) ∧ wr.drew.cell? ⟨w1.heap.size, 3, none⟩ = some (.int .i64 m4) ∧
              wr.drew.cell? ⟨b', off + k * 4, none⟩ = some (.int .i64 n) ∧ wr.drew.cell? ⟨b', off + k * 4 + 1, none⟩ = some (.int .i64 d') ∧ wr.drew.cell? ⟨b', off + k * 4 + 2, none⟩ = some (.int .i64 m') ∧ wr.drew.cell? ⟨b', off + k * 4 + 2 + 1, none⟩ = some (.int .i64 c') := ⟨hz, hbw, hbw, (Below.refl _ _).drew, y0, y1, y2, y3, x0, x1, x2, x3⟩
          clear x0 x1 x2 x3 y0 y1 y2 y3
          go_wp2_with fail
          go_region_held3 (fun W' => w1.heap.size < W'.heap.size ∧ b' < W'.heap.size ∧ b' < W'.heap.size ∧ Below wr.heap.size wr W' ∧ W'.cell? ⟨w1.heap.size, 0, none⟩ = some (.int .i64 m1) ∧ W'.cell? ⟨w1.heap.size, 1, none⟩ = some (.int .i64 m2) ∧ W'.cell? ⟨w1.heap.size, 2, none⟩ = some (.int .i64 m3) ∧ W'.cell? ⟨w1.heap.size, 3, none⟩ = some (.int .i64 m4) ∧
              W'.cell? ⟨b', off + k * 4, none⟩ = some (.int .i64 n) ∧ W'.cell? ⟨b', off + k * 4 + 1, none⟩ = some (.int .i64 d') ∧ W'.cell? ⟨b', off + k * 4 + 2, none⟩ = some (.int .i64 m') ∧ W'.cell? ⟨b', off + k * 4 + 2 + 1, none⟩ = some (.int .i64 c'))
            (first | with_reducible exact keepPB (by with_reducible assumption) (by with_reducible assumption) | with_reducible exact H0)
            (first
            | (go_at_call 46; (with_reducible refine (HF1.out _).mono ?_); rintro e' w3 ⟨rfl, hb3⟩)
            | (go_at_call 46; (with_reducible refine (HF2.out _).mono ?_); rintro e' w4 ⟨rfl, hb4⟩)
            | (go_at_call 53; (with_reducible refine (HF3.out _).mono ?_); rintro e' w5 ⟨rfl, hb5⟩))
          all_goals
            rename_i hHeld
            have H5 := Lib.hid (H.out.next (W := w5) (by omega) hHeld.2.2.2.1)
            clear hHeld H0
            obtain ⟨⟨y0, y1, y2, y3⟩, ⟨f0, f1, f2, f3⟩, ⟨z0, z1, z2, z3⟩, ⟨g0, g1, g2, g3⟩, hz, hB, hG, hE⟩ := id H5.out
            dsimp only at y0 y1 y2 y3
            simp only [Nat.zero_add] at y0 y1 y2 y3 f0 f1 f2 f3 z0 z1 z2 z3 g0 g1 g2 g3
            obtain ⟨x0, x1, x2, x3⟩ := (HC.out k n d' m' c' HX.out).next hB hbb
            clear hE hG
            have hn0 : w.heap.size ≠ w1.heap.size := by omega
            go_wp2
            go_roundw
            case rel =>
              refine ⟨k + 1, (n, d', m', c'), by omega, by go_num, Lib.hid ⟨⟨by simp [go_sem, y0], by simp [go_sem, y1], by simp [go_sem, y2], by simp [go_sem, y3]⟩, ⟨by simp [go_sem, f0], by simp [go_sem, f1], by simp [go_sem, f2], by simp [go_sem, f3]⟩, ⟨by simp [go_sem, z0], by simp [go_sem, z1], by simp [go_sem, z2], by simp [go_sem, z3]⟩, ⟨by simp [go_sem, g0], by simp [go_sem, g1], by simp [go_sem, g2], by simp [go_sem, g3]⟩, by simp; omega, ?_, hGx.out, HE.out⟩⟩
              (repeat' (first | (with_reducible exact Below.refl _ _) | (with_reducible assumption) | (with_reducible refine belowNext ?_ (by with_reducible assumption)) | (with_reducible refine belowAlloc ?_ _) | (with_reducible refine Below.drew ?_) | (with_reducible refine below_drewN ?_ _) | (with_reducible refine Below.setCell ?_ ?_ _) | go_size | (with_reducible refine sizeOf' ?_) | (with_reducible refine sizeAdd ?_) | (dsimp only; first | (with_reducible refine sizeOf' ?_) | (with_reducible refine sizeAdd ?_))))
            case measure => simp [intOf]; omega
      · have HN := Lib.hid (best_end (l := l) (k := k) (m := (m1, m2, m3, m4)) (by have := HL.out; omega))
        have HE := Lib.hid (HN.out.symm.trans hE)
        clear hE hG
        go_wp2
        refine bodyPost_ret (v := resL m1 m2 m3 m4 0) (by simp [results, Try.results20, go_sem, z0, z1, z2, z3]) rfl ⟨by rw [← HE.out], ?_⟩
        (repeat' (first | (with_reducible exact Below.refl _ _) | (with_reducible assumption) | (with_reducible refine belowNext ?_ (by with_reducible assumption)) | (with_reducible refine belowAlloc ?_ _) | (with_reducible refine Below.drew ?_) | (with_reducible refine below_drewN ?_ _) | (with_reducible refine Below.setCell ?_ ?_ _) | go_size | (with_reducible refine sizeOf' ?_) | (with_reducible refine sizeAdd ?_) | (dsimp only; first | (with_reducible refine sizeOf' ?_) | (with_reducible refine sizeAdd ?_))))

set_option maxHeartbeats 2000000 in
theorem lawLongestLeaf (A : Option Addr) (len cap : Nat) (l : List Lf4) (w : World) (hr : LfRow w w.heap.size A l) (hl : l.length = len) (hm : len ≤ 9223372036854775807) :
    Calls Try.prog 5 #[.slice A len cap] w fun e w' => e = .returned (.bool true) ∧ Below w.heap.size w w' := by
  have HZ := Lib.hid (szLf A len cap 1048576 w (by omega) (by omega) hm)
  by_cases h : (1048576 : Int) < (len : Int)
  · rw [if_pos h] at HZ
    clear hr hl h
    go_enter Try.func5, Try.ntmps5
    go_wp2_with fail
    refine HZ.out.mono ?_
    rintro e w1 ⟨rfl, rfl⟩
    go_wp2
    go_ret
    exact ⟨rfl, Below.refl _ _⟩
  · rw [if_neg h] at HZ
    have hlt : len ≤ 1048576 := by omega
    have nn : ¬ ((1048576 : Int) - (len : Int) < 0) := by omega
    have HT : Hid (∀ W, Below w.heap.size w W → Calls Try.prog 21 #[.slice A len cap] W fun e w' => ∃ A', e = .returned (.slice A' len len) ∧ LfOwn w' W.heap.size A' l ∧ Below W.heap.size W w') :=
      Lib.hid (fun W hB => toLfS A len cap l W ((hr.below hB).more hB.size) hl hlt)
    obtain ⟨⟨x1, x2, x3, x4⟩, C, hx⟩ := lg_is l
    have HS := Lib.hid (fun A' W (hr' : LfRow W W.heap.size A' l) => specLg A' len len l W hr' hl (by omega) _ _ hx)
    have HI := Lib.hid (fun A' W (hr' : LfRow W W.heap.size A' l) => implLg A' len len l W hr' hl (by omega) (Nat.le_refl _) _ _ hx)
    clear hx
    have HL := Lib.hid hl
    clear hr hl h
    generalize hleft : (1048576 : Int) - (len : Int) = left at *
    go_enter Try.func5, Try.ntmps5
    go_wp2_with fail
    refine HZ.out.mono ?_
    rintro e w1 ⟨rfl, rfl⟩
    go_wp2_with fail
    refine (HT.out _ (Below.refl _ _)).mono ?_
    rintro e w2 ⟨A2, rfl, ho2, hb2⟩
    have R2 := Lib.hid ho2.row
    clear ho2
    go_wp2_with fail
    refine (HS.out _ _ R2.out).mono ?_
    rintro e w3 ⟨rfl, hb3⟩
    have B3 : Below w.heap.size w w3 := belowNext hb2 hb3
    clear hb2 hb3 R2
    go_wp2_with fail
    refine (HT.out _ (by (repeat' (first | (with_reducible exact Below.refl _ _) | (with_reducible assumption) | (with_reducible refine belowNext ?_ (by with_reducible assumption)) | (with_reducible refine belowAlloc ?_ _) | (with_reducible refine Below.drew ?_) | (with_reducible refine below_drewN ?_ _) | (with_reducible refine Below.setCell ?_ ?_ _) | go_size | (with_reducible refine sizeOf' ?_) | (with_reducible refine sizeAdd ?_) | (dsimp only; first | (with_reducible refine sizeOf' ?_) | (with_reducible refine sizeAdd ?_)))))).mono ?_
    rintro e w4 ⟨A4, rfl, ho4, hb4⟩
    have R4 := Lib.hid ho4.row
    have B4 : Below w.heap.size w w4 := by
      (repeat' (first | (with_reducible exact Below.refl _ _) | (with_reducible assumption) | (with_reducible refine belowNext ?_ (by with_reducible assumption)) | (with_reducible refine belowAlloc ?_ _) | (with_reducible refine Below.drew ?_) | (with_reducible refine below_drewN ?_ _) | (with_reducible refine Below.setCell ?_ ?_ _) | go_size | (with_reducible refine sizeOf' ?_) | (with_reducible refine sizeAdd ?_) | (dsimp only; first | (with_reducible refine sizeOf' ?_) | (with_reducible refine sizeAdd ?_))))
    have hw34 : w3.heap.size < w4.heap.size := by have := hb4.size; simp at this; omega
    obtain ⟨hc4, hf4⟩ := bcell hb4
    clear ho4
    go_wp2_with fail
    refine (HI.out _ _ R4.out).mono ?_
    rintro e w5 ⟨rfl, hb5⟩
    have R5 := Lib.hid (R4.out.next hb5)
    have B5 : Below w.heap.size w w5 := belowNext B4 hb5
    have hw35 : w3.heap.size < w5.heap.size := by have := hb5.size; omega
    obtain ⟨hc5, hf5⟩ := bcell hb5
    go_wp2_with fail
    refine (eqLfSame _ _ _ _ _).mono ?_
    rintro e w6 ⟨rfl, hb6⟩
    have B56 : Below w5.heap.size w5 w6 := by
      (repeat' (first | (with_reducible exact Below.refl _ _) | (with_reducible assumption) | (with_reducible refine belowNext ?_ (by with_reducible assumption)) | (with_reducible refine belowAlloc ?_ _) | (with_reducible refine Below.drew ?_) | (with_reducible refine below_drewN ?_ _) | (with_reducible refine Below.setCell ?_ ?_ _) | go_size | (with_reducible refine sizeOf' ?_) | (with_reducible refine sizeAdd ?_) | (dsimp only; first | (with_reducible refine sizeOf' ?_) | (with_reducible refine sizeAdd ?_))))
    have B6 : Below w.heap.size w w6 := belowNext B5 B56
    have R6 := Lib.hid (R5.out.next B56)
    clear hb4 hb5 hb6 hc4 hf4 hc5 hf5 hw34 hw35 B56 B5 B4 R5 R4
    go_wp2_with fail
    refine (HT.out _ B6).mono ?_
    rintro e w7 ⟨A7, rfl, ho7, hb7⟩
    have R7 := Lib.hid ho7.row
    have R67 := Lib.hid (R6.out.next hb7)
    have B7 : Below w.heap.size w w7 := belowNext B6 hb7
    clear ho7 hb7
    go_wp2_with fail
    refine (eqLfS _ _ _ _ _ l _ R67.out R7.out HL.out (by omega)).mono ?_
    rintro e w8 ⟨rfl, hb8⟩
    have B8 : Below w.heap.size w w8 := belowNext B7 hb8
    go_wp2
    go_ret
    exact ⟨rfl, B8⟩
end Go.Proofs.Ytlmgpecfbpcgaaa

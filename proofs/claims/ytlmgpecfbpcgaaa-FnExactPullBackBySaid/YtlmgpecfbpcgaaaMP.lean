/-
  Contracts: PullBackBy, on the model's side.
  Contracts: minor leaves, on the program's side: a refusal is a panic.
  Contracts: a leaf pulled back by a candidate, on the program's side; written by genM20.py.
  Contracts: a leaf pulled back by a candidate, on the program's side: which pairs are free; written by genM21.py.
  Contracts: the closure that pulls a leaf back by a leaf that may be minor; written by genM22.py.
  Contracts: behindDoor for lists of leaves: a refusal goes through the door as a code; PullBackBy, on the program's side.
  The walk of the law of PullBackBy: two leaves, the answer a list of leaves.
-/
import Derived.Test.YtlmgpecfbpcgaaaMQ
import Derived.Test.YtlmgpecfbpcgaaaVX
import Derived.Test.YtlmgpecfbpcgaaaM12
import Derived.WalkLawsBesides
import Derived.Recover
namespace Go.Proofs.Ytlmgpecfbpcgaaa
open Go.RowKit

/-- What PullBackBy answers: k tells whether the second leaf is minor. -/
def pullL (k : Int) (x m : Lf4) : List Lf4 := if isLfX x && isLfX m then (if k = 0 then backL x m (wayXX m) else []) else []
def pullC (k : Int) (x m : Lf4) : Int := if isLfX x && isLfX m then (if k = 0 then backC x m (wayXX m) else k) else 1
theorem pull_no {k : Int} {x m : Lf4} (h : (isLfX x && isLfX m) = false) : pullL k x m = [] ∧ pullC k x m = 1 := by unfold pullL pullC; simp [h]
theorem pull_code {k : Int} {x m : Lf4} (h : (isLfX x && isLfX m) = true) (hk : k ≠ 0) : pullL k x m = [] ∧ pullC k x m = k := by unfold pullL pullC; simp [h, hk]
theorem pull_yes {x m : Lf4} (h : (isLfX x && isLfX m) = true) : pullL 0 x m = backL x m (wayXX m) ∧ pullC 0 x m = backC x m (wayXX m) := by unfold pullL pullC; simp [h]
theorem min_some (x : Lf4) : ∃ k, MinIs x k := by
  rcases min_cases x with h | ⟨h, h2⟩ | ⟨h, h2, r, hf⟩
  · exact ⟨5, .inl ⟨h, rfl⟩⟩
  · exact ⟨3, .inr (.inl ⟨h, h2, rfl⟩)⟩
  · obtain ⟨v, hv⟩ : ∃ v, FailIs x r (wayXX x) v := by
      unfold FailIs
      by_cases p1 : NoCross r
      · by_cases p2 : AnyL r (fun y => lngB y x = true)
        · exact ⟨3, .inr (.inl ⟨p1, p2, rfl⟩)⟩
        · by_cases p3 : AnyL r (fun y => CrossOne y (wayXX x))
          · exact ⟨4, .inr (.inr (.inl ⟨p1, p2, p3, rfl⟩))⟩
          · exact ⟨0, .inr (.inr (.inr ⟨p1, p2, p3, rfl⟩))⟩
      · exact ⟨2, .inl ⟨p1, rfl⟩⟩
    by_cases h0 : v = 0
    · exact ⟨0, .inr (.inr ⟨h, h2, r, v, hf, hv, .inr ⟨h0, rfl⟩⟩)⟩
    · exact ⟨5, .inr (.inr ⟨h, h2, r, v, hf, hv, .inl ⟨h0, rfl⟩⟩)⟩

set_option maxHeartbeats 1000000 in
theorem specBack (a b c d e f g h : Int) (JA : Option Addr) (J : List Lf4) (w : World) (h1 : isLf a b c d = true) (hJ : J.length = 2) (hj : allLf J = true) (hr : LfRow w w.heap.size JA J) :
    Calls Try.prog 65 #[leafV a b c d, leafV e f g h, .slice JA 2 2] w (ResBk w (backL (a, b, c, d) (e, f, g, h) J) (backC (a, b, c, d) (e, f, g, h) J)) := by
  by_cases hn : ((a, b, c, d) : Lf4) = (e, f, g, h)
  · exact specBack0 a b c d e f g h JA J w h1 hJ hr (.inl hn)
  · cases h3 : pbHal a b c d
    · exact specBack0 a b c d e f g h JA J w h1 hJ hr (.inr h3)
    · exact specBack1 a b c d e f g h JA J w h1 hJ hj hr hn h3

set_option maxRecDepth 100000 in
set_option maxHeartbeats 2000000 in
theorem specPull (a b c d e f g h : Int) (w : World) (k : Int) (hk : MinIs (e, f, g, h) k) :
    Calls Try.prog 31 #[leafV a b c d, leafV e f g h] w (ResLf w (pullL k (a, b, c, d) (e, f, g, h)) (pullC k (a, b, c, d) (e, f, g, h))) := by
  have H1 := Lib.hid (fun w => specLf1 a b c d w)
  have H2 := Lib.hid (fun w => specLf1 e f g h w)
  cases h1 : isLf a b c d
  · obtain ⟨E1, E2⟩ := pull_no (k := k) (x := (a, b, c, d)) (m := (e, f, g, h)) (by show (isLf a b c d && isLf e f g h) = false; rw [h1]; rfl)
    rw [E1, E2]
    rw [h1] at H1
    clear h1 E1 E2 hk
    go_enter Try.func31, Try.ntmps31
    go_wp2_with fail
    refine (H1.out _).mono ?_
    rintro e w1 ⟨rfl, hb1⟩
    obtain ⟨hc1, hf1⟩ := bcell hb1
    have hz1_0 : w.heap.size < w1.heap.size := by have := hb1.size; first | omega | (simp at this; omega)
    have hz1_1 : w.heap.size + 1 < w1.heap.size := by have := hb1.size; first | omega | (simp at this; omega)
    go_wp2
    go_ret2
    refine ⟨none, 0, rfl, lfOwn_nil, ?_⟩
    (repeat' (first | (with_reducible exact Below.refl _ _) | (with_reducible assumption) | (with_reducible refine belowNext ?_ (by with_reducible assumption)) | (with_reducible refine belowAlloc ?_ _) | (with_reducible refine Below.drew ?_) | (with_reducible refine below_drewN ?_ _) | (with_reducible refine Below.setCell ?_ ?_ _) | go_size | (with_reducible refine sizeOf' ?_) | (with_reducible refine sizeAdd ?_) | (dsimp only; first | (with_reducible refine sizeOf' ?_) | (with_reducible refine sizeAdd ?_))))
  · cases h2 : isLf e f g h
    · obtain ⟨E1, E2⟩ := pull_no (k := k) (x := (a, b, c, d)) (m := (e, f, g, h)) (by show (isLf a b c d && isLf e f g h) = false; rw [h1, h2]; rfl)
      rw [E1, E2]
      rw [h1] at H1
      rw [h2] at H2
      clear h1 h2 E1 E2 hk
      go_enter Try.func31, Try.ntmps31
      go_wp2_with fail
      refine (H1.out _).mono ?_
      rintro e w1 ⟨rfl, hb1⟩
      obtain ⟨hc1, hf1⟩ := bcell hb1
      have hz1_0 : w.heap.size < w1.heap.size := by have := hb1.size; first | omega | (simp at this; omega)
      have hz1_1 : w.heap.size + 1 < w1.heap.size := by have := hb1.size; first | omega | (simp at this; omega)
      go_wp2_with fail
      refine (H2.out _).mono ?_
      rintro e w2 ⟨rfl, hb2⟩
      obtain ⟨hc2, hf2⟩ := bcell hb2
      have hz2_0 : w.heap.size < w2.heap.size := by have := hb2.size; first | omega | (simp at this; omega)
      have hz2_1 : w.heap.size + 1 < w2.heap.size := by have := hb2.size; first | omega | (simp at this; omega)
      go_wp2
      go_ret2
      refine ⟨none, 0, rfl, lfOwn_nil, ?_⟩
      (repeat' (first | (with_reducible exact Below.refl _ _) | (with_reducible assumption) | (with_reducible refine belowNext ?_ (by with_reducible assumption)) | (with_reducible refine belowAlloc ?_ _) | (with_reducible refine Below.drew ?_) | (with_reducible refine below_drewN ?_ _) | (with_reducible refine Below.setCell ?_ ?_ _) | go_size | (with_reducible refine sizeOf' ?_) | (with_reducible refine sizeAdd ?_) | (dsimp only; first | (with_reducible refine sizeOf' ?_) | (with_reducible refine sizeAdd ?_))))
    · have hb : (isLfX (a, b, c, d) && isLfX (e, f, g, h)) = true := by show (isLf a b c d && isLf e f g h) = true; rw [h1, h2]; rfl
      rw [h1] at H1
      rw [h2] at H2
      have HM := Lib.hid (fun w => specMinor e f g h w h2)
      have HB := Lib.hid (fun (JA : Option Addr) (w : World) (hh : pbHal e f g h = true) (hr : LfRow w w.heap.size JA (wayXX (e, f, g, h))) => specBack a b c d e f g h JA (wayXX (e, f, g, h)) w h1 rfl (way_lf h2 hh) hr)
      have HN : Hid (∀ k', MinIs (e, f, g, h) k' → k' ≠ 0 → pullL k (a, b, c, d) (e, f, g, h) = [] ∧ pullC k (a, b, c, d) (e, f, g, h) = k') := Lib.hid (fun k' h' hn => by
        obtain rfl := min_one hk h'
        exact pull_code hb hn)
      have HY : Hid (MinIs (e, f, g, h) 0 → pullL k (a, b, c, d) (e, f, g, h) = backL (a, b, c, d) (e, f, g, h) (wayXX (e, f, g, h)) ∧ pullC k (a, b, c, d) (e, f, g, h) = backC (a, b, c, d) (e, f, g, h) (wayXX (e, f, g, h))) := Lib.hid (fun h' => by
        obtain rfl := min_one hk h'
        exact pull_yes hb)
      clear h1 h2 hk hb
      generalize pullL k (a, b, c, d) (e, f, g, h) = RL at *
      generalize pullC k (a, b, c, d) (e, f, g, h) = RC at *
      generalize backL (a, b, c, d) (e, f, g, h) (wayXX (e, f, g, h)) = BL at *
      generalize backC (a, b, c, d) (e, f, g, h) (wayXX (e, f, g, h)) = BC at *
      obtain ⟨i0, hi, hz0, hz1, hz2⟩ := infoL_parts infoLf
      go_enter Try.func31, Try.ntmps31
      go_wp2_with fail
      refine (H1.out _).mono ?_
      rintro e w1 ⟨rfl, hb1⟩
      obtain ⟨hc1, hf1⟩ := bcell hb1
      have hz1_0 : w.heap.size < w1.heap.size := by have := hb1.size; first | omega | (simp at this; omega)
      have hz1_1 : w.heap.size + 1 < w1.heap.size := by have := hb1.size; first | omega | (simp at this; omega)
      have q1_0_0 : w1.cell? ⟨w.heap.size, 0, none⟩ = some (.int .i64 a) := cellThru hb1 (by simp <;> omega) (by simp [go_sem])
      have q1_0_1 : w1.cell? ⟨w.heap.size, 1, none⟩ = some (.int .i64 b) := cellThru hb1 (by simp <;> omega) (by simp [go_sem])
      have q1_0_2 : w1.cell? ⟨w.heap.size, 2, none⟩ = some (.int .i64 c) := cellThru hb1 (by simp <;> omega) (by simp [go_sem])
      have q1_0_3 : w1.cell? ⟨w.heap.size, 3, none⟩ = some (.int .i64 d) := cellThru hb1 (by simp <;> omega) (by simp [go_sem])
      have q1_1_0 : w1.cell? ⟨w.heap.size + 1, 0, none⟩ = some (.int .i64 e) := cellThru hb1 (by simp <;> omega) (by simp [go_sem])
      have q1_1_1 : w1.cell? ⟨w.heap.size + 1, 1, none⟩ = some (.int .i64 f) := cellThru hb1 (by simp <;> omega) (by simp [go_sem])
      have q1_1_2 : w1.cell? ⟨w.heap.size + 1, 2, none⟩ = some (.int .i64 g) := cellThru hb1 (by simp <;> omega) (by simp [go_sem])
      have q1_1_3 : w1.cell? ⟨w.heap.size + 1, 3, none⟩ = some (.int .i64 h) := cellThru hb1 (by simp <;> omega) (by simp [go_sem])
      go_wp2_with fail
      refine (H2.out _).mono ?_
      rintro e w2 ⟨rfl, hb2⟩
      obtain ⟨hc2, hf2⟩ := bcell hb2
      have hz2_0 : w.heap.size < w2.heap.size := by have := hb2.size; first | omega | (simp at this; omega)
      have hz2_1 : w.heap.size + 1 < w2.heap.size := by have := hb2.size; first | omega | (simp at this; omega)
      have q2_0_0 : w2.cell? ⟨w.heap.size, 0, none⟩ = some (.int .i64 a) := by first | exact cellThru hb2 hz1_0 q1_0_0 | (refine cellThru hb2 ?_ (cellThru (belowAlloc (Below.refl _ _) _) hz1_0 q1_0_0); first | omega | (simp; omega)) | (refine cellThru hb2 ?_ (cellThru (belowAlloc (belowAlloc (Below.refl _ _) _) _) hz1_0 q1_0_0); first | omega | (simp; omega)) | (refine cellThru hb2 ?_ ?_; (first | omega | (simp; omega) | go_size); simp [go_sem, q1_0_0])
      have q2_0_1 : w2.cell? ⟨w.heap.size, 1, none⟩ = some (.int .i64 b) := by first | exact cellThru hb2 hz1_0 q1_0_1 | (refine cellThru hb2 ?_ (cellThru (belowAlloc (Below.refl _ _) _) hz1_0 q1_0_1); first | omega | (simp; omega)) | (refine cellThru hb2 ?_ (cellThru (belowAlloc (belowAlloc (Below.refl _ _) _) _) hz1_0 q1_0_1); first | omega | (simp; omega)) | (refine cellThru hb2 ?_ ?_; (first | omega | (simp; omega) | go_size); simp [go_sem, q1_0_1])
      have q2_0_2 : w2.cell? ⟨w.heap.size, 2, none⟩ = some (.int .i64 c) := by first | exact cellThru hb2 hz1_0 q1_0_2 | (refine cellThru hb2 ?_ (cellThru (belowAlloc (Below.refl _ _) _) hz1_0 q1_0_2); first | omega | (simp; omega)) | (refine cellThru hb2 ?_ (cellThru (belowAlloc (belowAlloc (Below.refl _ _) _) _) hz1_0 q1_0_2); first | omega | (simp; omega)) | (refine cellThru hb2 ?_ ?_; (first | omega | (simp; omega) | go_size); simp [go_sem, q1_0_2])
      have q2_0_3 : w2.cell? ⟨w.heap.size, 3, none⟩ = some (.int .i64 d) := by first | exact cellThru hb2 hz1_0 q1_0_3 | (refine cellThru hb2 ?_ (cellThru (belowAlloc (Below.refl _ _) _) hz1_0 q1_0_3); first | omega | (simp; omega)) | (refine cellThru hb2 ?_ (cellThru (belowAlloc (belowAlloc (Below.refl _ _) _) _) hz1_0 q1_0_3); first | omega | (simp; omega)) | (refine cellThru hb2 ?_ ?_; (first | omega | (simp; omega) | go_size); simp [go_sem, q1_0_3])
      have q2_1_0 : w2.cell? ⟨w.heap.size + 1, 0, none⟩ = some (.int .i64 e) := by first | exact cellThru hb2 hz1_1 q1_1_0 | (refine cellThru hb2 ?_ (cellThru (belowAlloc (Below.refl _ _) _) hz1_1 q1_1_0); first | omega | (simp; omega)) | (refine cellThru hb2 ?_ (cellThru (belowAlloc (belowAlloc (Below.refl _ _) _) _) hz1_1 q1_1_0); first | omega | (simp; omega)) | (refine cellThru hb2 ?_ ?_; (first | omega | (simp; omega) | go_size); simp [go_sem, q1_1_0])
      have q2_1_1 : w2.cell? ⟨w.heap.size + 1, 1, none⟩ = some (.int .i64 f) := by first | exact cellThru hb2 hz1_1 q1_1_1 | (refine cellThru hb2 ?_ (cellThru (belowAlloc (Below.refl _ _) _) hz1_1 q1_1_1); first | omega | (simp; omega)) | (refine cellThru hb2 ?_ (cellThru (belowAlloc (belowAlloc (Below.refl _ _) _) _) hz1_1 q1_1_1); first | omega | (simp; omega)) | (refine cellThru hb2 ?_ ?_; (first | omega | (simp; omega) | go_size); simp [go_sem, q1_1_1])
      have q2_1_2 : w2.cell? ⟨w.heap.size + 1, 2, none⟩ = some (.int .i64 g) := by first | exact cellThru hb2 hz1_1 q1_1_2 | (refine cellThru hb2 ?_ (cellThru (belowAlloc (Below.refl _ _) _) hz1_1 q1_1_2); first | omega | (simp; omega)) | (refine cellThru hb2 ?_ (cellThru (belowAlloc (belowAlloc (Below.refl _ _) _) _) hz1_1 q1_1_2); first | omega | (simp; omega)) | (refine cellThru hb2 ?_ ?_; (first | omega | (simp; omega) | go_size); simp [go_sem, q1_1_2])
      have q2_1_3 : w2.cell? ⟨w.heap.size + 1, 3, none⟩ = some (.int .i64 h) := by first | exact cellThru hb2 hz1_1 q1_1_3 | (refine cellThru hb2 ?_ (cellThru (belowAlloc (Below.refl _ _) _) hz1_1 q1_1_3); first | omega | (simp; omega)) | (refine cellThru hb2 ?_ (cellThru (belowAlloc (belowAlloc (Below.refl _ _) _) _) hz1_1 q1_1_3); first | omega | (simp; omega)) | (refine cellThru hb2 ?_ ?_; (first | omega | (simp; omega) | go_size); simp [go_sem, q1_1_3])
      have B2 : Below w.heap.size w w2 := by
        (repeat' (first | (with_reducible exact Below.refl _ _) | (with_reducible assumption) | (with_reducible refine belowNext ?_ (by with_reducible assumption)) | (with_reducible refine belowAlloc ?_ _) | (with_reducible refine Below.drew ?_) | (with_reducible refine below_drewN ?_ _) | (with_reducible refine Below.setCell ?_ ?_ _) | go_size | (with_reducible refine sizeOf' ?_) | (with_reducible refine sizeAdd ?_) | (dsimp only; first | (with_reducible refine sizeOf' ?_) | (with_reducible refine sizeAdd ?_))))
      clear q1_0_0 q1_0_1 q1_0_2 q1_0_3 q1_1_0 q1_1_1 q1_1_2 q1_1_3 hb1 hb2 hc1 hf1 hc2 hf2
      go_wp2_with fail
      refine (HM.out _).mono ?_
      rintro e' w3 (⟨k', rfl, hn, HK, hb3⟩ | ⟨JA, rfl, HK, ho, hh, hb3⟩)
      · obtain ⟨rfl, rfl⟩ := HN.out k' HK.out hn
        go_wp2
        go_ret2
        exact ⟨none, 0, rfl, lfOwn_nil, belowNext B2 hb3⟩
      · obtain ⟨rfl, rfl⟩ := HY.out HK.out
        have HO := Lib.hid ho.row
        have q3_0_0 : w3.cell? ⟨w.heap.size, 0, none⟩ = some (.int .i64 a) := by first | exact cellThru hb3 hz2_0 q2_0_0 | (refine cellThru hb3 ?_ (cellThru (belowAlloc (Below.refl _ _) _) hz2_0 q2_0_0); first | omega | (simp; omega)) | (refine cellThru hb3 ?_ (cellThru (belowAlloc (belowAlloc (Below.refl _ _) _) _) hz2_0 q2_0_0); first | omega | (simp; omega)) | (refine cellThru hb3 ?_ ?_; (first | omega | (simp; omega) | go_size); simp [go_sem, q2_0_0])
        have q3_0_1 : w3.cell? ⟨w.heap.size, 1, none⟩ = some (.int .i64 b) := by first | exact cellThru hb3 hz2_0 q2_0_1 | (refine cellThru hb3 ?_ (cellThru (belowAlloc (Below.refl _ _) _) hz2_0 q2_0_1); first | omega | (simp; omega)) | (refine cellThru hb3 ?_ (cellThru (belowAlloc (belowAlloc (Below.refl _ _) _) _) hz2_0 q2_0_1); first | omega | (simp; omega)) | (refine cellThru hb3 ?_ ?_; (first | omega | (simp; omega) | go_size); simp [go_sem, q2_0_1])
        have q3_0_2 : w3.cell? ⟨w.heap.size, 2, none⟩ = some (.int .i64 c) := by first | exact cellThru hb3 hz2_0 q2_0_2 | (refine cellThru hb3 ?_ (cellThru (belowAlloc (Below.refl _ _) _) hz2_0 q2_0_2); first | omega | (simp; omega)) | (refine cellThru hb3 ?_ (cellThru (belowAlloc (belowAlloc (Below.refl _ _) _) _) hz2_0 q2_0_2); first | omega | (simp; omega)) | (refine cellThru hb3 ?_ ?_; (first | omega | (simp; omega) | go_size); simp [go_sem, q2_0_2])
        have q3_0_3 : w3.cell? ⟨w.heap.size, 3, none⟩ = some (.int .i64 d) := by first | exact cellThru hb3 hz2_0 q2_0_3 | (refine cellThru hb3 ?_ (cellThru (belowAlloc (Below.refl _ _) _) hz2_0 q2_0_3); first | omega | (simp; omega)) | (refine cellThru hb3 ?_ (cellThru (belowAlloc (belowAlloc (Below.refl _ _) _) _) hz2_0 q2_0_3); first | omega | (simp; omega)) | (refine cellThru hb3 ?_ ?_; (first | omega | (simp; omega) | go_size); simp [go_sem, q2_0_3])
        have q3_1_0 : w3.cell? ⟨w.heap.size + 1, 0, none⟩ = some (.int .i64 e) := by first | exact cellThru hb3 hz2_1 q2_1_0 | (refine cellThru hb3 ?_ (cellThru (belowAlloc (Below.refl _ _) _) hz2_1 q2_1_0); first | omega | (simp; omega)) | (refine cellThru hb3 ?_ (cellThru (belowAlloc (belowAlloc (Below.refl _ _) _) _) hz2_1 q2_1_0); first | omega | (simp; omega)) | (refine cellThru hb3 ?_ ?_; (first | omega | (simp; omega) | go_size); simp [go_sem, q2_1_0])
        have q3_1_1 : w3.cell? ⟨w.heap.size + 1, 1, none⟩ = some (.int .i64 f) := by first | exact cellThru hb3 hz2_1 q2_1_1 | (refine cellThru hb3 ?_ (cellThru (belowAlloc (Below.refl _ _) _) hz2_1 q2_1_1); first | omega | (simp; omega)) | (refine cellThru hb3 ?_ (cellThru (belowAlloc (belowAlloc (Below.refl _ _) _) _) hz2_1 q2_1_1); first | omega | (simp; omega)) | (refine cellThru hb3 ?_ ?_; (first | omega | (simp; omega) | go_size); simp [go_sem, q2_1_1])
        have q3_1_2 : w3.cell? ⟨w.heap.size + 1, 2, none⟩ = some (.int .i64 g) := by first | exact cellThru hb3 hz2_1 q2_1_2 | (refine cellThru hb3 ?_ (cellThru (belowAlloc (Below.refl _ _) _) hz2_1 q2_1_2); first | omega | (simp; omega)) | (refine cellThru hb3 ?_ (cellThru (belowAlloc (belowAlloc (Below.refl _ _) _) _) hz2_1 q2_1_2); first | omega | (simp; omega)) | (refine cellThru hb3 ?_ ?_; (first | omega | (simp; omega) | go_size); simp [go_sem, q2_1_2])
        have q3_1_3 : w3.cell? ⟨w.heap.size + 1, 3, none⟩ = some (.int .i64 h) := by first | exact cellThru hb3 hz2_1 q2_1_3 | (refine cellThru hb3 ?_ (cellThru (belowAlloc (Below.refl _ _) _) hz2_1 q2_1_3); first | omega | (simp; omega)) | (refine cellThru hb3 ?_ (cellThru (belowAlloc (belowAlloc (Below.refl _ _) _) _) hz2_1 q2_1_3); first | omega | (simp; omega)) | (refine cellThru hb3 ?_ ?_; (first | omega | (simp; omega) | go_size); simp [go_sem, q2_1_3])
        have B3 : Below w.heap.size w w3 := belowNext B2 hb3
        clear ho q2_0_0 q2_0_1 q2_0_2 q2_0_3 q2_1_0 q2_1_1 q2_1_2 q2_1_3 hb3 B2
        go_wp2_with fail
        refine (HB.out JA _ hh HO.out).mono ?_
        rintro e' w4 (⟨rfl, hl, A, rfl, hr, hb4⟩ | ⟨hn, rfl, rfl, hb4⟩)
        · have HR := Lib.hid hr
          have HL := Lib.hid hl
          obtain ⟨br, or, rfl, -, -⟩ := row_at hr (by intro h; rw [h] at hl; cases hl)
          have B4 : Below w.heap.size w w4 := belowNext B3 hb4
          have HNw := Lib.hid (news_of_row4 (hr.below (belowAlloc (Below.refl _ w4) (.cells #[] 34))) rfl)
          have HFl : Hid ((flatL RL).length = 2 * 4) := Lib.hid (by rw [flatL_len, hl])
          clear hr hl hb4 q3_0_0 q3_0_1 q3_0_2 q3_0_3 q3_1_0 q3_1_1 q3_1_2 q3_1_3
          go_wp2_with (at_builtin; refine wpList_append_own_at _ rfl _ _ 41 rfl w4.heap.size 34 i0 (.agg #[.int .i64 0, .int .i64 0, .int .i64 0, .int .i64 0]) 4 32 Try.underlying41 hi hz0 hz1 hz2 rfl (by decide) (.slice (some ⟨w4.heap.size, 0, none⟩) 0 0) 0 [] rfl ⟨rfl, .inr ⟨w4.heap.size, 0, #[], rfl, Nat.le_refl _, heap_alloc_new w4 (.cells #[] 34), by omega, by unfold maxLen; omega, rfl, rfl⟩⟩ ⟨br, or, none⟩ 2 2 (flatL RL) rfl HFl.out HNw.out (flatL_one _) ?r4 ?r5 ?r6 ?_)
          case r4 => unfold maxLen; omega
          case r5 => omega
          case r6 => simp
          intro v' w11 hown' hgrow hnn _
          obtain ⟨A', cA', rfl⟩ := ownSliceL hown'
          have HBx : Below w4.heap.size w4 w11 := (belowAlloc (Below.refl _ w4) (.cells #[] 34)).grown hgrow (by simp) (fun j hj => by simp [Value.ownBlock] at hj; omega)
          have HO2 : Hid (LfOwn w11 w4.heap.size A' RL) := Lib.hid (ownL_of HL.out (by simpa using hown'))
          clear hown' hgrow hnn
          go_wp2
          go_ret2
          refine ⟨A', cA', by rw [HL.out]; rfl, HO2.out.loM B4.size, belowNext B4 HBx⟩
        · go_wp2
          go_ret2
          exact ⟨none, 0, rfl, lfOwn_nil, belowNext B3 hb4⟩

/-- The panic of a refusal. -/
abbrev pan (k : Int) : List PanicEntry := [{ v := .iface 118 (.int .i64 k), recovered := false }]

set_option maxHeartbeats 2000000 in
theorem implMinorNo (a b c d : Int) (w : World) (k : Int) (h : isLf a b c d = true) (hk : MinIs (a, b, c, d) k) (hk0 : k ≠ 0) :
    Calls Try.prog 69 #[leafV a b c d] w fun e w' => e = .panicked (pan k) ∧ Below w.heap.size w w' := by
  obtain ⟨r1, r2, -⟩ := isLf_yes h
  have H2 := Lib.hid (fun w => implShort a b c d w (okOf r1) (okOf r2))
  clear r1 r2
  rcases min_cases (a, b, c, d) with h2 | ⟨h2, h3⟩ | ⟨h2, h4, r, hf⟩
  · obtain rfl := min_one hk (.inl ⟨h2, rfl⟩)
    have h2' : shortB a b c d = false := h2
    rw [h2'] at H2
    clear h h2 h2' hk
    go_enter Try.func69, Try.ntmps69
    go_wp2_with fail
    refine (H2.out _).mono ?_
    rintro e w1 ⟨rfl, hb1⟩
    obtain ⟨hc1, hf1⟩ := bcell hb1
    have hz1_0 : w.heap.size < w1.heap.size := by have := hb1.size; first | omega | (simp at this; omega)
    have hz1_1 : w.heap.size + 1 < w1.heap.size := by have := hb1.size; first | omega | (simp at this; omega)
    go_wp2
    refine ⟨rfl, rfl, ?_⟩
    (repeat' (first | (with_reducible exact Below.refl _ _) | (with_reducible assumption) | (with_reducible refine belowNext ?_ (by with_reducible assumption)) | (with_reducible refine belowAlloc ?_ _) | (with_reducible refine Below.drew ?_) | (with_reducible refine below_drewN ?_ _) | (with_reducible refine Below.setCell ?_ ?_ _) | go_size | (with_reducible refine sizeOf' ?_) | (with_reducible refine sizeAdd ?_) | (dsimp only; first | (with_reducible refine sizeOf' ?_) | (with_reducible refine sizeAdd ?_))))
  · obtain rfl := min_one hk (.inr (.inl ⟨h2, h3, rfl⟩))
    have H3 := Lib.hid (fun w => implCandNo a b c d w h h2 h3)
    have h2' : shortB a b c d = true := h2
    rw [h2'] at H2
    clear h h2 h2' h3 hk
    go_enter Try.func69, Try.ntmps69
    go_wp2_with fail
    refine (H2.out _).mono ?_
    rintro e w1 ⟨rfl, hb1⟩
    obtain ⟨hc1, hf1⟩ := bcell hb1
    have hz1_0 : w.heap.size < w1.heap.size := by have := hb1.size; first | omega | (simp at this; omega)
    have hz1_1 : w.heap.size + 1 < w1.heap.size := by have := hb1.size; first | omega | (simp at this; omega)
    go_wp2_with fail
    refine (H3.out _).mono ?_
    rintro e w2 ⟨⟨A, len, cap, B, len', cap', rfl⟩, hb2⟩
    obtain ⟨hc2, hf2⟩ := bcell hb2
    have hz2_0 : w.heap.size < w2.heap.size := by have := hb2.size; first | omega | (simp at this; omega)
    have hz2_1 : w.heap.size + 1 < w2.heap.size := by have := hb2.size; first | omega | (simp at this; omega)
    go_wp2
    refine ⟨rfl, rfl, ?_⟩
    (repeat' (first | (with_reducible exact Below.refl _ _) | (with_reducible assumption) | (with_reducible refine belowNext ?_ (by with_reducible assumption)) | (with_reducible refine belowAlloc ?_ _) | (with_reducible refine Below.drew ?_) | (with_reducible refine below_drewN ?_ _) | (with_reducible refine Below.setCell ?_ ?_ _) | go_size | (with_reducible refine sizeOf' ?_) | (with_reducible refine sizeAdd ?_) | (dsimp only; first | (with_reducible refine sizeOf' ?_) | (with_reducible refine sizeAdd ?_))))
  · have HV : Hid (∀ v, FailIs (a, b, c, d) r (wayX a b c d) v → v ≠ 0 ∧ k = 5) := Lib.hid (fun v hv => by
      by_cases h0 : v = 0
      · exact absurd (min_one hk (.inr (.inr ⟨h2, h4, r, v, hf, hv, .inr ⟨h0, rfl⟩⟩))) hk0
      · exact ⟨h0, min_one hk (.inr (.inr ⟨h2, h4, r, v, hf, hv, .inl ⟨h0, rfl⟩⟩))⟩)
    have H3 := Lib.hid (fun w => implCand a b c d r w h h2 hf h4)
    have hlen := imF_len 64 (a, b, c, d) [] r hf
    simp at hlen
    have H4 := Lib.hid (fun (A : Option Addr) (cap : Nat) (B : Option Addr) (cap' : Nat) (W : World) (hr : LfRow W W.heap.size A r) (hk : r.length ≤ cap) (hr' : LfRow W W.heap.size B (wayX a b c d)) =>
      implFails (a, b, c, d) A r.length cap r B (wayX a b c d).length cap' (wayX a b c d) W h hr rfl (by omega) hk (im_head hf) (imF_lf _ _ _ _ (show isLfX (a, b, c, d) = true from h) rfl hf) hr' rfl (by simp [wayX]) (way_lf h h4))
    have h2' : shortB a b c d = true := h2
    rw [h2'] at H2
    clear h h2 h2' h4 hf hk hk0
    generalize wayX a b c d = J at *
    go_enter Try.func69, Try.ntmps69
    go_wp2_with fail
    refine (H2.out _).mono ?_
    rintro e w1 ⟨rfl, hb1⟩
    obtain ⟨hc1, hf1⟩ := bcell hb1
    have hz1_0 : w.heap.size < w1.heap.size := by have := hb1.size; first | omega | (simp at this; omega)
    have hz1_1 : w.heap.size + 1 < w1.heap.size := by have := hb1.size; first | omega | (simp at this; omega)
    go_wp2_with fail
    refine (H3.out _).mono ?_
    rintro e w2 ⟨A, cap, B, cap', rfl, ho, ho', hk, hb2⟩
    obtain ⟨hc2, hf2⟩ := bcell hb2
    have hz2_0 : w.heap.size < w2.heap.size := by have := hb2.size; first | omega | (simp at this; omega)
    have hz2_1 : w.heap.size + 1 < w2.heap.size := by have := hb2.size; first | omega | (simp at this; omega)
    have R1 := Lib.hid (ho.row.next (belowAlloc (Below.refl _ _) (.cells #[.slice A r.length cap, .slice B J.length cap'] 80)))
    have R2 := Lib.hid (ho'.row.next (belowAlloc (Below.refl _ _) (.cells #[.slice A r.length cap, .slice B J.length cap'] 80)))
    clear ho ho'
    go_wp2_with fail
    refine (H4.out A cap B cap' _ R1.out hk R2.out).mono ?_
    rintro e w3 ⟨⟨v, rfl, HF⟩, hb3⟩
    obtain ⟨hc3, hf3⟩ := bcell hb3
    have hz3_0 : w.heap.size < w3.heap.size := by have := hb3.size; first | omega | (simp at this; omega)
    have hz3_1 : w.heap.size + 1 < w3.heap.size := by have := hb3.size; first | omega | (simp at this; omega)
    obtain ⟨hv, rfl⟩ := HV.out v HF.out
    clear HV HF
    go_wp2
    refine ⟨rfl, rfl, ?_⟩
    (repeat' (first | (with_reducible exact Below.refl _ _) | (with_reducible assumption) | (with_reducible refine belowNext ?_ (by with_reducible assumption)) | (with_reducible refine belowAlloc ?_ _) | (with_reducible refine Below.drew ?_) | (with_reducible refine below_drewN ?_ _) | (with_reducible refine Below.setCell ?_ ?_ _) | go_size | (with_reducible refine sizeOf' ?_) | (with_reducible refine sizeAdd ?_) | (dsimp only; first | (with_reducible refine sizeOf' ?_) | (with_reducible refine sizeAdd ?_))))

/-- The candidate of a minor leaf. -/
def ResCd (w : World) (x : Lf4) (e : Ending) (w' : World) : Prop :=
  ∃ (r : List Lf4) (A : Option Addr) (cap : Nat) (B : Option Addr) (cap' : Nat), e = .returned (candV A r.length cap B 2 cap') ∧ r[0]? = some x ∧ r.length ≤ 1000000 ∧ LfOwn w' w.heap.size A r ∧ LfOwn w' w.heap.size B (wayXX x) ∧ Below w.heap.size w w'

set_option maxHeartbeats 2000000 in
theorem implMinorYes (a b c d : Int) (w : World) (h : isLf a b c d = true) (hk : MinIs (a, b, c, d) 0) :
    Calls Try.prog 69 #[leafV a b c d] w (ResCd w (a, b, c, d)) := by
  obtain ⟨r1, r2, -⟩ := isLf_yes h
  have H2 := Lib.hid (fun w => implShort a b c d w (okOf r1) (okOf r2))
  clear r1 r2
  rcases min_cases (a, b, c, d) with h2 | ⟨h2, h3⟩ | ⟨h2, h4, r, hf⟩
  · have := min_one hk (.inl ⟨h2, rfl⟩)
    omega
  · have := min_one hk (.inr (.inl ⟨h2, h3, rfl⟩))
    omega
  · have HV : Hid (∀ v, FailIs (a, b, c, d) r (wayX a b c d) v → v = 0) := Lib.hid (fun v hv => by
      by_cases h0 : v = 0
      · exact h0
      · have := min_one hk (.inr (.inr ⟨h2, h4, r, v, hf, hv, .inl ⟨h0, rfl⟩⟩))
        omega)
    have H3 := Lib.hid (fun w => implCand a b c d r w h h2 hf h4)
    have hlen := imF_len 64 (a, b, c, d) [] r hf
    simp at hlen
    have H4 := Lib.hid (fun (A : Option Addr) (cap : Nat) (B : Option Addr) (cap' : Nat) (W : World) (hr : LfRow W W.heap.size A r) (hk : r.length ≤ cap) (hr' : LfRow W W.heap.size B (wayX a b c d)) =>
      implFails (a, b, c, d) A r.length cap r B (wayX a b c d).length cap' (wayX a b c d) W h hr rfl (by omega) hk (im_head hf) (imF_lf _ _ _ _ (show isLfX (a, b, c, d) = true from h) rfl hf) hr' rfl (by simp [wayX]) (way_lf h h4))
    have HH := Lib.hid (im_head hf)
    have HLJ : Hid ((wayX a b c d).length = 2) := Lib.hid rfl
    have h2' : shortB a b c d = true := h2
    rw [h2'] at H2
    unfold ResCd wayXX
    dsimp only
    clear h h2 h2' h4 hf hk
    generalize wayX a b c d = J at *
    go_enter Try.func69, Try.ntmps69
    go_wp2_with fail
    refine (H2.out _).mono ?_
    rintro e w1 ⟨rfl, hb1⟩
    obtain ⟨hc1, hf1⟩ := bcell hb1
    have hz1_0 : w.heap.size < w1.heap.size := by have := hb1.size; first | omega | (simp at this; omega)
    have hz1_1 : w.heap.size + 1 < w1.heap.size := by have := hb1.size; first | omega | (simp at this; omega)
    have q0 : w1.cell? ⟨w.heap.size + 1, 0, none⟩ = some (.slice none 0 0) := cellThru hb1 (by simp) (by simp [go_sem])
    have q1 : w1.cell? ⟨w.heap.size + 1, 1, none⟩ = some (.slice none 0 0) := cellThru hb1 (by simp) (by simp [go_sem])
    go_wp2_with fail
    refine (H3.out _).mono ?_
    rintro e w2 ⟨A, cap, B, cap', rfl, ho, ho', hk, hb2⟩
    obtain ⟨hc2, hf2⟩ := bcell hb2
    have hz2_0 : w.heap.size < w2.heap.size := by have := hb2.size; first | omega | (simp at this; omega)
    have hz2_1 : w.heap.size + 1 < w2.heap.size := by have := hb2.size; first | omega | (simp at this; omega)
    have p0 := cellThru hb2 hz1_1 q0
    have p1 := cellThru hb2 hz1_1 q1
    have R1 := Lib.hid (ho.row.next (belowAlloc (Below.refl _ _) (.cells #[.slice A r.length cap, .slice B J.length cap'] 80)))
    have R2 := Lib.hid (ho'.row.next (belowAlloc (Below.refl _ _) (.cells #[.slice A r.length cap, .slice B J.length cap'] 80)))
    have O1 := Lib.hid (ho.next (belowAlloc (Below.refl _ _) (.cells #[.slice A r.length cap, .slice B J.length cap'] 80)))
    have O2 := Lib.hid (ho'.next (belowAlloc (Below.refl _ _) (.cells #[.slice A r.length cap, .slice B J.length cap'] 80)))
    have hs1 : w.heap.size + 1 < w1.heap.size := hz1_1
    clear ho ho' q0 q1
    go_wp2_with fail
    refine (H4.out A cap B cap' _ R1.out hk R2.out).mono ?_
    rintro e w3 ⟨⟨v, rfl, HF⟩, hb3⟩
    obtain ⟨hc3, hf3⟩ := bcell hb3
    have hz3_0 : w.heap.size < w3.heap.size := by have := hb3.size; first | omega | (simp at this; omega)
    have hz3_1 : w.heap.size + 1 < w3.heap.size := by have := hb3.size; first | omega | (simp at this; omega)
    obtain rfl := HV.out v HF.out
    have m0 : w3.cell? ⟨w2.heap.size, 0, none⟩ = some (.slice A r.length cap) := cellThru hb3 (by simp) (by simp [go_sem])
    have m1 : w3.cell? ⟨w2.heap.size, 1, none⟩ = some (.slice B J.length cap') := cellThru hb3 (by simp) (by simp [go_sem])
    have n0 : w3.cell? ⟨w.heap.size + 1, 0, none⟩ = some (.slice none 0 0) := cellThru hb3 (by simp; omega) (cellThru (belowAlloc (Below.refl _ _) _) hz2_1 p0)
    have n1 : w3.cell? ⟨w.heap.size + 1, 1, none⟩ = some (.slice none 0 0) := cellThru hb3 (by simp; omega) (cellThru (belowAlloc (Below.refl _ _) _) hz2_1 p1)
    have O13 := Lib.hid (O1.out.next hb3)
    have O23 := Lib.hid (O2.out.next hb3)
    clear HV HF p0 p1 R1 R2 O1 O2
    go_wp2
    refine bodyPost_ret (v := candV A r.length cap B J.length cap') (by simp [results, Try.results69, go_sem, n0, n1]) rfl ⟨r, A, cap, B, cap', by rw [HLJ.out], HH.out, by omega, ((O13.out.set _ _ _ hs1).set _ _ _ hs1).loM (by omega), ((O23.out.set _ _ _ hs1).set _ _ _ hs1).loM (by omega), ?_⟩
    (repeat' (first | (with_reducible exact Below.refl _ _) | (with_reducible assumption) | (with_reducible refine belowNext ?_ (by with_reducible assumption)) | (with_reducible refine belowAlloc ?_ _) | (with_reducible refine Below.drew ?_) | (with_reducible refine below_drewN ?_ _) | (with_reducible refine Below.setCell ?_ ?_ _) | go_size | (with_reducible refine sizeOf' ?_) | (with_reducible refine sizeAdd ?_) | (dsimp only; first | (with_reducible refine sizeOf' ?_) | (with_reducible refine sizeAdd ?_))))

/-- A leaf crosses none of J. -/
def fr1 (x : Lf4) (J : List Lf4) : Bool := J.all (fun y => !crossX x y)
theorem free_two {x y : Lf4} {J : List Lf4} : freeB [x, y] J = (fr1 x J && fr1 y J) := by unfold freeB fr1; simp
theorem fr1_iff {x : Lf4} {J : List Lf4} : fr1 x J = false ↔ CrossOne x J := by
  constructor
  · intro h
    refine Classical.byContradiction fun hn => ?_
    have : fr1 x J = true := by
      unfold fr1
      rw [List.all_eq_true]
      intro y hy
      obtain ⟨u, hu⟩ := List.getElem?_of_mem hy
      cases hc : crossX x y
      · rfl
      · exact absurd ⟨u, y, hu, hc⟩ hn
    rw [h] at this; cases this
  · rintro ⟨u, y, hu, hc⟩
    cases h : fr1 x J
    · rfl
    · unfold fr1 at h
      rw [List.all_eq_true] at h
      have := h y (List.mem_of_getElem? hu)
      rw [hc] at this; cases this
theorem fr1_not {r : Bool} {x : Lf4} {J : List Lf4} (h : r = true ↔ CrossOne x J) : (!r) = fr1 x J := by
  cases hr : r
  · cases hf : fr1 x J
    · have := h.2 (fr1_iff.1 hf); rw [hr] at this; cases this
    · rfl
  · rw [fr1_iff.2 (h.1 hr)]; rfl

set_option maxHeartbeats 1000000 in
theorem closFree (y : Lf4) (A : Option Addr) (len cap : Nat) (l : List Lf4) (G : Nat) (w : World) (hy : isLfX y = true) (hr : LfRow w w.heap.size A l) (hl : l.length = len) (hm : len ≤ 1000000000000) (ha : allLf l = true) (hG : G < w.heap.size) (H : w.cell? ⟨G, 1, none⟩ = some (.slice A len cap)) :
    Calls Try.prog 112 #[leafV y.1 y.2.1 y.2.2.1 y.2.2.2, .pointer (some ⟨G, 0, none⟩)] w fun e' w' => e' = .returned (.bool (fr1 y l)) ∧ Below w.heap.size w w' := by
  obtain ⟨e, f, g, h⟩ := y
  have HC := Lib.hid (fun W (hB : Below w.heap.size w W) => crossOne A len cap l e f g h W ((hr.below hB).more hB.size) hl hm ha hy)
  clear hr hl ha hy
  dsimp only
  go_enter Try.func112, Try.ntmps112
  go_wp2_with fail
  refine (HC.out _ (by exact belowAlloc (Below.refl _ _) _)).mono ?_
  rintro e' w1 ⟨⟨r, rfl, HW⟩, hb1⟩
  have HE := Lib.hid (fr1_not HW.out)
  go_wp2
  go_ret
  refine ⟨retB HE.out, ?_⟩
  (repeat' (first | (with_reducible exact Below.refl _ _) | (with_reducible assumption) | (with_reducible refine belowNext ?_ (by with_reducible assumption)) | (with_reducible refine belowAlloc ?_ _) | (with_reducible refine Below.drew ?_) | (with_reducible refine below_drewN ?_ _) | (with_reducible refine Below.setCell ?_ ?_ _) | go_size | (with_reducible refine sizeOf' ?_) | (with_reducible refine sizeAdd ?_) | (dsimp only; first | (with_reducible refine sizeOf' ?_) | (with_reducible refine sizeAdd ?_))))
theorem fC3 : ∀ args W, (callFunc 112 args).run Try.prog W = .ok (.enter 112 args) W := by intro args W; kernel_rfl

/-- Two leaves, or the panic of a refusal. -/
def ResPu (w : World) (L : List Lf4) (C : Int) (e : Ending) (w' : World) : Prop :=
  (C = 0 ∧ L.length = 2 ∧ ∃ A cap, e = .returned (.slice A 2 cap) ∧ LfOwn w' w.heap.size A L ∧ Below w.heap.size w w') ∨
    (C ≠ 0 ∧ L = [] ∧ e = .panicked (pan C) ∧ Below w.heap.size w w')
/-- The boxes of pulledBack: the candidate, the leaf. -/
structure BoxP (w W : World) (A : Option Addr) (n capA : Nat) (B : Option Addr) (capB : Nat) (a b c d : Int) : Prop where
  Bw : Below w.heap.size w W
  z : w.heap.size + 1 < W.heap.size
  s0 : W.cell? ⟨w.heap.size, 0, none⟩ = some (.slice A n capA)
  s1 : W.cell? ⟨w.heap.size, 1, none⟩ = some (.slice B 2 capB)
  c0 : W.cell? ⟨w.heap.size + 1, 0, none⟩ = some (.int .i64 a)
  c1 : W.cell? ⟨w.heap.size + 1, 1, none⟩ = some (.int .i64 b)
  c2 : W.cell? ⟨w.heap.size + 1, 2, none⟩ = some (.int .i64 c)
  c3 : W.cell? ⟨w.heap.size + 1, 3, none⟩ = some (.int .i64 d)
theorem BoxP.on {w W w1 : World} {A : Option Addr} {n capA : Nat} {B : Option Addr} {capB : Nat} {a b c d : Int} (H : BoxP w W A n capA B capB a b c d) (hb : Below W.heap.size W w1) : BoxP w w1 A n capA B capB a b c d := by
  have hz := H.z
  have hs := hb.size
  exact ⟨belowNext H.Bw hb, by omega, cellThru hb (by omega) H.s0, cellThru hb (by omega) H.s1, cellThru hb hz H.c0, cellThru hb hz H.c1, cellThru hb hz H.c2, cellThru hb hz H.c3⟩

set_option maxRecDepth 8000 in
set_option maxHeartbeats 4000000 in
theorem implPu0 (a b c d e f g h : Int) (A : Option Addr) (n capA : Nat) (r : List Lf4) (B : Option Addr) (capB : Nat) (J : List Lf4) (w : World) (h1 : isLf a b c d = true) (hA : LfRow w w.heap.size A r) (hn : r.length = n) (hn2 : n ≤ 1000000) (h0 : r[0]? = some (e, f, g, h)) (hB : LfRow w w.heap.size B J) (hJ : J.length = 2) (hj : allLf J = true) (hq : eqL a b c d e f g h = true) :
    Calls Try.prog 70 #[candV A n capA B 2 capB, leafV a b c d] w (ResPu w (backL (a, b, c, d) (e, f, g, h) J) (backC (a, b, c, d) (e, f, g, h) J)) := by
  have Q1 := fun W => eqlLf a b c d e f g h W
  rw [hq] at Q1
  obtain ⟨bA, oA, rfl, zA, cA⟩ := row_at hA (by intro hh; rw [hh] at h0; cases h0)
  have m := cA 0 e f g h h0
  rw [Nat.zero_mul, Nat.add_zero] at m
  have hnI : (0 : Int) < (n : Int) := by
    rcases Nat.eq_zero_or_pos n with hz | hz
    · rw [← hn] at hz
      rw [List.length_eq_zero_iff.1 hz] at h0; cases h0
    · omega
  obtain ⟨bB, oB, rfl, -, -⟩ := row_at hB (by intro hh; rw [hh] at hJ; cases hJ)
  have E0 : ((a, b, c, d) : Lf4) = (e, f, g, h) := by obtain ⟨rfl, rfl, rfl, rfl⟩ := (eqL_iff ..).1 hq; rfl
  obtain ⟨E1, E2⟩ := back_same (J := J) E0
  rw [E1, E2]
  have HB := Lib.hid hB
  have HLJ := Lib.hid hJ
  have u1 := h1
  have u2 := hj
  clear u1 u2
  clear hA hn h0 cA E0 E1 E2 hB hJ hj h1 hq
  go_enter Try.func70, Try.ntmps70
  go_wp2_with fail
  have K0 : BoxP w ((w.alloc (.cells #[.slice (some ⟨bA, oA, none⟩) n capA, .slice (some ⟨bB, oB, none⟩) 2 capB] 80)).alloc (.cells #[.int .i64 a, .int .i64 b, .int .i64 c, .int .i64 d] 34)) (some ⟨bA, oA, none⟩) n capA (some ⟨bB, oB, none⟩) capB a b c d := ⟨by (repeat' (first | (with_reducible exact Below.refl _ _) | (with_reducible assumption) | (with_reducible refine belowNext ?_ (by with_reducible assumption)) | (with_reducible refine belowAlloc ?_ _) | (with_reducible refine Below.drew ?_) | (with_reducible refine below_drewN ?_ _) | (with_reducible refine Below.setCell ?_ ?_ _) | go_size | (with_reducible refine sizeOf' ?_) | (with_reducible refine sizeAdd ?_) | (dsimp only; first | (with_reducible refine sizeOf' ?_) | (with_reducible refine sizeAdd ?_)))), by simp, by simp [go_sem], by simp [go_sem], by simp [go_sem], by simp [go_sem], by simp [go_sem], by simp [go_sem]⟩
  have M0 := m.next K0.Bw zA
  generalize ((w.alloc (.cells #[.slice (some ⟨bA, oA, none⟩) n capA, .slice (some ⟨bB, oB, none⟩) 2 capB] 80)).alloc (.cells #[.int .i64 a, .int .i64 b, .int .i64 c, .int .i64 d] 34)) = W0 at *
  obtain ⟨B0, z0, s0, s1, c0, c1, c2, c3⟩ := id K0
  obtain ⟨m0, m1, m2, m3⟩ := M0
  go_quiet (fail)
  go_wp2_with fail
  refine (cloneL bB oB 2 capB J _ (HB.out.next (by (repeat' (first | (with_reducible exact Below.refl _ _) | (with_reducible assumption) | (with_reducible refine belowNext ?_ (by with_reducible assumption)) | (with_reducible refine belowAlloc ?_ _) | (with_reducible refine Below.drew ?_) | (with_reducible refine below_drewN ?_ _) | (with_reducible refine Below.setCell ?_ ?_ _) | go_size | (with_reducible refine sizeOf' ?_) | (with_reducible refine sizeAdd ?_) | (dsimp only; first | (with_reducible refine sizeOf' ?_) | (with_reducible refine sizeAdd ?_)))))) HLJ.out (by omega)).mono ?_
  rintro e' w1 ⟨b', cc, rfl, ho, hb1⟩
  have HO : Hid (LfOwn w1 w.heap.size (some ⟨b', 0, none⟩) J) := Lib.hid ((ownL_of HLJ.out ho).loM (by simp; omega))
  have B1 : Below w.heap.size w w1 := by
    (repeat' (first | (with_reducible exact Below.refl _ _) | (with_reducible assumption) | (with_reducible refine belowNext ?_ (by with_reducible assumption)) | (with_reducible refine belowAlloc ?_ _) | (with_reducible refine Below.drew ?_) | (with_reducible refine below_drewN ?_ _) | (with_reducible refine Below.setCell ?_ ?_ _) | go_size | (with_reducible refine sizeOf' ?_) | (with_reducible refine sizeAdd ?_) | (dsimp only; first | (with_reducible refine sizeOf' ?_) | (with_reducible refine sizeAdd ?_))))
  clear ho
  go_wp2
  go_ret
  exact .inl ⟨rfl, HLJ.out, _, _, rfl, HO.out, B1⟩

set_option maxRecDepth 8000 in
set_option maxHeartbeats 4000000 in
theorem implPu1 (a b c d e f g h : Int) (A : Option Addr) (n capA : Nat) (r : List Lf4) (B : Option Addr) (capB : Nat) (J : List Lf4) (w : World) (h1 : isLf a b c d = true) (hA : LfRow w w.heap.size A r) (hn : r.length = n) (hn2 : n ≤ 1000000) (h0 : r[0]? = some (e, f, g, h)) (hB : LfRow w w.heap.size B J) (hJ : J.length = 2) (hj : allLf J = true) (hq : eqL a b c d e f g h = false) (h3 : pbHal a b c d = false) :
    Calls Try.prog 70 #[candV A n capA B 2 capB, leafV a b c d] w (ResPu w (backL (a, b, c, d) (e, f, g, h) J) (backC (a, b, c, d) (e, f, g, h) J)) := by
  have Q1 := fun W => eqlLf a b c d e f g h W
  rw [hq] at Q1
  obtain ⟨bA, oA, rfl, zA, cA⟩ := row_at hA (by intro hh; rw [hh] at h0; cases h0)
  have m := cA 0 e f g h h0
  rw [Nat.zero_mul, Nat.add_zero] at m
  have hnI : (0 : Int) < (n : Int) := by
    rcases Nat.eq_zero_or_pos n with hz | hz
    · rw [← hn] at hz
      rw [List.length_eq_zero_iff.1 hz] at h0; cases h0
    · omega
  have E0 : ¬ ((a, b, c, d) : Lf4) = (e, f, g, h) := fun hh => by
    injection hh with p1 hh
    injection hh with p2 hh
    injection hh with p3 p4
    have := (eqL_iff a b c d e f g h).2 ⟨p1, p2, p3, p4⟩
    rw [hq] at this; cases this
  obtain ⟨E1, E2⟩ := back_far (J := J) E0 (show halX (a, b, c, d) = false from h3)
  rw [E1, E2]
  obtain ⟨r1, r2, -⟩ := isLf_yes h1
  have HW := Lib.hid (fun w => implWJno a b c d w r1 r2 h3)
  have u1 := hB
  have u2 := hJ
  have u3 := hj
  clear u1 u2 u3
  clear hA hn h0 cA E0 E1 E2 hB hJ hj h1 hq r1 r2 h3
  go_enter Try.func70, Try.ntmps70
  go_wp2_with fail
  have K0 : BoxP w ((w.alloc (.cells #[.slice (some ⟨bA, oA, none⟩) n capA, .slice B 2 capB] 80)).alloc (.cells #[.int .i64 a, .int .i64 b, .int .i64 c, .int .i64 d] 34)) (some ⟨bA, oA, none⟩) n capA B capB a b c d := ⟨by (repeat' (first | (with_reducible exact Below.refl _ _) | (with_reducible assumption) | (with_reducible refine belowNext ?_ (by with_reducible assumption)) | (with_reducible refine belowAlloc ?_ _) | (with_reducible refine Below.drew ?_) | (with_reducible refine below_drewN ?_ _) | (with_reducible refine Below.setCell ?_ ?_ _) | go_size | (with_reducible refine sizeOf' ?_) | (with_reducible refine sizeAdd ?_) | (dsimp only; first | (with_reducible refine sizeOf' ?_) | (with_reducible refine sizeAdd ?_)))), by simp, by simp [go_sem], by simp [go_sem], by simp [go_sem], by simp [go_sem], by simp [go_sem], by simp [go_sem]⟩
  have M0 := m.next K0.Bw zA
  generalize ((w.alloc (.cells #[.slice (some ⟨bA, oA, none⟩) n capA, .slice B 2 capB] 80)).alloc (.cells #[.int .i64 a, .int .i64 b, .int .i64 c, .int .i64 d] 34)) = W0 at *
  obtain ⟨B0, z0, s0, s1, c0, c1, c2, c3⟩ := id K0
  obtain ⟨m0, m1, m2, m3⟩ := M0
  go_quiet (fail)
  go_wp2_with fail
  refine (HW.out _).mono ?_
  rintro e' w1 ⟨rfl, hb1⟩
  have B1 : Below w.heap.size w w1 := by
    (repeat' (first | (with_reducible exact Below.refl _ _) | (with_reducible assumption) | (with_reducible refine belowNext ?_ (by with_reducible assumption)) | (with_reducible refine belowAlloc ?_ _) | (with_reducible refine Below.drew ?_) | (with_reducible refine below_drewN ?_ _) | (with_reducible refine Below.setCell ?_ ?_ _) | go_size | (with_reducible refine sizeOf' ?_) | (with_reducible refine sizeAdd ?_) | (dsimp only; first | (with_reducible refine sizeOf' ?_) | (with_reducible refine sizeAdd ?_))))
  go_wp2
  exact ⟨rfl, .inr ⟨by omega, rfl, rfl, B1⟩⟩

/-- What a region that asks a Bool leaves. -/
def RegF (w : World) (b : Bool) (v : Value) (W : World) : Prop := v = .bool b ∧ Below w.heap.size w W

set_option maxRecDepth 8000 in
set_option maxHeartbeats 16000000 in
theorem implPu2 (a b c d e f g h : Int) (A : Option Addr) (n capA : Nat) (r : List Lf4) (B : Option Addr) (capB : Nat) (J : List Lf4) (w : World) (h1 : isLf a b c d = true) (hA : LfRow w w.heap.size A r) (hn : r.length = n) (hn2 : n ≤ 1000000) (h0 : r[0]? = some (e, f, g, h)) (hB : LfRow w w.heap.size B J) (hJ : J.length = 2) (hj : allLf J = true) (hq : eqL a b c d e f g h = false) (h3 : pbHal a b c d = true) :
    Calls Try.prog 70 #[candV A n capA B 2 capB, leafV a b c d] w (ResPu w (backL (a, b, c, d) (e, f, g, h) J) (backC (a, b, c, d) (e, f, g, h) J)) := by
  have Q1 := fun W => eqlLf a b c d e f g h W
  rw [hq] at Q1
  obtain ⟨bA, oA, rfl, zA, cA⟩ := row_at hA (by intro hh; rw [hh] at h0; cases h0)
  have m := cA 0 e f g h h0
  rw [Nat.zero_mul, Nat.add_zero] at m
  have hnI : (0 : Int) < (n : Int) := by
    rcases Nat.eq_zero_or_pos n with hz | hz
    · rw [← hn] at hz
      rw [List.length_eq_zero_iff.1 hz] at h0; cases h0
    · omega
  have E0 : ¬ ((a, b, c, d) : Lf4) = (e, f, g, h) := fun hh => by
    injection hh with p1 hh
    injection hh with p2 hh
    injection hh with p3 p4
    have := (eqL_iff a b c d e f g h).2 ⟨p1, p2, p3, p4⟩
    rw [hq] at this; cases this
  obtain ⟨r1, r2, -⟩ := isLf_yes h1
  have HW := Lib.hid (fun w => implWJ a b c d w r1 r2 h3)
  have HP := Lib.hid (wayA_lf h1 h3)
  have HQ := Lib.hid (way_lf h1 h3)
  have E1 := @back_yn (a, b, c, d) (e, f, g, h) J E0 h3
  have E2 := @back_ny (a, b, c, d) (e, f, g, h) J E0 h3
  have E3 := @back_nn (a, b, c, d) (e, f, g, h) J E0 h3
  have E4 := @back_yyl (a, b, c, d) (e, f, g, h) J E0 h3
  have E5 := @back_yyg (a, b, c, d) (e, f, g, h) J E0 h3
  change freeB (wayA a b c d) J = _ → freeB (wayX a b c d) J = _ → _ = wayA a b c d ∧ _ at E1
  change freeB (wayA a b c d) J = _ → freeB (wayX a b c d) J = _ → _ = wayX a b c d ∧ _ at E2
  change freeB (wayA a b c d) J = _ → freeB (wayX a b c d) J = _ → _ at E3
  change freeB (wayA a b c d) J = _ → freeB (wayX a b c d) J = _ → lngB (hdL (wayA a b c d)) (hdL (wayX a b c d)) = _ → _ = wayA a b c d ∧ _ at E4
  change freeB (wayA a b c d) J = _ → freeB (wayX a b c d) J = _ → lngB (hdL (wayA a b c d)) (hdL (wayX a b c d)) = _ → _ = wayX a b c d ∧ _ at E5
  generalize backL (a, b, c, d) (e, f, g, h) J = RL at *
  generalize backC (a, b, c, d) (e, f, g, h) J = RC at *
  obtain ⟨⟨p1, p2, p3, p4⟩, ⟨q1, q2, q3, q4⟩, hPA⟩ : ∃ J0 J1 : Lf4, wayA a b c d = [J0, J1] := ⟨_, _, rfl⟩
  obtain ⟨⟨u1, u2, u3, u4⟩, ⟨v1, v2, v3, v4⟩, hPX⟩ : ∃ J0 J1 : Lf4, wayX a b c d = [J0, J1] := ⟨_, _, rfl⟩
  rw [hPA] at HP E1 E2 E3 E4 E5
  rw [hPX] at HQ E1 E2 E3 E4 E5
  rw [hPA, hPX] at HW
  rw [free_two, free_two] at E1 E2 E3 E4 E5
  change _ → _ → lngB (p1, p2, p3, p4) (u1, u2, u3, u4) = _ → _ at E4
  change _ → _ → lngB (p1, p2, p3, p4) (u1, u2, u3, u4) = _ → _ at E5
  obtain ⟨af, haf⟩ : ∃ af, (fr1 (p1, p2, p3, p4) J && fr1 (q1, q2, q3, q4) J) = af := ⟨_, rfl⟩
  obtain ⟨xf, hxf⟩ : ∃ xf, (fr1 (u1, u2, u3, u4) J && fr1 (v1, v2, v3, v4) J) = xf := ⟨_, rfl⟩
  rw [haf, hxf] at E1 E2 E3 E4 E5
  have HAF := Lib.hid haf
  have HXF := Lib.hid hxf
  clear haf hxf
  have HE1 := Lib.hid E1
  have HE2 := Lib.hid E2
  have HE3 := Lib.hid E3
  have HE4 := Lib.hid E4
  have HE5 := Lib.hid E5
  clear hPA hPX E1 E2 E3 E4 E5
  have l1 : isLf p1 p2 p3 p4 = true := allLf_at (k := 0) HP.out rfl
  have l2 : isLf q1 q2 q3 q4 = true := allLf_at (k := 1) HP.out rfl
  have l3 : isLf u1 u2 u3 u4 = true := allLf_at (k := 0) HQ.out rfl
  have l4 : isLf v1 v2 v3 v4 = true := allLf_at (k := 1) HQ.out rfl
  have HCl := Lib.hid (fun (y : Lf4) (hy : isLfX y = true) (W : World) (K : BoxP w W (some ⟨bA, oA, none⟩) n capA B capB a b c d) => closFree y B 2 capB J w.heap.size W hy (hB.next K.Bw) hJ (by omega) hj (Nat.lt_trans (Nat.lt_succ_self _) K.z) K.s1)
  have HC1 := Lib.hid (HCl.out (p1, p2, p3, p4) l1)
  have HC2 := Lib.hid (HCl.out (q1, q2, q3, q4) l2)
  have HC3 := Lib.hid (HCl.out (u1, u2, u3, u4) l3)
  have HC4 := Lib.hid (HCl.out (v1, v2, v3, v4) l4)
  obtain ⟨t1, t2, -⟩ := isLf_yes l1
  obtain ⟨t3, t4, -⟩ := isLf_yes l3
  have HCm := Lib.hid (fun w => implCmpLen p1 p2 p3 p4 u1 u2 u3 u4 w (okOf t1) (okOf t2) (okOf t3) (okOf t4))
  have HLt : Hid (lngB (p1, p2, p3, p4) (u1, u2, u3, u4) = decide (cmpI (dsN p1 p2 p3 p4 * dsD u1 u2 u3 u4) (dsN u1 u2 u3 u4 * dsD p1 p2 p3 p4) < 0)) := Lib.hid (by rw [cmpI_lt]; rfl)
  generalize cmpI (dsN p1 p2 p3 p4 * dsD u1 u2 u3 u4) (dsN u1 u2 u3 u4 * dsD p1 p2 p3 p4) = cm at *
  generalize fr1 (p1, p2, p3, p4) J = f1 at *
  generalize fr1 (q1, q2, q3, q4) J = f2 at *
  generalize fr1 (u1, u2, u3, u4) J = f3 at *
  generalize fr1 (v1, v2, v3, v4) J = f4 at *
  generalize lngB (p1, p2, p3, p4) (u1, u2, u3, u4) = lt at *
  dsimp only at HC1 HC2 HC3 HC4
  have hcf := fC3
  clear hA hn h0 cA E0 hB hJ hj h1 hq r1 r2 h3 l1 l2 l3 l4 t1 t2 t3 t4 HCl HP HQ
  go_enter Try.func70, Try.ntmps70
  go_wp2_with fail
  have K0 : BoxP w ((w.alloc (.cells #[.slice (some ⟨bA, oA, none⟩) n capA, .slice B 2 capB] 80)).alloc (.cells #[.int .i64 a, .int .i64 b, .int .i64 c, .int .i64 d] 34)) (some ⟨bA, oA, none⟩) n capA B capB a b c d := ⟨by (repeat' (first | (with_reducible exact Below.refl _ _) | (with_reducible assumption) | (with_reducible refine belowNext ?_ (by with_reducible assumption)) | (with_reducible refine belowAlloc ?_ _) | (with_reducible refine Below.drew ?_) | (with_reducible refine below_drewN ?_ _) | (with_reducible refine Below.setCell ?_ ?_ _) | go_size | (with_reducible refine sizeOf' ?_) | (with_reducible refine sizeAdd ?_) | (dsimp only; first | (with_reducible refine sizeOf' ?_) | (with_reducible refine sizeAdd ?_)))), by simp, by simp [go_sem], by simp [go_sem], by simp [go_sem], by simp [go_sem], by simp [go_sem], by simp [go_sem]⟩
  have M0 := m.next K0.Bw zA
  generalize ((w.alloc (.cells #[.slice (some ⟨bA, oA, none⟩) n capA, .slice B 2 capB] 80)).alloc (.cells #[.int .i64 a, .int .i64 b, .int .i64 c, .int .i64 d] 34)) = W0 at *
  obtain ⟨B0, z0, s0, s1, c0, c1, c2, c3⟩ := id K0
  obtain ⟨m0, m1, m2, m3⟩ := M0
  go_quiet (fail)
  go_wp2_with fail
  refine (HW.out _).mono ?_
  rintro e' w1 ⟨A1, A2, rfl, ho1, ho2, hb1⟩
  have K1 : BoxP w w1 (some ⟨bA, oA, none⟩) n capA B capB a b c d := K0.on (by (repeat' (first | (with_reducible exact Below.refl _ _) | (with_reducible assumption) | (with_reducible refine belowNext ?_ (by with_reducible assumption)) | (with_reducible refine belowAlloc ?_ _) | (with_reducible refine Below.drew ?_) | (with_reducible refine below_drewN ?_ _) | (with_reducible refine Below.setCell ?_ ?_ _) | go_size | (with_reducible refine sizeOf' ?_) | (with_reducible refine sizeAdd ?_) | (dsimp only; first | (with_reducible refine sizeOf' ?_) | (with_reducible refine sizeAdd ?_)))))
  have O1 := Lib.hid (ho1.loM (lo' := w.heap.size) (by simp; omega))
  have O2 := Lib.hid (ho2.loM (lo' := w.heap.size) (by simp; omega))
  obtain ⟨b1, o1, rfl, z1, x1⟩ := row_at ho1.row (by simp)
  obtain ⟨b2, o2, rfl, z2, x2⟩ := row_at ho2.row (by simp)
  have y1 := x1 0 p1 p2 p3 p4 rfl
  have y2 := x1 1 q1 q2 q3 q4 rfl
  have y3 := x2 0 u1 u2 u3 u4 rfl
  have y4 := x2 1 v1 v2 v3 v4 rfl
  simp only [Nat.zero_mul, Nat.one_mul, Nat.add_zero] at y1 y2 y3 y4
  have Y1 := Lib.hid y1
  have Y2 := Lib.hid y2
  have Y3 := Lib.hid y3
  have Y4 := Lib.hid y4
  have HB1 := Lib.hid K1.Bw
  clear ho1 ho2 x1 x2 y1 y2 y3 y4 hb1 m0 m1 m2 m3 s0 s1 c0 c1 c2 c3 K0 B0 z0 HW
  go_upto_region 7 with fail
  go_cut [9] (fun s9 wy => RegF w1 af s9 wy)
  case first =>
    obtain ⟨g0, g1, g2, g3⟩ := Y1.out
    go_wp2_with fail
    refine (HC1.out _ K1).mono ?_
    rintro e' w2 ⟨rfl, hb2⟩
    have K2 := K1.on hb2
    clear g0 g1 g2 g3
    cases f1
    · go_wp2
      go_meet
      case rel => exact ⟨congrArg Value.bool HAF.out, hb2⟩
    · obtain ⟨g0, g1, g2, g3⟩ := Y2.out.next hb2 z1
      go_wp2_with fail
      refine (HC2.out _ K2).mono ?_
      rintro e' w3 ⟨rfl, hb3⟩
      clear g0 g1 g2 g3
      go_wp2
      go_meet
      case rel => exact ⟨congrArg Value.bool HAF.out, belowNext hb2 hb3⟩
  case rest =>
    obtain ⟨rfl, D2⟩ := hcut
    have K2 := K1.on D2
    go_upto_region 8 with fail
    go_cut [10] (fun s10 wy => RegF w1 xf s10 wy)
    case first =>
      obtain ⟨g0, g1, g2, g3⟩ := Y3.out.next D2 z2
      go_wp2_with fail
      refine (HC3.out _ K2).mono ?_
      rintro e' w3 ⟨rfl, hb3⟩
      have K3 := K2.on hb3
      have D3 : Below w1.heap.size w1 w3 := belowNext D2 hb3
      clear g0 g1 g2 g3 hb3
      cases f3
      · go_wp2
        go_meet
        case rel => exact ⟨congrArg Value.bool HXF.out, D3⟩
      · obtain ⟨g0, g1, g2, g3⟩ := Y4.out.next D3 z2
        go_wp2_with fail
        refine (HC4.out _ K3).mono ?_
        rintro e' w4 ⟨rfl, hb4⟩
        clear g0 g1 g2 g3
        go_wp2
        go_meet
        case rel => exact ⟨congrArg Value.bool HXF.out, belowNext D3 hb4⟩
    case rest =>
      obtain ⟨rfl, D3⟩ := hcut
      clear HC1 HC2 HC3 HC4 HAF HXF K2 D2
      have K3 := K1.on D3
      clear K1
      have B1 : Below w.heap.size w w1 := HB1.out
      clear HB1 K3
      cases af
      · cases xf
        · obtain ⟨rfl, rfl⟩ := HE3.out rfl rfl
          clear HE1 HE2 HE3 HE4 HE5
          go_wp2_with fail
          refine wp_region_any (by kernel_rfl) ?_
          try (change wpAny _ _ _ _ _ _ _ (World.drew _))
          refine wpAny_take (i := 0) (v := ?_) rfl (by kernel_rfl) (by kernel_rfl) (by kernel_rfl) (fun _ _ _ h => h) (Or.inl ⟨by kernel_rfl, ?_⟩) ?_
          rotate_left
          · intro w; first | (go_simp; done) | (go_simp; with_reducible rfl)
          refine wpAny_take (i := 1) (v := ?_) rfl (by kernel_rfl) (by kernel_rfl) (by kernel_rfl) (fun _ _ _ h => h) (Or.inl ⟨by kernel_rfl, ?_⟩) ?_
          rotate_left
          · intro w; first | (go_simp; done) | (go_simp; with_reducible rfl)
          refine wpAny_take (i := 2) (v := undef) rfl (by kernel_rfl) (by kernel_rfl) (by kernel_rfl) (fun _ _ _ h => h) (Or.inr ⟨by kernel_rfl, rfl⟩) ?_
          go_simp
          refine wpAny_take (i := 3) (v := ?_) rfl (by kernel_rfl) (by kernel_rfl) (by kernel_rfl) (fun _ _ _ h => h) (Or.inl ⟨by kernel_rfl, ?_⟩) ?_
          rotate_left
          · intro w; first | (go_simp; done) | (go_simp; with_reducible rfl)
          refine wpAny_take (i := 4) (v := ?_) rfl (by kernel_rfl) (by kernel_rfl) (by kernel_rfl) (fun _ _ _ h => h) (Or.inl ⟨by kernel_rfl, ?_⟩) ?_
          rotate_left
          · intro w; first | (go_simp; done) | (go_simp; with_reducible rfl)
          refine wpAny_take (i := 5) (v := undef) rfl (by kernel_rfl) (by kernel_rfl) (by kernel_rfl) (fun _ _ _ h => h) (Or.inr ⟨by kernel_rfl, rfl⟩) ?_
          go_simp
          refine wpAny_take (i := 6) (v := undef) rfl (by kernel_rfl) (by kernel_rfl) (by kernel_rfl) (fun _ _ _ h => h) (Or.inr ⟨by kernel_rfl, rfl⟩) ?_
          go_simp
          refine wpAny_take (i := 7) (v := undef) rfl (by kernel_rfl) (by kernel_rfl) (by kernel_rfl) (fun _ _ _ h => h) (Or.inr ⟨by kernel_rfl, rfl⟩) ?_
          go_simp
          refine wpAny_take (i := 8) (v := undef) rfl (by kernel_rfl) (by kernel_rfl) (by kernel_rfl) (fun _ _ _ h => h) (Or.inr ⟨by kernel_rfl, rfl⟩) ?_
          go_simp
          refine wpAny_take (i := 9) (v := undef) rfl (by kernel_rfl) (by kernel_rfl) (by kernel_rfl) (fun _ _ _ h => h) (Or.inr ⟨by kernel_rfl, rfl⟩) ?_
          go_simp
          refine wpAny_take (i := 10) (v := undef) rfl (by kernel_rfl) (by kernel_rfl) (by kernel_rfl) (fun _ _ _ h => h) (Or.inr ⟨by kernel_rfl, rfl⟩) ?_
          go_simp
          refine wpAny_take (i := 11) (v := undef) rfl (by kernel_rfl) (by kernel_rfl) (by kernel_rfl) (fun _ _ _ h => h) (Or.inr ⟨by kernel_rfl, rfl⟩) ?_
          go_simp
          refine wpAny_take (i := 12) (v := undef) rfl (by kernel_rfl) (by kernel_rfl) (by kernel_rfl) (fun _ _ _ h => h) (Or.inr ⟨by kernel_rfl, rfl⟩) ?_
          go_simp
          refine wpAny_take (i := 13) (v := ?_) rfl (by kernel_rfl) (by kernel_rfl) (by kernel_rfl) (fun _ _ _ h => h) (Or.inl ⟨by kernel_rfl, ?_⟩) ?_
          rotate_left
          · intro w; first | (go_simp; done) | (go_simp; with_reducible rfl)
          refine wpAny_take (i := 14) (v := ?_) rfl (by kernel_rfl) (by kernel_rfl) (by kernel_rfl) (fun _ _ _ h => h) (Or.inl ⟨by kernel_rfl, ?_⟩) ?_
          rotate_left
          · intro w; first | (go_simp; done) | (go_simp; with_reducible rfl)
          refine wpAny_done (by kernel_rfl) ?_ _
          have D4 : Below w1.heap.size w1 wc.drew := D3.drew
          go_wp2
          exact ⟨rfl, .inr ⟨by omega, rfl, rfl, belowNext B1 (by (repeat' (first | (with_reducible exact Below.refl _ _) | (with_reducible assumption) | (with_reducible refine belowNext ?_ (by with_reducible assumption)) | (with_reducible refine belowAlloc ?_ _) | (with_reducible refine Below.drew ?_) | (with_reducible refine below_drewN ?_ _) | (with_reducible refine Below.setCell ?_ ?_ _) | go_size | (with_reducible refine sizeOf' ?_) | (with_reducible refine sizeAdd ?_) | (dsimp only; first | (with_reducible refine sizeOf' ?_) | (with_reducible refine sizeAdd ?_)))))⟩⟩
        · obtain ⟨rfl, rfl⟩ := HE2.out rfl rfl
          clear HE1 HE2 HE3 HE4 HE5
          go_wp2_with fail
          refine wp_region_any (by kernel_rfl) ?_
          try (change wpAny _ _ _ _ _ _ _ (World.drew _))
          refine wpAny_take (i := 0) (v := ?_) rfl (by kernel_rfl) (by kernel_rfl) (by kernel_rfl) (fun _ _ _ h => h) (Or.inl ⟨by kernel_rfl, ?_⟩) ?_
          rotate_left
          · intro w; first | (go_simp; done) | (go_simp; with_reducible rfl)
          refine wpAny_take (i := 1) (v := ?_) rfl (by kernel_rfl) (by kernel_rfl) (by kernel_rfl) (fun _ _ _ h => h) (Or.inl ⟨by kernel_rfl, ?_⟩) ?_
          rotate_left
          · intro w; first | (go_simp; done) | (go_simp; with_reducible rfl)
          refine wpAny_take (i := 2) (v := undef) rfl (by kernel_rfl) (by kernel_rfl) (by kernel_rfl) (fun _ _ _ h => h) (Or.inr ⟨by kernel_rfl, rfl⟩) ?_
          go_simp
          refine wpAny_take (i := 3) (v := ?_) rfl (by kernel_rfl) (by kernel_rfl) (by kernel_rfl) (fun _ _ _ h => h) (Or.inl ⟨by kernel_rfl, ?_⟩) ?_
          rotate_left
          · intro w; first | (go_simp; done) | (go_simp; with_reducible rfl)
          refine wpAny_take (i := 4) (v := ?_) rfl (by kernel_rfl) (by kernel_rfl) (by kernel_rfl) (fun _ _ _ h => h) (Or.inl ⟨by kernel_rfl, ?_⟩) ?_
          rotate_left
          · intro w; first | (go_simp; done) | (go_simp; with_reducible rfl)
          refine wpAny_take (i := 5) (v := undef) rfl (by kernel_rfl) (by kernel_rfl) (by kernel_rfl) (fun _ _ _ h => h) (Or.inr ⟨by kernel_rfl, rfl⟩) ?_
          go_simp
          refine wpAny_take (i := 6) (v := undef) rfl (by kernel_rfl) (by kernel_rfl) (by kernel_rfl) (fun _ _ _ h => h) (Or.inr ⟨by kernel_rfl, rfl⟩) ?_
          go_simp
          refine wpAny_take (i := 7) (v := undef) rfl (by kernel_rfl) (by kernel_rfl) (by kernel_rfl) (fun _ _ _ h => h) (Or.inr ⟨by kernel_rfl, rfl⟩) ?_
          go_simp
          refine wpAny_take (i := 8) (v := undef) rfl (by kernel_rfl) (by kernel_rfl) (by kernel_rfl) (fun _ _ _ h => h) (Or.inr ⟨by kernel_rfl, rfl⟩) ?_
          go_simp
          refine wpAny_take (i := 9) (v := undef) rfl (by kernel_rfl) (by kernel_rfl) (by kernel_rfl) (fun _ _ _ h => h) (Or.inr ⟨by kernel_rfl, rfl⟩) ?_
          go_simp
          refine wpAny_take (i := 10) (v := undef) rfl (by kernel_rfl) (by kernel_rfl) (by kernel_rfl) (fun _ _ _ h => h) (Or.inr ⟨by kernel_rfl, rfl⟩) ?_
          go_simp
          refine wpAny_take (i := 11) (v := undef) rfl (by kernel_rfl) (by kernel_rfl) (by kernel_rfl) (fun _ _ _ h => h) (Or.inr ⟨by kernel_rfl, rfl⟩) ?_
          go_simp
          refine wpAny_take (i := 12) (v := undef) rfl (by kernel_rfl) (by kernel_rfl) (by kernel_rfl) (fun _ _ _ h => h) (Or.inr ⟨by kernel_rfl, rfl⟩) ?_
          go_simp
          refine wpAny_take (i := 13) (v := ?_) rfl (by kernel_rfl) (by kernel_rfl) (by kernel_rfl) (fun _ _ _ h => h) (Or.inl ⟨by kernel_rfl, ?_⟩) ?_
          rotate_left
          · intro w; first | (go_simp; done) | (go_simp; with_reducible rfl)
          refine wpAny_take (i := 14) (v := ?_) rfl (by kernel_rfl) (by kernel_rfl) (by kernel_rfl) (fun _ _ _ h => h) (Or.inl ⟨by kernel_rfl, ?_⟩) ?_
          rotate_left
          · intro w; first | (go_simp; done) | (go_simp; with_reducible rfl)
          refine wpAny_done (by kernel_rfl) ?_ _
          have D4 : Below w1.heap.size w1 wc.drew := D3.drew
          go_wp2
          go_ret
          exact .inl ⟨rfl, rfl, _, _, rfl, O2.out.next D4, belowNext B1 D4⟩
      · cases xf
        · obtain ⟨rfl, rfl⟩ := HE1.out rfl rfl
          clear HE1 HE2 HE3 HE4 HE5
          go_wp2_with fail
          refine wp_region_any (by kernel_rfl) ?_
          try (change wpAny _ _ _ _ _ _ _ (World.drew _))
          refine wpAny_take (i := 0) (v := ?_) rfl (by kernel_rfl) (by kernel_rfl) (by kernel_rfl) (fun _ _ _ h => h) (Or.inl ⟨by kernel_rfl, ?_⟩) ?_
          rotate_left
          · intro w; first | (go_simp; done) | (go_simp; with_reducible rfl)
          refine wpAny_take (i := 1) (v := ?_) rfl (by kernel_rfl) (by kernel_rfl) (by kernel_rfl) (fun _ _ _ h => h) (Or.inl ⟨by kernel_rfl, ?_⟩) ?_
          rotate_left
          · intro w; first | (go_simp; done) | (go_simp; with_reducible rfl)
          refine wpAny_take (i := 2) (v := ?_) rfl (by kernel_rfl) (by kernel_rfl) (by kernel_rfl) (fun _ _ _ h => h) (Or.inl ⟨by kernel_rfl, ?_⟩) ?_
          rotate_left
          · intro w; first | (go_simp; done) | (go_simp; with_reducible rfl)
          refine wpAny_take (i := 3) (v := ?_) rfl (by kernel_rfl) (by kernel_rfl) (by kernel_rfl) (fun _ _ _ h => h) (Or.inl ⟨by kernel_rfl, ?_⟩) ?_
          rotate_left
          · intro w; first | (go_simp; done) | (go_simp; with_reducible rfl)
          refine wpAny_take (i := 4) (v := ?_) rfl (by kernel_rfl) (by kernel_rfl) (by kernel_rfl) (fun _ _ _ h => h) (Or.inl ⟨by kernel_rfl, ?_⟩) ?_
          rotate_left
          · intro w; first | (go_simp; done) | (go_simp; with_reducible rfl)
          refine wpAny_take (i := 5) (v := undef) rfl (by kernel_rfl) (by kernel_rfl) (by kernel_rfl) (fun _ _ _ h => h) (Or.inr ⟨by kernel_rfl, rfl⟩) ?_
          go_simp
          refine wpAny_take (i := 6) (v := undef) rfl (by kernel_rfl) (by kernel_rfl) (by kernel_rfl) (fun _ _ _ h => h) (Or.inr ⟨by kernel_rfl, rfl⟩) ?_
          go_simp
          refine wpAny_take (i := 7) (v := undef) rfl (by kernel_rfl) (by kernel_rfl) (by kernel_rfl) (fun _ _ _ h => h) (Or.inr ⟨by kernel_rfl, rfl⟩) ?_
          go_simp
          refine wpAny_take (i := 8) (v := undef) rfl (by kernel_rfl) (by kernel_rfl) (by kernel_rfl) (fun _ _ _ h => h) (Or.inr ⟨by kernel_rfl, rfl⟩) ?_
          go_simp
          refine wpAny_take (i := 9) (v := undef) rfl (by kernel_rfl) (by kernel_rfl) (by kernel_rfl) (fun _ _ _ h => h) (Or.inr ⟨by kernel_rfl, rfl⟩) ?_
          go_simp
          refine wpAny_take (i := 10) (v := undef) rfl (by kernel_rfl) (by kernel_rfl) (by kernel_rfl) (fun _ _ _ h => h) (Or.inr ⟨by kernel_rfl, rfl⟩) ?_
          go_simp
          refine wpAny_take (i := 11) (v := undef) rfl (by kernel_rfl) (by kernel_rfl) (by kernel_rfl) (fun _ _ _ h => h) (Or.inr ⟨by kernel_rfl, rfl⟩) ?_
          go_simp
          refine wpAny_take (i := 12) (v := undef) rfl (by kernel_rfl) (by kernel_rfl) (by kernel_rfl) (fun _ _ _ h => h) (Or.inr ⟨by kernel_rfl, rfl⟩) ?_
          go_simp
          refine wpAny_take (i := 13) (v := ?_) rfl (by kernel_rfl) (by kernel_rfl) (by kernel_rfl) (fun _ _ _ h => h) (Or.inl ⟨by kernel_rfl, ?_⟩) ?_
          rotate_left
          · intro w; first | (go_simp; done) | (go_simp; with_reducible rfl)
          refine wpAny_take (i := 14) (v := ?_) rfl (by kernel_rfl) (by kernel_rfl) (by kernel_rfl) (fun _ _ _ h => h) (Or.inl ⟨by kernel_rfl, ?_⟩) ?_
          rotate_left
          · intro w; first | (go_simp; done) | (go_simp; with_reducible rfl)
          refine wpAny_done (by kernel_rfl) ?_ _
          have D4 : Below w1.heap.size w1 wc.drew := D3.drew
          go_wp2
          go_ret
          exact .inl ⟨rfl, rfl, _, _, rfl, O1.out.next D4, belowNext B1 D4⟩
        · by_cases hcm : cm < 0
          · obtain ⟨g0, g1, g2, g3⟩ := Y1.out.next D3 z1
            obtain ⟨g4, g5, g6, g7⟩ := Y3.out.next D3 z2
            obtain ⟨rfl, rfl⟩ := HE4.out rfl rfl (by rw [HLt.out]; exact decide_eq_true hcm)
            clear HE1 HE2 HE3 HE4 HE5 HLt
            go_wp2_with fail
            refine wp_region_any (by kernel_rfl) ?_
            try (change wpAny _ _ _ _ _ _ _ (World.drew _))
            refine wpAny_take (i := 0) (v := ?_) rfl (by kernel_rfl) (by kernel_rfl) (by kernel_rfl) (fun _ _ _ h => h) (Or.inl ⟨by kernel_rfl, ?_⟩) ?_
            rotate_left
            · intro w; first | (go_simp; done) | (go_simp; with_reducible rfl)
            refine wpAny_take (i := 1) (v := ?_) rfl (by kernel_rfl) (by kernel_rfl) (by kernel_rfl) (fun _ _ _ h => h) (Or.inl ⟨by kernel_rfl, ?_⟩) ?_
            rotate_left
            · intro w; first | (go_simp; done) | (go_simp; with_reducible rfl)
            refine wpAny_take (i := 2) (v := ?_) rfl (by kernel_rfl) (by kernel_rfl) (by kernel_rfl) (fun _ _ _ h => h) (Or.inl ⟨by kernel_rfl, ?_⟩) ?_
            rotate_left
            · intro w; first | (go_simp; done) | (go_simp; with_reducible rfl)
            refine wpAny_take (i := 3) (v := ?_) rfl (by kernel_rfl) (by kernel_rfl) (by kernel_rfl) (fun _ _ _ h => h) (Or.inl ⟨by kernel_rfl, ?_⟩) ?_
            rotate_left
            · intro w; first | (go_simp; done) | (go_simp; with_reducible rfl)
            refine wpAny_take (i := 4) (v := ?_) rfl (by kernel_rfl) (by kernel_rfl) (by kernel_rfl) (fun _ _ _ h => h) (Or.inl ⟨by kernel_rfl, ?_⟩) ?_
            rotate_left
            · intro w; first | (go_simp; done) | (go_simp; with_reducible rfl)
            refine wpAny_take (i := 5) (v := ?_) rfl (by kernel_rfl) (by kernel_rfl) (by kernel_rfl) (fun _ _ _ h => h) (Or.inl ⟨by kernel_rfl, ?_⟩) ?_
            rotate_left
            · intro w; first | (go_simp; done) | (go_simp; with_reducible rfl)
            refine wpAny_take (i := 6) (v := ?_) rfl (by kernel_rfl) (by kernel_rfl) (by kernel_rfl) (fun _ _ _ h => h) (Or.inl ⟨by kernel_rfl, ?_⟩) ?_
            rotate_left
            · intro w; first | (go_simp; done) | (go_simp; with_reducible rfl)
            refine wpAny_take (i := 8) (v := ?_) rfl (by kernel_rfl) (by kernel_rfl) (by kernel_rfl) (fun _ _ _ h => h) (Or.inl ⟨by kernel_rfl, ?_⟩) ?_
            rotate_left
            · intro w; first | (go_simp; done) | (go_simp; with_reducible rfl)
            refine wpAny_take (i := 9) (v := ?_) rfl (by kernel_rfl) (by kernel_rfl) (by kernel_rfl) (fun _ _ _ h => h) (Or.inl ⟨by kernel_rfl, ?_⟩) ?_
            rotate_left
            · intro w; first | (go_simp; done) | (go_simp; with_reducible rfl)
            refine wpAny_ready (rs := [7, 10]) (by kernel_rfl) (by simp) ?_
            refine AllReady.cons rfl (fun K hK => ?_) (AllReady.cons rfl (fun K hK => ?_) (AllReady.nil))
            · go_simp
              refine hK _ _ ?_
              clear hK K
              refine wpAny_ready (rs := [10]) (by kernel_rfl) (by simp) ?_
              refine AllReady.cons rfl (fun K hK => ?_) (AllReady.nil)
              go_simp
              refine hK _ _ ?_
              clear hK K
              refine wpAny_ready (rs := [11]) (by kernel_rfl) (by simp) ?_
              refine AllReady.cons rfl (fun K hK => ?_) (AllReady.nil)
              go_simp
              go_wp2_with (go_at_call 56; (with_reducible refine (HCm.out _).mono ?_); rintro e w9 ⟨rfl, hb9⟩)
              have D9 : Below w1.heap.size w1 w9 := belowNext D3 (by (repeat' (first | (with_reducible exact Below.refl _ _) | (with_reducible assumption) | (with_reducible refine belowNext ?_ (by with_reducible assumption)) | (with_reducible refine belowAlloc ?_ _) | (with_reducible refine Below.drew ?_) | (with_reducible refine below_drewN ?_ _) | (with_reducible refine Below.setCell ?_ ?_ _) | go_size | (with_reducible refine sizeOf' ?_) | (with_reducible refine sizeAdd ?_) | (dsimp only; first | (with_reducible refine sizeOf' ?_) | (with_reducible refine sizeAdd ?_)))))
              clear g0 g1 g2 g3 g4 g5 g6 g7 hb9
              refine wpAny_take (i := 12) (v := ?_) rfl (by kernel_rfl) (by kernel_rfl) (by kernel_rfl) (fun _ _ _ h => h) (Or.inl ⟨by kernel_rfl, ?_⟩) ?_
              rotate_left
              · intro w; first | (go_simp; done) | (go_simp; with_reducible rfl)
              refine wpAny_take (i := 13) (v := ?_) rfl (by kernel_rfl) (by kernel_rfl) (by kernel_rfl) (fun _ _ _ h => h) (Or.inl ⟨by kernel_rfl, ?_⟩) ?_
              rotate_left
              · intro w; first | (go_simp; done) | (go_simp; with_reducible rfl)
              refine wpAny_take (i := 14) (v := ?_) rfl (by kernel_rfl) (by kernel_rfl) (by kernel_rfl) (fun _ _ _ h => h) (Or.inl ⟨by kernel_rfl, ?_⟩) ?_
              rotate_left
              · intro w; first | (go_simp; done) | (go_simp; with_reducible rfl)
              refine wpAny_done (by kernel_rfl) ?_ _
              go_wp2
              go_ret
              exact .inl ⟨rfl, rfl, _, _, rfl, O1.out.next D9, belowNext B1 D9⟩
            · go_simp
              refine hK _ _ ?_
              clear hK K
              refine wpAny_ready (rs := [7]) (by kernel_rfl) (by simp) ?_
              refine AllReady.cons rfl (fun K hK => ?_) (AllReady.nil)
              go_simp
              refine hK _ _ ?_
              clear hK K
              refine wpAny_ready (rs := [11]) (by kernel_rfl) (by simp) ?_
              refine AllReady.cons rfl (fun K hK => ?_) (AllReady.nil)
              go_simp
              go_wp2_with (go_at_call 56; (with_reducible refine (HCm.out _).mono ?_); rintro e w9 ⟨rfl, hb9⟩)
              have D9 : Below w1.heap.size w1 w9 := belowNext D3 (by (repeat' (first | (with_reducible exact Below.refl _ _) | (with_reducible assumption) | (with_reducible refine belowNext ?_ (by with_reducible assumption)) | (with_reducible refine belowAlloc ?_ _) | (with_reducible refine Below.drew ?_) | (with_reducible refine below_drewN ?_ _) | (with_reducible refine Below.setCell ?_ ?_ _) | go_size | (with_reducible refine sizeOf' ?_) | (with_reducible refine sizeAdd ?_) | (dsimp only; first | (with_reducible refine sizeOf' ?_) | (with_reducible refine sizeAdd ?_)))))
              clear g0 g1 g2 g3 g4 g5 g6 g7 hb9
              refine wpAny_take (i := 12) (v := ?_) rfl (by kernel_rfl) (by kernel_rfl) (by kernel_rfl) (fun _ _ _ h => h) (Or.inl ⟨by kernel_rfl, ?_⟩) ?_
              rotate_left
              · intro w; first | (go_simp; done) | (go_simp; with_reducible rfl)
              refine wpAny_take (i := 13) (v := ?_) rfl (by kernel_rfl) (by kernel_rfl) (by kernel_rfl) (fun _ _ _ h => h) (Or.inl ⟨by kernel_rfl, ?_⟩) ?_
              rotate_left
              · intro w; first | (go_simp; done) | (go_simp; with_reducible rfl)
              refine wpAny_take (i := 14) (v := ?_) rfl (by kernel_rfl) (by kernel_rfl) (by kernel_rfl) (fun _ _ _ h => h) (Or.inl ⟨by kernel_rfl, ?_⟩) ?_
              rotate_left
              · intro w; first | (go_simp; done) | (go_simp; with_reducible rfl)
              refine wpAny_done (by kernel_rfl) ?_ _
              go_wp2
              go_ret
              exact .inl ⟨rfl, rfl, _, _, rfl, O1.out.next D9, belowNext B1 D9⟩
          · obtain ⟨g0, g1, g2, g3⟩ := Y1.out.next D3 z1
            obtain ⟨g4, g5, g6, g7⟩ := Y3.out.next D3 z2
            obtain ⟨rfl, rfl⟩ := HE5.out rfl rfl (by rw [HLt.out]; exact decide_eq_false hcm)
            clear HE1 HE2 HE3 HE4 HE5 HLt
            go_wp2_with fail
            refine wp_region_any (by kernel_rfl) ?_
            try (change wpAny _ _ _ _ _ _ _ (World.drew _))
            refine wpAny_take (i := 0) (v := ?_) rfl (by kernel_rfl) (by kernel_rfl) (by kernel_rfl) (fun _ _ _ h => h) (Or.inl ⟨by kernel_rfl, ?_⟩) ?_
            rotate_left
            · intro w; first | (go_simp; done) | (go_simp; with_reducible rfl)
            refine wpAny_take (i := 1) (v := ?_) rfl (by kernel_rfl) (by kernel_rfl) (by kernel_rfl) (fun _ _ _ h => h) (Or.inl ⟨by kernel_rfl, ?_⟩) ?_
            rotate_left
            · intro w; first | (go_simp; done) | (go_simp; with_reducible rfl)
            refine wpAny_take (i := 2) (v := ?_) rfl (by kernel_rfl) (by kernel_rfl) (by kernel_rfl) (fun _ _ _ h => h) (Or.inl ⟨by kernel_rfl, ?_⟩) ?_
            rotate_left
            · intro w; first | (go_simp; done) | (go_simp; with_reducible rfl)
            refine wpAny_take (i := 3) (v := ?_) rfl (by kernel_rfl) (by kernel_rfl) (by kernel_rfl) (fun _ _ _ h => h) (Or.inl ⟨by kernel_rfl, ?_⟩) ?_
            rotate_left
            · intro w; first | (go_simp; done) | (go_simp; with_reducible rfl)
            refine wpAny_take (i := 4) (v := ?_) rfl (by kernel_rfl) (by kernel_rfl) (by kernel_rfl) (fun _ _ _ h => h) (Or.inl ⟨by kernel_rfl, ?_⟩) ?_
            rotate_left
            · intro w; first | (go_simp; done) | (go_simp; with_reducible rfl)
            refine wpAny_take (i := 5) (v := ?_) rfl (by kernel_rfl) (by kernel_rfl) (by kernel_rfl) (fun _ _ _ h => h) (Or.inl ⟨by kernel_rfl, ?_⟩) ?_
            rotate_left
            · intro w; first | (go_simp; done) | (go_simp; with_reducible rfl)
            refine wpAny_take (i := 6) (v := ?_) rfl (by kernel_rfl) (by kernel_rfl) (by kernel_rfl) (fun _ _ _ h => h) (Or.inl ⟨by kernel_rfl, ?_⟩) ?_
            rotate_left
            · intro w; first | (go_simp; done) | (go_simp; with_reducible rfl)
            refine wpAny_take (i := 8) (v := ?_) rfl (by kernel_rfl) (by kernel_rfl) (by kernel_rfl) (fun _ _ _ h => h) (Or.inl ⟨by kernel_rfl, ?_⟩) ?_
            rotate_left
            · intro w; first | (go_simp; done) | (go_simp; with_reducible rfl)
            refine wpAny_take (i := 9) (v := ?_) rfl (by kernel_rfl) (by kernel_rfl) (by kernel_rfl) (fun _ _ _ h => h) (Or.inl ⟨by kernel_rfl, ?_⟩) ?_
            rotate_left
            · intro w; first | (go_simp; done) | (go_simp; with_reducible rfl)
            refine wpAny_ready (rs := [7, 10]) (by kernel_rfl) (by simp) ?_
            refine AllReady.cons rfl (fun K hK => ?_) (AllReady.cons rfl (fun K hK => ?_) (AllReady.nil))
            · go_simp
              refine hK _ _ ?_
              clear hK K
              refine wpAny_ready (rs := [10]) (by kernel_rfl) (by simp) ?_
              refine AllReady.cons rfl (fun K hK => ?_) (AllReady.nil)
              go_simp
              refine hK _ _ ?_
              clear hK K
              refine wpAny_ready (rs := [11]) (by kernel_rfl) (by simp) ?_
              refine AllReady.cons rfl (fun K hK => ?_) (AllReady.nil)
              go_simp
              go_wp2_with (go_at_call 56; (with_reducible refine (HCm.out _).mono ?_); rintro e w9 ⟨rfl, hb9⟩)
              have D9 : Below w1.heap.size w1 w9 := belowNext D3 (by (repeat' (first | (with_reducible exact Below.refl _ _) | (with_reducible assumption) | (with_reducible refine belowNext ?_ (by with_reducible assumption)) | (with_reducible refine belowAlloc ?_ _) | (with_reducible refine Below.drew ?_) | (with_reducible refine below_drewN ?_ _) | (with_reducible refine Below.setCell ?_ ?_ _) | go_size | (with_reducible refine sizeOf' ?_) | (with_reducible refine sizeAdd ?_) | (dsimp only; first | (with_reducible refine sizeOf' ?_) | (with_reducible refine sizeAdd ?_)))))
              clear g0 g1 g2 g3 g4 g5 g6 g7 hb9
              refine wpAny_take (i := 12) (v := ?_) rfl (by kernel_rfl) (by kernel_rfl) (by kernel_rfl) (fun _ _ _ h => h) (Or.inl ⟨by kernel_rfl, ?_⟩) ?_
              rotate_left
              · intro w; first | (go_simp; done) | (go_simp; with_reducible rfl)
              refine wpAny_take (i := 13) (v := ?_) rfl (by kernel_rfl) (by kernel_rfl) (by kernel_rfl) (fun _ _ _ h => h) (Or.inl ⟨by kernel_rfl, ?_⟩) ?_
              rotate_left
              · intro w; first | (go_simp; done) | (go_simp; with_reducible rfl)
              refine wpAny_take (i := 14) (v := ?_) rfl (by kernel_rfl) (by kernel_rfl) (by kernel_rfl) (fun _ _ _ h => h) (Or.inl ⟨by kernel_rfl, ?_⟩) ?_
              rotate_left
              · intro w; first | (go_simp; done) | (go_simp; with_reducible rfl)
              refine wpAny_done (by kernel_rfl) ?_ _
              go_wp2
              go_ret
              exact .inl ⟨rfl, rfl, _, _, rfl, O2.out.next D9, belowNext B1 D9⟩
            · go_simp
              refine hK _ _ ?_
              clear hK K
              refine wpAny_ready (rs := [7]) (by kernel_rfl) (by simp) ?_
              refine AllReady.cons rfl (fun K hK => ?_) (AllReady.nil)
              go_simp
              refine hK _ _ ?_
              clear hK K
              refine wpAny_ready (rs := [11]) (by kernel_rfl) (by simp) ?_
              refine AllReady.cons rfl (fun K hK => ?_) (AllReady.nil)
              go_simp
              go_wp2_with (go_at_call 56; (with_reducible refine (HCm.out _).mono ?_); rintro e w9 ⟨rfl, hb9⟩)
              have D9 : Below w1.heap.size w1 w9 := belowNext D3 (by (repeat' (first | (with_reducible exact Below.refl _ _) | (with_reducible assumption) | (with_reducible refine belowNext ?_ (by with_reducible assumption)) | (with_reducible refine belowAlloc ?_ _) | (with_reducible refine Below.drew ?_) | (with_reducible refine below_drewN ?_ _) | (with_reducible refine Below.setCell ?_ ?_ _) | go_size | (with_reducible refine sizeOf' ?_) | (with_reducible refine sizeAdd ?_) | (dsimp only; first | (with_reducible refine sizeOf' ?_) | (with_reducible refine sizeAdd ?_)))))
              clear g0 g1 g2 g3 g4 g5 g6 g7 hb9
              refine wpAny_take (i := 12) (v := ?_) rfl (by kernel_rfl) (by kernel_rfl) (by kernel_rfl) (fun _ _ _ h => h) (Or.inl ⟨by kernel_rfl, ?_⟩) ?_
              rotate_left
              · intro w; first | (go_simp; done) | (go_simp; with_reducible rfl)
              refine wpAny_take (i := 13) (v := ?_) rfl (by kernel_rfl) (by kernel_rfl) (by kernel_rfl) (fun _ _ _ h => h) (Or.inl ⟨by kernel_rfl, ?_⟩) ?_
              rotate_left
              · intro w; first | (go_simp; done) | (go_simp; with_reducible rfl)
              refine wpAny_take (i := 14) (v := ?_) rfl (by kernel_rfl) (by kernel_rfl) (by kernel_rfl) (fun _ _ _ h => h) (Or.inl ⟨by kernel_rfl, ?_⟩) ?_
              rotate_left
              · intro w; first | (go_simp; done) | (go_simp; with_reducible rfl)
              refine wpAny_done (by kernel_rfl) ?_ _
              go_wp2
              go_ret
              exact .inl ⟨rfl, rfl, _, _, rfl, O2.out.next D9, belowNext B1 D9⟩

set_option maxHeartbeats 1000000 in
theorem implPu (a b c d e f g h : Int) (A : Option Addr) (n capA : Nat) (r : List Lf4) (B : Option Addr) (capB : Nat) (J : List Lf4) (w : World) (h1 : isLf a b c d = true) (hA : LfRow w w.heap.size A r) (hn : r.length = n) (hn2 : n ≤ 1000000) (h0 : r[0]? = some (e, f, g, h)) (hB : LfRow w w.heap.size B J) (hJ : J.length = 2) (hj : allLf J = true) :
    Calls Try.prog 70 #[candV A n capA B 2 capB, leafV a b c d] w (ResPu w (backL (a, b, c, d) (e, f, g, h) J) (backC (a, b, c, d) (e, f, g, h) J)) := by
  cases hq : eqL a b c d e f g h
  · cases h3 : pbHal a b c d
    · exact implPu1 a b c d e f g h A n capA r B capB J w h1 hA hn hn2 h0 hB hJ hj hq h3
    · exact implPu2 a b c d e f g h A n capA r B capB J w h1 hA hn hn2 h0 hB hJ hj hq h3
  · exact implPu0 a b c d e f g h A n capA r B capB J w h1 hA hn hn2 h0 hB hJ hj hq

/-- A box that holds a leaf. -/
structure BoxG (W : World) (g : Nat) (a b c d : Int) : Prop where
  z : g < W.heap.size
  c0 : W.cell? ⟨g, 0, none⟩ = some (.int .i64 a)
  c1 : W.cell? ⟨g, 1, none⟩ = some (.int .i64 b)
  c2 : W.cell? ⟨g, 2, none⟩ = some (.int .i64 c)
  c3 : W.cell? ⟨g, 3, none⟩ = some (.int .i64 d)
theorem BoxG.on {W w1 : World} {g : Nat} {a b c d : Int} (H : BoxG W g a b c d) (hb : Below W.heap.size W w1) : BoxG w1 g a b c d :=
  ⟨Nat.lt_of_lt_of_le H.z hb.size, cellThru hb H.z H.c0, cellThru hb H.z H.c1, cellThru hb H.z H.c2, cellThru hb H.z H.c3⟩

theorem puYes (a b c d e f g h : Int) (A : Option Addr) (n capA : Nat) (r : List Lf4) (B : Option Addr) (capB : Nat) (J : List Lf4) (w : World) (h1 : isLf a b c d = true) (hA : LfRow w w.heap.size A r) (hn : r.length = n) (hn2 : n ≤ 1000000) (h0 : r[0]? = some (e, f, g, h)) (hB : LfRow w w.heap.size B J) (hJ : J.length = 2) (hj : allLf J = true) (hc : backC (a, b, c, d) (e, f, g, h) J = 0) :
    Calls Try.prog 70 #[candV A n capA B 2 capB, leafV a b c d] w fun e' w' => ∃ A' cap', e' = .returned (.slice A' 2 cap') ∧ (backL (a, b, c, d) (e, f, g, h) J).length = 2 ∧ LfOwn w' w.heap.size A' (backL (a, b, c, d) (e, f, g, h) J) ∧ Below w.heap.size w w' := by
  refine (implPu a b c d e f g h A n capA r B capB J w h1 hA hn hn2 h0 hB hJ hj).mono ?_
  rintro e' w' (⟨-, hl, A', cap', he, ho, hb⟩ | ⟨hne, -⟩)
  · exact ⟨A', cap', he, hl, ho, hb⟩
  · exact absurd hc hne
theorem puNo (a b c d e f g h : Int) (A : Option Addr) (n capA : Nat) (r : List Lf4) (B : Option Addr) (capB : Nat) (J : List Lf4) (w : World) (h1 : isLf a b c d = true) (hA : LfRow w w.heap.size A r) (hn : r.length = n) (hn2 : n ≤ 1000000) (h0 : r[0]? = some (e, f, g, h)) (hB : LfRow w w.heap.size B J) (hJ : J.length = 2) (hj : allLf J = true) (hc : backC (a, b, c, d) (e, f, g, h) J ≠ 0) :
    Calls Try.prog 70 #[candV A n capA B 2 capB, leafV a b c d] w fun e' w' => e' = .panicked (pan (backC (a, b, c, d) (e, f, g, h) J)) ∧ backL (a, b, c, d) (e, f, g, h) J = [] ∧ Below w.heap.size w w' := by
  refine (implPu a b c d e f g h A n capA r B capB J w h1 hA hn hn2 h0 hB hJ hj).mono ?_
  rintro e' w' (⟨h, -⟩ | ⟨-, hl, he, hb⟩)
  · exact absurd h hc
  · exact ⟨he, hl, hb⟩

set_option maxRecDepth 8000 in
set_option maxHeartbeats 4000000 in
theorem clNo (a b c d e f g h : Int) (bm bl : Nat) (w : World) (k : Int) (hm : isLf e f g h = true) (hk : MinIs (e, f, g, h) k) (hk0 : k ≠ 0) (KM : BoxG w bm e f g h) (KL : BoxG w bl a b c d) :
    Calls Try.prog 68 #[.pointer (some ⟨bm, 0, none⟩), .pointer (some ⟨bl, 0, none⟩)] w fun e' w' => e' = .panicked (pan k) ∧ Below w.heap.size w w' := by
  have HM := Lib.hid (fun w => implMinorNo e f g h w k hm hk hk0)
  clear hm hk hk0
  obtain ⟨zm, x0, x1, x2, x3⟩ := id KM
  obtain ⟨zl, y0, y1, y2, y3⟩ := id KL
  go_enter Try.func68, Try.ntmps68
  go_wp2_with fail
  refine wp_region_any (by kernel_rfl) ?_
  try (change wpAny _ _ _ _ _ _ _ (World.drew _))
  refine wpAny_ready (rs := [0, 2]) (by kernel_rfl) (by simp) ?_
  refine AllReady.cons rfl (fun K hK => ?_) (AllReady.cons rfl (fun K hK => ?_) (AllReady.nil))
  · go_simp
    refine hK _ _ ?_
    clear hK K
    refine wpAny_ready (rs := [1, 2]) (by kernel_rfl) (by simp) ?_
    refine AllReady.cons rfl (fun K hK => ?_) (AllReady.cons rfl (fun K hK => ?_) (AllReady.nil))
    · go_simp
      go_wp2_with (go_at_call 69; (with_reducible refine (HM.out _).mono ?_); rintro e' w1 ⟨rfl, hb1⟩)
      have B1 : Below w.heap.size w w1 := by
        (repeat' (first | (with_reducible exact Below.refl _ _) | (with_reducible assumption) | (with_reducible refine belowNext ?_ (by with_reducible assumption)) | (with_reducible refine belowAlloc ?_ _) | (with_reducible refine Below.drew ?_) | (with_reducible refine below_drewN ?_ _) | (with_reducible refine Below.setCell ?_ ?_ _) | go_size | (with_reducible refine sizeOf' ?_) | (with_reducible refine sizeAdd ?_) | (dsimp only; first | (with_reducible refine sizeOf' ?_) | (with_reducible refine sizeAdd ?_))))
      go_wp2
      exact ⟨rfl, rfl, B1⟩
    · go_simp
      refine hK _ _ ?_
      clear hK K
      refine wpAny_ready (rs := [1]) (by kernel_rfl) (by simp) ?_
      refine AllReady.cons rfl (fun K hK => ?_) (AllReady.nil)
      go_simp
      go_wp2_with (go_at_call 69; (with_reducible refine (HM.out _).mono ?_); rintro e' w1 ⟨rfl, hb1⟩)
      have B1 : Below w.heap.size w w1 := by
        (repeat' (first | (with_reducible exact Below.refl _ _) | (with_reducible assumption) | (with_reducible refine belowNext ?_ (by with_reducible assumption)) | (with_reducible refine belowAlloc ?_ _) | (with_reducible refine Below.drew ?_) | (with_reducible refine below_drewN ?_ _) | (with_reducible refine Below.setCell ?_ ?_ _) | go_size | (with_reducible refine sizeOf' ?_) | (with_reducible refine sizeAdd ?_) | (dsimp only; first | (with_reducible refine sizeOf' ?_) | (with_reducible refine sizeAdd ?_))))
      go_wp2
      exact ⟨rfl, rfl, B1⟩
  · go_simp
    refine hK _ _ ?_
    clear hK K
    refine wpAny_ready (rs := [0]) (by kernel_rfl) (by simp) ?_
    refine AllReady.cons rfl (fun K hK => ?_) (AllReady.nil)
    go_simp
    refine hK _ _ ?_
    clear hK K
    refine wpAny_ready (rs := [1]) (by kernel_rfl) (by simp) ?_
    refine AllReady.cons rfl (fun K hK => ?_) (AllReady.nil)
    go_simp
    go_wp2_with (go_at_call 69; (with_reducible refine (HM.out _).mono ?_); rintro e' w1 ⟨rfl, hb1⟩)
    have B1 : Below w.heap.size w w1 := by
      (repeat' (first | (with_reducible exact Below.refl _ _) | (with_reducible assumption) | (with_reducible refine belowNext ?_ (by with_reducible assumption)) | (with_reducible refine belowAlloc ?_ _) | (with_reducible refine Below.drew ?_) | (with_reducible refine below_drewN ?_ _) | (with_reducible refine Below.setCell ?_ ?_ _) | go_size | (with_reducible refine sizeOf' ?_) | (with_reducible refine sizeAdd ?_) | (dsimp only; first | (with_reducible refine sizeOf' ?_) | (with_reducible refine sizeAdd ?_))))
    go_wp2
    exact ⟨rfl, rfl, B1⟩

set_option maxRecDepth 8000 in
set_option maxHeartbeats 4000000 in
theorem clYes (a b c d e f g h : Int) (bm bl : Nat) (w : World) (hl : isLf a b c d = true) (hm : isLf e f g h = true) (hh : pbHal e f g h = true) (hk : MinIs (e, f, g, h) 0) (hc : backC (a, b, c, d) (e, f, g, h) (wayXX (e, f, g, h)) = 0) (KM : BoxG w bm e f g h) (KL : BoxG w bl a b c d) :
    Calls Try.prog 68 #[.pointer (some ⟨bm, 0, none⟩), .pointer (some ⟨bl, 0, none⟩)] w fun e' w' => ∃ A' cap', e' = .returned (.slice A' 2 cap') ∧ (backL (a, b, c, d) (e, f, g, h) (wayXX (e, f, g, h))).length = 2 ∧ LfOwn w' w.heap.size A' (backL (a, b, c, d) (e, f, g, h) (wayXX (e, f, g, h))) ∧ Below w.heap.size w w' := by
  have HM := Lib.hid (fun w => implMinorYes e f g h w hm hk)
  unfold ResCd at HM
  have HP := Lib.hid (fun (A : Option Addr) (n capA : Nat) (r : List Lf4) (B : Option Addr) (capB : Nat) (w : World) (hA : LfRow w w.heap.size A r) (hn : r.length = n) (hn2 : n ≤ 1000000) (h0 : r[0]? = some (e, f, g, h)) (hB : LfRow w w.heap.size B (wayXX (e, f, g, h))) => puYes a b c d e f g h A n capA r B capB (wayXX (e, f, g, h)) w hl hA hn hn2 h0 hB rfl (way_lf hm hh) hc)
  clear hm hk hl hh hc
  generalize backL (a, b, c, d) (e, f, g, h) (wayXX (e, f, g, h)) = RL at *
  generalize wayXX (e, f, g, h) = J at *
  obtain ⟨zm, x0, x1, x2, x3⟩ := id KM
  obtain ⟨zl, y0, y1, y2, y3⟩ := id KL
  go_enter Try.func68, Try.ntmps68
  go_wp2_with fail
  refine wp_region_any (by kernel_rfl) ?_
  try (change wpAny _ _ _ _ _ _ _ (World.drew _))
  refine wpAny_ready (rs := [0, 2]) (by kernel_rfl) (by simp) ?_
  refine AllReady.cons rfl (fun K hK => ?_) (AllReady.cons rfl (fun K hK => ?_) (AllReady.nil))
  · go_simp
    refine hK _ _ ?_
    clear hK K
    refine wpAny_ready (rs := [1, 2]) (by kernel_rfl) (by simp) ?_
    refine AllReady.cons rfl (fun K hK => ?_) (AllReady.cons rfl (fun K hK => ?_) (AllReady.nil))
    · go_simp
      go_wp2_with (go_at_call 69; (with_reducible refine (HM.out _).mono ?_); rintro e' w1 ⟨r, A, cap, B, cap', rfl, h0, hr, ho, ho', hb1⟩)
      have B1 : Below w.heap.size w w1 := by
        (repeat' (first | (with_reducible exact Below.refl _ _) | (with_reducible assumption) | (with_reducible refine belowNext ?_ (by with_reducible assumption)) | (with_reducible refine belowAlloc ?_ _) | (with_reducible refine Below.drew ?_) | (with_reducible refine below_drewN ?_ _) | (with_reducible refine Below.setCell ?_ ?_ _) | go_size | (with_reducible refine sizeOf' ?_) | (with_reducible refine sizeAdd ?_) | (dsimp only; first | (with_reducible refine sizeOf' ?_) | (with_reducible refine sizeAdd ?_))))
      clear y0 y1 y2 y3
      obtain ⟨-, y0, y1, y2, y3⟩ := KL.on B1
      refine wpAny_ready (rs := [2]) (by kernel_rfl) (by simp) ?_
      refine AllReady.cons rfl (fun K hK => ?_) (AllReady.nil)
      go_simp
      refine hK _ _ ?_
      clear hK K
      refine wpAny_ready (rs := [3]) (by kernel_rfl) (by simp) ?_
      refine AllReady.cons rfl (fun K hK => ?_) (AllReady.nil)
      go_simp
      go_wp2_with (go_at_call 70; (with_reducible refine (HP.out A r.length cap r B cap' _ ho.row rfl hr h0 ho'.row).mono ?_); rintro e' w2 ⟨A', cc', rfl, hlen, ho2, hb2⟩)
      refine wpAny_take (i := 4) (v := ?_) rfl (by kernel_rfl) (by kernel_rfl) (by kernel_rfl) (fun _ _ _ h => h) (Or.inl ⟨by kernel_rfl, ?_⟩) ?_
      rotate_left
      · intro w; first | (go_simp; done) | (go_simp; with_reducible rfl)
      refine wpAny_done (by kernel_rfl) ?_ _
      go_wp2
      go_ret
      exact ⟨A', cc', rfl, hlen, ho2.loM B1.size, belowNext B1 hb2⟩
    · go_simp
      refine hK _ _ ?_
      clear hK K
      refine wpAny_ready (rs := [1]) (by kernel_rfl) (by simp) ?_
      refine AllReady.cons rfl (fun K hK => ?_) (AllReady.nil)
      go_simp
      go_wp2_with (go_at_call 69; (with_reducible refine (HM.out _).mono ?_); rintro e' w1 ⟨r, A, cap, B, cap', rfl, h0, hr, ho, ho', hb1⟩)
      have B1 : Below w.heap.size w w1 := by
        (repeat' (first | (with_reducible exact Below.refl _ _) | (with_reducible assumption) | (with_reducible refine belowNext ?_ (by with_reducible assumption)) | (with_reducible refine belowAlloc ?_ _) | (with_reducible refine Below.drew ?_) | (with_reducible refine below_drewN ?_ _) | (with_reducible refine Below.setCell ?_ ?_ _) | go_size | (with_reducible refine sizeOf' ?_) | (with_reducible refine sizeAdd ?_) | (dsimp only; first | (with_reducible refine sizeOf' ?_) | (with_reducible refine sizeAdd ?_))))
      clear y0 y1 y2 y3
      obtain ⟨-, y0, y1, y2, y3⟩ := KL.on B1
      refine wpAny_ready (rs := [3]) (by kernel_rfl) (by simp) ?_
      refine AllReady.cons rfl (fun K hK => ?_) (AllReady.nil)
      go_simp
      go_wp2_with (go_at_call 70; (with_reducible refine (HP.out A r.length cap r B cap' _ ho.row rfl hr h0 ho'.row).mono ?_); rintro e' w2 ⟨A', cc', rfl, hlen, ho2, hb2⟩)
      refine wpAny_take (i := 4) (v := ?_) rfl (by kernel_rfl) (by kernel_rfl) (by kernel_rfl) (fun _ _ _ h => h) (Or.inl ⟨by kernel_rfl, ?_⟩) ?_
      rotate_left
      · intro w; first | (go_simp; done) | (go_simp; with_reducible rfl)
      refine wpAny_done (by kernel_rfl) ?_ _
      go_wp2
      go_ret
      exact ⟨A', cc', rfl, hlen, ho2.loM B1.size, belowNext B1 hb2⟩
  · go_simp
    refine hK _ _ ?_
    clear hK K
    refine wpAny_ready (rs := [0]) (by kernel_rfl) (by simp) ?_
    refine AllReady.cons rfl (fun K hK => ?_) (AllReady.nil)
    go_simp
    refine hK _ _ ?_
    clear hK K
    refine wpAny_ready (rs := [1]) (by kernel_rfl) (by simp) ?_
    refine AllReady.cons rfl (fun K hK => ?_) (AllReady.nil)
    go_simp
    go_wp2_with (go_at_call 69; (with_reducible refine (HM.out _).mono ?_); rintro e' w1 ⟨r, A, cap, B, cap', rfl, h0, hr, ho, ho', hb1⟩)
    have B1 : Below w.heap.size w w1 := by
      (repeat' (first | (with_reducible exact Below.refl _ _) | (with_reducible assumption) | (with_reducible refine belowNext ?_ (by with_reducible assumption)) | (with_reducible refine belowAlloc ?_ _) | (with_reducible refine Below.drew ?_) | (with_reducible refine below_drewN ?_ _) | (with_reducible refine Below.setCell ?_ ?_ _) | go_size | (with_reducible refine sizeOf' ?_) | (with_reducible refine sizeAdd ?_) | (dsimp only; first | (with_reducible refine sizeOf' ?_) | (with_reducible refine sizeAdd ?_))))
    clear y0 y1 y2 y3
    obtain ⟨-, y0, y1, y2, y3⟩ := KL.on B1
    refine wpAny_ready (rs := [3]) (by kernel_rfl) (by simp) ?_
    refine AllReady.cons rfl (fun K hK => ?_) (AllReady.nil)
    go_simp
    go_wp2_with (go_at_call 70; (with_reducible refine (HP.out A r.length cap r B cap' _ ho.row rfl hr h0 ho'.row).mono ?_); rintro e' w2 ⟨A', cc', rfl, hlen, ho2, hb2⟩)
    refine wpAny_take (i := 4) (v := ?_) rfl (by kernel_rfl) (by kernel_rfl) (by kernel_rfl) (fun _ _ _ h => h) (Or.inl ⟨by kernel_rfl, ?_⟩) ?_
    rotate_left
    · intro w; first | (go_simp; done) | (go_simp; with_reducible rfl)
    refine wpAny_done (by kernel_rfl) ?_ _
    go_wp2
    go_ret
    exact ⟨A', cc', rfl, hlen, ho2.loM B1.size, belowNext B1 hb2⟩

set_option maxRecDepth 8000 in
set_option maxHeartbeats 4000000 in
theorem clBack (a b c d e f g h : Int) (bm bl : Nat) (w : World) (hl : isLf a b c d = true) (hm : isLf e f g h = true) (hh : pbHal e f g h = true) (hk : MinIs (e, f, g, h) 0) (hc : backC (a, b, c, d) (e, f, g, h) (wayXX (e, f, g, h)) ≠ 0) (KM : BoxG w bm e f g h) (KL : BoxG w bl a b c d) :
    Calls Try.prog 68 #[.pointer (some ⟨bm, 0, none⟩), .pointer (some ⟨bl, 0, none⟩)] w fun e' w' => e' = .panicked (pan (backC (a, b, c, d) (e, f, g, h) (wayXX (e, f, g, h)))) ∧ (backL (a, b, c, d) (e, f, g, h) (wayXX (e, f, g, h))) = [] ∧ Below w.heap.size w w' := by
  have HM := Lib.hid (fun w => implMinorYes e f g h w hm hk)
  unfold ResCd at HM
  have HP := Lib.hid (fun (A : Option Addr) (n capA : Nat) (r : List Lf4) (B : Option Addr) (capB : Nat) (w : World) (hA : LfRow w w.heap.size A r) (hn : r.length = n) (hn2 : n ≤ 1000000) (h0 : r[0]? = some (e, f, g, h)) (hB : LfRow w w.heap.size B (wayXX (e, f, g, h))) => puNo a b c d e f g h A n capA r B capB (wayXX (e, f, g, h)) w hl hA hn hn2 h0 hB rfl (way_lf hm hh) hc)
  clear hm hk hl hh hc
  generalize backL (a, b, c, d) (e, f, g, h) (wayXX (e, f, g, h)) = RL at *
  generalize backC (a, b, c, d) (e, f, g, h) (wayXX (e, f, g, h)) = RC at *
  generalize wayXX (e, f, g, h) = J at *
  obtain ⟨zm, x0, x1, x2, x3⟩ := id KM
  obtain ⟨zl, y0, y1, y2, y3⟩ := id KL
  go_enter Try.func68, Try.ntmps68
  go_wp2_with fail
  refine wp_region_any (by kernel_rfl) ?_
  try (change wpAny _ _ _ _ _ _ _ (World.drew _))
  refine wpAny_ready (rs := [0, 2]) (by kernel_rfl) (by simp) ?_
  refine AllReady.cons rfl (fun K hK => ?_) (AllReady.cons rfl (fun K hK => ?_) (AllReady.nil))
  · go_simp
    refine hK _ _ ?_
    clear hK K
    refine wpAny_ready (rs := [1, 2]) (by kernel_rfl) (by simp) ?_
    refine AllReady.cons rfl (fun K hK => ?_) (AllReady.cons rfl (fun K hK => ?_) (AllReady.nil))
    · go_simp
      go_wp2_with (go_at_call 69; (with_reducible refine (HM.out _).mono ?_); rintro e' w1 ⟨r, A, cap, B, cap', rfl, h0, hr, ho, ho', hb1⟩)
      have B1 : Below w.heap.size w w1 := by
        (repeat' (first | (with_reducible exact Below.refl _ _) | (with_reducible assumption) | (with_reducible refine belowNext ?_ (by with_reducible assumption)) | (with_reducible refine belowAlloc ?_ _) | (with_reducible refine Below.drew ?_) | (with_reducible refine below_drewN ?_ _) | (with_reducible refine Below.setCell ?_ ?_ _) | go_size | (with_reducible refine sizeOf' ?_) | (with_reducible refine sizeAdd ?_) | (dsimp only; first | (with_reducible refine sizeOf' ?_) | (with_reducible refine sizeAdd ?_))))
      clear y0 y1 y2 y3
      obtain ⟨-, y0, y1, y2, y3⟩ := KL.on B1
      refine wpAny_ready (rs := [2]) (by kernel_rfl) (by simp) ?_
      refine AllReady.cons rfl (fun K hK => ?_) (AllReady.nil)
      go_simp
      refine hK _ _ ?_
      clear hK K
      refine wpAny_ready (rs := [3]) (by kernel_rfl) (by simp) ?_
      refine AllReady.cons rfl (fun K hK => ?_) (AllReady.nil)
      go_simp
      go_wp2_with (go_at_call 70; (with_reducible refine (HP.out A r.length cap r B cap' _ ho.row rfl hr h0 ho'.row).mono ?_); rintro e' w2 ⟨rfl, hnil, hb2⟩)
      go_wp2
      exact ⟨rfl, rfl, hnil, belowNext B1 hb2⟩
    · go_simp
      refine hK _ _ ?_
      clear hK K
      refine wpAny_ready (rs := [1]) (by kernel_rfl) (by simp) ?_
      refine AllReady.cons rfl (fun K hK => ?_) (AllReady.nil)
      go_simp
      go_wp2_with (go_at_call 69; (with_reducible refine (HM.out _).mono ?_); rintro e' w1 ⟨r, A, cap, B, cap', rfl, h0, hr, ho, ho', hb1⟩)
      have B1 : Below w.heap.size w w1 := by
        (repeat' (first | (with_reducible exact Below.refl _ _) | (with_reducible assumption) | (with_reducible refine belowNext ?_ (by with_reducible assumption)) | (with_reducible refine belowAlloc ?_ _) | (with_reducible refine Below.drew ?_) | (with_reducible refine below_drewN ?_ _) | (with_reducible refine Below.setCell ?_ ?_ _) | go_size | (with_reducible refine sizeOf' ?_) | (with_reducible refine sizeAdd ?_) | (dsimp only; first | (with_reducible refine sizeOf' ?_) | (with_reducible refine sizeAdd ?_))))
      clear y0 y1 y2 y3
      obtain ⟨-, y0, y1, y2, y3⟩ := KL.on B1
      refine wpAny_ready (rs := [3]) (by kernel_rfl) (by simp) ?_
      refine AllReady.cons rfl (fun K hK => ?_) (AllReady.nil)
      go_simp
      go_wp2_with (go_at_call 70; (with_reducible refine (HP.out A r.length cap r B cap' _ ho.row rfl hr h0 ho'.row).mono ?_); rintro e' w2 ⟨rfl, hnil, hb2⟩)
      go_wp2
      exact ⟨rfl, rfl, hnil, belowNext B1 hb2⟩
  · go_simp
    refine hK _ _ ?_
    clear hK K
    refine wpAny_ready (rs := [0]) (by kernel_rfl) (by simp) ?_
    refine AllReady.cons rfl (fun K hK => ?_) (AllReady.nil)
    go_simp
    refine hK _ _ ?_
    clear hK K
    refine wpAny_ready (rs := [1]) (by kernel_rfl) (by simp) ?_
    refine AllReady.cons rfl (fun K hK => ?_) (AllReady.nil)
    go_simp
    go_wp2_with (go_at_call 69; (with_reducible refine (HM.out _).mono ?_); rintro e' w1 ⟨r, A, cap, B, cap', rfl, h0, hr, ho, ho', hb1⟩)
    have B1 : Below w.heap.size w w1 := by
      (repeat' (first | (with_reducible exact Below.refl _ _) | (with_reducible assumption) | (with_reducible refine belowNext ?_ (by with_reducible assumption)) | (with_reducible refine belowAlloc ?_ _) | (with_reducible refine Below.drew ?_) | (with_reducible refine below_drewN ?_ _) | (with_reducible refine Below.setCell ?_ ?_ _) | go_size | (with_reducible refine sizeOf' ?_) | (with_reducible refine sizeAdd ?_) | (dsimp only; first | (with_reducible refine sizeOf' ?_) | (with_reducible refine sizeAdd ?_))))
    clear y0 y1 y2 y3
    obtain ⟨-, y0, y1, y2, y3⟩ := KL.on B1
    refine wpAny_ready (rs := [3]) (by kernel_rfl) (by simp) ?_
    refine AllReady.cons rfl (fun K hK => ?_) (AllReady.nil)
    go_simp
    go_wp2_with (go_at_call 70; (with_reducible refine (HP.out A r.length cap r B cap' _ ho.row rfl hr h0 ho'.row).mono ?_); rintro e' w2 ⟨rfl, hnil, hb2⟩)
    go_wp2
    exact ⟨rfl, rfl, hnil, belowNext B1 hb2⟩

theorem taYes (k : Int) (xT : TypeId) (w : World) : (Instr.typeAssert (.iface 118 (.int .i64 k)) xT 118 true).run Try.prog w = .ok (.tuple #[.int .i64 k, .bool true]) w := by kernel_rfl
theorem taNo (xT : TypeId) (w : World) : (Instr.typeAssert .nilIface xT 118 true).run Try.prog w = .ok (.tuple #[.int .i64 0, .bool false]) w := by kernel_rfl

set_option maxRecDepth 20000 in
theorem doorCatch (p : Addr) (x k : Int) (older : List PanicEntry) (w : World) (hc : w.cell? p = some (.int .i64 x)) (hz : w.frozen? p = false) :
    CallsD Try.prog 110 #[.pointer (some p)] (.panicking ({ v := .iface 118 (.int .i64 k), recovered := false } :: older)) w fun e u' w' =>
      e = .returned (.tuple #[]) ∧ u' = .panicking ({ v := .iface 118 (.int .i64 k), recovered := true } :: older) ∧ w' = w.setCell p (.int .i64 k) := by
  refine callsD_of_wpS Try.func110 rfl fun c₀ cs hu => ?_
  apply wpS_seq
  apply wpS_region
  simp [wpOpsS, go_sem, taYes, recoverD, hu, Try.ntmps110, Exit.thenS]
  apply wpS_seq
  apply wpS_region
  simp [wpOpsS, go_sem, Exit.thenS]
  refine wpS_cond (t := true) (by simp [Act.eval, Array.replicate]) ?_
  simp only [if_true]
  apply wpS_region
  simp [wpOpsS, go_sem, hc, hz, bodyPostS, results, Try.results110]

set_option maxRecDepth 20000 in
theorem doorIdle (p : Addr) (w : World) :
    CallsD Try.prog 110 #[.pointer (some p)] .returning w fun e u' w' => e = .returned (.tuple #[]) ∧ u' = .returning ∧ w' = w := by
  refine callsD_of_wpS Try.func110 rfl fun c₀ cs hu => ?_
  apply wpS_seq
  apply wpS_region
  simp [wpOpsS, go_sem, taNo, recoverD, hu, Try.ntmps110, Exit.thenS]
  apply wpS_seq
  apply wpS_region
  simp [wpOpsS, go_sem, Exit.thenS]
  refine wpS_cond (t := false) (by simp [Act.eval, Array.replicate]) ?_
  simp only [Bool.false_eq_true, if_false]
  refine wpS_of_wp (wp_skip ?_)
  cases c₀
  simp_all [bodyPostS, results, Try.results110]

set_option maxRecDepth 4000 in
set_option maxHeartbeats 2000000 in
theorem doorNo (F : Nat) (caps : Array Value) (hcf : ∀ args W, (callFunc F args).run Try.prog W = .ok (.enter F args) W) (k : Int) (w : World)
    (HF : ∀ (W : World), Below w.heap.size w W → Calls Try.prog F caps W fun e w' => e = .panicked (pan k) ∧ Below W.heap.size W w') :
    Calls Try.prog 67 #[.func (Fn.func F) #[] caps] w fun e w' => e = .returned (.tuple #[.slice none 0 0, .int .i64 k]) ∧ Below w.heap.size w w' := by
  have HC := Lib.hid HF
  clear HF
  have hmf : ∀ (fn : Fn) (first cap : Array Value) (w : World), (Instr.makeFunc fn first cap).run Try.prog w = .ok (.func fn first cap) w := fun _ _ _ _ => rfl
  go_enter_defers Try.func67, Try.ntmps67
  go_wp2_with fail
  refine (HC.out _ (by (repeat' (first | (with_reducible exact Below.refl _ _) | (with_reducible assumption) | (with_reducible refine belowNext ?_ (by with_reducible assumption)) | (with_reducible refine belowAlloc ?_ _) | (with_reducible refine Below.drew ?_) | (with_reducible refine below_drewN ?_ _) | (with_reducible refine Below.setCell ?_ ?_ _) | go_size | (with_reducible refine sizeOf' ?_) | (with_reducible refine sizeAdd ?_) | (dsimp only; first | (with_reducible refine sizeOf' ?_) | (with_reducible refine sizeAdd ?_)))))).mono ?_
  rintro e w1 ⟨rfl, hb1⟩
  have q0 : w1.cell? ⟨w.heap.size, 0, none⟩ = some (.int .i64 5) := cellThru hb1 (by simp) (by simp [go_sem])
  have j0 : w1.frozen? ⟨w.heap.size, 0, none⟩ = false := frozThru hb1 (by simp) (by simp [go_sem])
  go_wp2
  refine leaves_cons (f := 110) (args := #[.pointer (some ⟨w.heap.size, 0, none⟩)]) (by simp) (by simp [go_sem]) ?_
  refine (doorCatch ⟨w.heap.size, 0, none⟩ 5 k [] _ ?_ ?_).mono ?_
  · exact q0
  · exact j0
  rintro e u' w'' ⟨rfl, rfl, rfl⟩
  have q1 : (w1.setCell ⟨w.heap.size, 0, none⟩ (.int .i64 k)).cell? ⟨w.heap.size, 0, none⟩ = some (.int .i64 k) := World.cell?_setCell_same' _ _ _ (by rw [q0]; rfl)
  have B1 : Below w.heap.size w (w1.setCell ⟨w.heap.size, 0, none⟩ (.int .i64 k)) := by
    (repeat' (first | (with_reducible exact Below.refl _ _) | (with_reducible assumption) | (with_reducible refine belowNext ?_ (by with_reducible assumption)) | (with_reducible refine belowAlloc ?_ _) | (with_reducible refine Below.drew ?_) | (with_reducible refine below_drewN ?_ _) | (with_reducible refine Below.setCell ?_ ?_ _) | go_size | (with_reducible refine sizeOf' ?_) | (with_reducible refine sizeAdd ?_) | (dsimp only; first | (with_reducible refine sizeOf' ?_) | (with_reducible refine sizeAdd ?_))))
  simp [Leaves, settle, results, Try.results67, go_sem, q1, B1]

set_option maxRecDepth 4000 in
set_option maxHeartbeats 2000000 in
theorem doorYes (F : Nat) (caps : Array Value) (hcf : ∀ args W, (callFunc F args).run Try.prog W = .ok (.enter F args) W) (L : List Lf4) (w : World)
    (HF : ∀ (W : World), Below w.heap.size w W → Calls Try.prog F caps W fun e w' => ∃ A cap, e = .returned (.slice A 2 cap) ∧ LfOwn w' W.heap.size A L ∧ Below W.heap.size W w') :
    Calls Try.prog 67 #[.func (Fn.func F) #[] caps] w fun e w' => ∃ A cap, e = .returned (.tuple #[.slice A 2 cap, .int .i64 0]) ∧ LfOwn w' w.heap.size A L ∧ Below w.heap.size w w' := by
  have HC := Lib.hid HF
  clear HF
  have hmf : ∀ (fn : Fn) (first cap : Array Value) (w : World), (Instr.makeFunc fn first cap).run Try.prog w = .ok (.func fn first cap) w := fun _ _ _ _ => rfl
  go_enter_defers Try.func67, Try.ntmps67
  go_wp2_with fail
  refine (HC.out _ (by (repeat' (first | (with_reducible exact Below.refl _ _) | (with_reducible assumption) | (with_reducible refine belowNext ?_ (by with_reducible assumption)) | (with_reducible refine belowAlloc ?_ _) | (with_reducible refine Below.drew ?_) | (with_reducible refine below_drewN ?_ _) | (with_reducible refine Below.setCell ?_ ?_ _) | go_size | (with_reducible refine sizeOf' ?_) | (with_reducible refine sizeAdd ?_) | (dsimp only; first | (with_reducible refine sizeOf' ?_) | (with_reducible refine sizeAdd ?_)))))).mono ?_
  rintro e w1 ⟨A, cap, rfl, ho, hb1⟩
  have q0 : w1.cell? ⟨w.heap.size, 0, none⟩ = some (.int .i64 5) := cellThru hb1 (by simp) (by simp [go_sem])
  have j0 : w1.frozen? ⟨w.heap.size, 0, none⟩ = false := frozThru hb1 (by simp) (by simp [go_sem])
  have HO := Lib.hid (ho.set _ _ _ (by simp) : LfOwn (w1.setCell ⟨w.heap.size, 0, none⟩ (.int .i64 0)) _ A L)
  clear ho
  go_wp2
  refine leaves_cons (f := 110) (args := #[.pointer (some ⟨w.heap.size, 0, none⟩)]) (by simp) (by simp [go_sem]) ?_
  refine (doorIdle ⟨w.heap.size, 0, none⟩ _).mono ?_
  rintro e u' w'' ⟨rfl, rfl, rfl⟩
  have q1 : (w1.setCell ⟨w.heap.size, 0, none⟩ (.int .i64 0)).cell? ⟨w.heap.size, 0, none⟩ = some (.int .i64 0) := World.cell?_setCell_same' _ _ _ (by rw [q0]; rfl)
  have B1 : Below w.heap.size w (w1.setCell ⟨w.heap.size, 0, none⟩ (.int .i64 0)) := by
    (repeat' (first | (with_reducible exact Below.refl _ _) | (with_reducible assumption) | (with_reducible refine belowNext ?_ (by with_reducible assumption)) | (with_reducible refine belowAlloc ?_ _) | (with_reducible refine Below.drew ?_) | (with_reducible refine below_drewN ?_ _) | (with_reducible refine Below.setCell ?_ ?_ _) | go_size | (with_reducible refine sizeOf' ?_) | (with_reducible refine sizeAdd ?_) | (dsimp only; first | (with_reducible refine sizeOf' ?_) | (with_reducible refine sizeAdd ?_))))
  simp [Leaves, settle, results, Try.results67, go_sem, q1, B1]
  exact HO.out.loM (by simp)

theorem fC25 : ∀ args W, (callFunc 68 args).run Try.prog W = .ok (.enter 68 args) W := by intro args W; kernel_rfl
theorem back_len {x m : Lf4} {J : List Lf4} (hJ : J.length = 2) (hc : backC x m J = 0) : (backL x m J).length = 2 := by
  unfold backC at hc
  unfold backL
  split
  · exact hJ
  · rename_i h1
    rw [if_neg h1] at hc
    split
    · rename_i h2
      rw [if_pos h2] at hc
      split
      · split
        · split <;> rfl
        · rfl
      · rename_i h3
        rw [if_neg h3] at hc
        split
        · rfl
        · rename_i h4
          rw [if_neg h4] at hc
          omega
    · rename_i h2
      rw [if_neg h2] at hc
      omega
theorem back_nil {x m : Lf4} {J : List Lf4} (hc : backC x m J ≠ 0) : backL x m J = [] := by
  unfold backC at hc
  unfold backL
  split
  · rename_i h1; rw [if_pos h1] at hc; exact absurd rfl hc
  · rename_i h1
    rw [if_neg h1] at hc
    split
    · rename_i h2
      rw [if_pos h2] at hc
      split
      · rename_i h3; rw [if_pos h3] at hc; exact absurd rfl hc
      · rename_i h3
        rw [if_neg h3] at hc
        split
        · rename_i h4; rw [if_pos h4] at hc; exact absurd rfl hc
        · rfl
    · rfl
theorem min_hal {x : Lf4} (h : MinIs x 0) : halX x = true := by
  rcases h with ⟨_, h⟩ | ⟨_, _, h⟩ | ⟨_, h, _⟩
  · omega
  · omega
  · exact h

set_option maxRecDepth 8000 in
set_option maxHeartbeats 4000000 in
theorem implPull (a b c d e f g h : Int) (w : World) (k : Int) (hk : MinIs (e, f, g, h) k) :
    Calls Try.prog 32 #[leafV a b c d, leafV e f g h] w (ResLf w (pullL k (a, b, c, d) (e, f, g, h)) (pullC k (a, b, c, d) (e, f, g, h))) := by
  have HA : Hid (∀ (w : World) B cap, LfRow w w.heap.size (some ⟨B, 0, none⟩) [(a, b, c, d), (e, f, g, h)] → Calls Try.prog 66 #[.slice (some ⟨B, 0, none⟩) 2 cap] w fun e' w' => e' = .returned (.bool (isLfX (a, b, c, d) && isLfX (e, f, g, h))) ∧ Below w.heap.size w w') := Lib.hid (fun w B cap hh => by
    have := areLf (some ⟨B, 0, none⟩) 2 cap [(a, b, c, d), (e, f, g, h)] w hh rfl (by omega)
    have e2 : allLf [(a, b, c, d), (e, f, g, h)] = (isLfX (a, b, c, d) && isLfX (e, f, g, h)) := by simp [allLf, isLfX]
    rw [e2] at this
    exact this)
  have hcf := fC25
  cases hq : (isLfX (a, b, c, d) && isLfX (e, f, g, h))
  · obtain ⟨E1, E2⟩ := pull_no (k := k) hq
    rw [E1, E2]
    rw [hq] at HA
    clear hk hq E1 E2
    go_enter Try.func32, Try.ntmps32
    go_wp2_with fail
    refine (HA.out _ _ _ (by exact rowL2 _ _ _ _ _ _ _ _ _ _ _ (by simp))).mono ?_
    rintro e w1 ⟨rfl, hb1⟩
    obtain ⟨hc1, hf1⟩ := bcell hb1
    have hz1_0 : w.heap.size < w1.heap.size := by have := hb1.size; first | omega | (simp at this; omega)
    have hz1_1 : w.heap.size + 1 < w1.heap.size := by have := hb1.size; first | omega | (simp at this; omega)
    go_wp2
    go_ret2
    refine ⟨none, 0, rfl, lfOwn_nil, ?_⟩
    (repeat' (first | (with_reducible exact Below.refl _ _) | (with_reducible assumption) | (with_reducible refine belowNext ?_ (by with_reducible assumption)) | (with_reducible refine belowAlloc ?_ _) | (with_reducible refine Below.drew ?_) | (with_reducible refine below_drewN ?_ _) | (with_reducible refine Below.setCell ?_ ?_ _) | go_size | (with_reducible refine sizeOf' ?_) | (with_reducible refine sizeAdd ?_) | (dsimp only; first | (with_reducible refine sizeOf' ?_) | (with_reducible refine sizeAdd ?_))))
  · have h1 : isLf a b c d = true := by rw [Bool.and_eq_true] at hq; exact hq.1
    have h2 : isLf e f g h = true := by rw [Bool.and_eq_true] at hq; exact hq.2
    rw [hq] at HA
    have HD : Hid (∀ (W : World) (bm bl : Nat), BoxG W bm e f g h → BoxG W bl a b c d → Calls Try.prog 67 #[.func (Fn.func 68) #[] #[.pointer (some ⟨bm, 0, none⟩), .pointer (some ⟨bl, 0, none⟩)]] W (ResLf W (pullL k (a, b, c, d) (e, f, g, h)) (pullC k (a, b, c, d) (e, f, g, h)))) := Lib.hid (fun W bm bl KM KL => by
      by_cases hk0 : k = 0
      · subst hk0
        obtain ⟨E1, E2⟩ := pull_yes hq
        rw [E1, E2]
        by_cases hc : backC (a, b, c, d) (e, f, g, h) (wayXX (e, f, g, h)) = 0
        · have hlen := back_len (x := (a, b, c, d)) (m := (e, f, g, h)) (J := wayXX (e, f, g, h)) rfl hc
          rw [hc]
          refine (doorYes _ _ fC25 (backL (a, b, c, d) (e, f, g, h) (wayXX (e, f, g, h))) W (fun W' hB => (clYes a b c d e f g h bm bl W' h1 h2 (min_hal hk) hk hc (KM.on hB) (KL.on hB)).mono ?_)).mono ?_
          · rintro e' w' ⟨A, cap, he, -, ho, hb⟩
            exact ⟨A, cap, he, ho, hb⟩
          · rintro e' w' ⟨A, cap, he, ho, hb⟩
            exact ⟨A, cap, by rw [he, hlen], ho, hb⟩
        · rw [back_nil hc]
          refine (doorNo _ _ fC25 (backC (a, b, c, d) (e, f, g, h) (wayXX (e, f, g, h))) W (fun W' hB => (clBack a b c d e f g h bm bl W' h1 h2 (min_hal hk) hk hc (KM.on hB) (KL.on hB)).mono ?_)).mono ?_
          · rintro e' w' ⟨he, -, hb⟩
            exact ⟨he, hb⟩
          · rintro e' w' ⟨he, hb⟩
            exact ⟨none, 0, he, lfOwn_nil, hb⟩
      · obtain ⟨E1, E2⟩ := pull_code hq hk0
        rw [E1, E2]
        refine (doorNo _ _ fC25 k W (fun W' hB => clNo a b c d e f g h bm bl W' k h2 hk hk0 (KM.on hB) (KL.on hB))).mono ?_
        rintro e' w' ⟨he, hb⟩
        exact ⟨none, 0, he, lfOwn_nil, hb⟩)
    unfold ResLf at HD ⊢
    clear hk hq h1 h2
    generalize pullL k (a, b, c, d) (e, f, g, h) = RL at *
    generalize pullC k (a, b, c, d) (e, f, g, h) = RC at *
    have hmf : ∀ (fn : Fn) (first cap : Array Value) (w : World), (Instr.makeFunc fn first cap).run Try.prog w = .ok (.func fn first cap) w := fun _ _ _ _ => rfl
    go_enter Try.func32, Try.ntmps32
    go_wp2_with fail
    refine (HA.out _ _ _ (by exact rowL2 _ _ _ _ _ _ _ _ _ _ _ (by simp))).mono ?_
    rintro e w1 ⟨rfl, hb1⟩
    obtain ⟨hc1, hf1⟩ := bcell hb1
    have hz1_0 : w.heap.size < w1.heap.size := by have := hb1.size; first | omega | (simp at this; omega)
    have hz1_1 : w.heap.size + 1 < w1.heap.size := by have := hb1.size; first | omega | (simp at this; omega)
    have q1_0_0 : w1.cell? ⟨w.heap.size, 0, none⟩ = some (.int .i64 a) := cellThru hb1 (by simp <;> omega) (by simp [go_sem])
    have q1_0_1 : w1.cell? ⟨w.heap.size, 1, none⟩ = some (.int .i64 b) := cellThru hb1 (by simp <;> omega) (by simp [go_sem])
    have q1_0_2 : w1.cell? ⟨w.heap.size, 2, none⟩ = some (.int .i64 c) := cellThru hb1 (by simp <;> omega) (by simp [go_sem])
    have q1_0_3 : w1.cell? ⟨w.heap.size, 3, none⟩ = some (.int .i64 d) := cellThru hb1 (by simp <;> omega) (by simp [go_sem])
    have q1_1_0 : w1.cell? ⟨w.heap.size + 1, 0, none⟩ = some (.int .i64 e) := cellThru hb1 (by simp <;> omega) (by simp [go_sem])
    have q1_1_1 : w1.cell? ⟨w.heap.size + 1, 1, none⟩ = some (.int .i64 f) := cellThru hb1 (by simp <;> omega) (by simp [go_sem])
    have q1_1_2 : w1.cell? ⟨w.heap.size + 1, 2, none⟩ = some (.int .i64 g) := cellThru hb1 (by simp <;> omega) (by simp [go_sem])
    have q1_1_3 : w1.cell? ⟨w.heap.size + 1, 3, none⟩ = some (.int .i64 h) := cellThru hb1 (by simp <;> omega) (by simp [go_sem])
    have B1 : Below w.heap.size w w1 := by
      (repeat' (first | (with_reducible exact Below.refl _ _) | (with_reducible assumption) | (with_reducible refine belowNext ?_ (by with_reducible assumption)) | (with_reducible refine belowAlloc ?_ _) | (with_reducible refine Below.drew ?_) | (with_reducible refine below_drewN ?_ _) | (with_reducible refine Below.setCell ?_ ?_ _) | go_size | (with_reducible refine sizeOf' ?_) | (with_reducible refine sizeAdd ?_) | (dsimp only; first | (with_reducible refine sizeOf' ?_) | (with_reducible refine sizeAdd ?_))))
    have KL : BoxG w1 w.heap.size a b c d := ⟨hz1_0, q1_0_0, q1_0_1, q1_0_2, q1_0_3⟩
    have KM : BoxG w1 (w.heap.size + 1) e f g h := ⟨hz1_1, q1_1_0, q1_1_1, q1_1_2, q1_1_3⟩
    clear q1_0_0 q1_0_1 q1_0_2 q1_0_3 q1_1_0 q1_1_1 q1_1_2 q1_1_3 hb1 hc1 hf1
    go_wp2_with fail
    refine (HD.out _ _ _ KM KL).mono ?_
    rintro e' w2 ⟨A, cap, rfl, ho, hb2⟩
    have HO := Lib.hid (ho.loM B1.size)
    clear ho
    go_wp2
    go_ret2
    exact ⟨A, cap, rfl, HO.out, belowNext B1 hb2⟩

theorem pull_len (k : Int) (x m : Lf4) : (pullL k x m).length ≤ 1000000000000 := by
  unfold pullL
  split
  · split
    · by_cases hc : backC x m (wayXX m) = 0
      · rw [back_len rfl hc]; omega
      · rw [back_nil hc]; simp
    · simp
  · simp

/-- Two boxed leaves, kept. -/
structure Box8 (w W : World) (a b c d e f g h : Int) : Prop where
  z : w.heap.size + 1 < W.heap.size
  B : Below w.heap.size w W
  c0 : W.cell? ⟨w.heap.size, 0, none⟩ = some (.int .i64 a)
  c1 : W.cell? ⟨w.heap.size, 1, none⟩ = some (.int .i64 b)
  c2 : W.cell? ⟨w.heap.size, 2, none⟩ = some (.int .i64 c)
  c3 : W.cell? ⟨w.heap.size, 3, none⟩ = some (.int .i64 d)
  c4 : W.cell? ⟨w.heap.size + 1, 0, none⟩ = some (.int .i64 e)
  c5 : W.cell? ⟨w.heap.size + 1, 1, none⟩ = some (.int .i64 f)
  c6 : W.cell? ⟨w.heap.size + 1, 2, none⟩ = some (.int .i64 g)
  c7 : W.cell? ⟨w.heap.size + 1, 3, none⟩ = some (.int .i64 h)
theorem Box8.next {w W w1 : World} {a b c d e f g h : Int} {B : Nat} (H : Box8 w W a b c d e f g h) (hb : Below B W w1) (hB : w.heap.size + 1 < B) (hs : W.heap.size ≤ w1.heap.size) : Box8 w w1 a b c d e f g h :=
  ⟨Nat.lt_of_lt_of_le H.z hs, H.B.trans (hb.mono (by omega)), (hb.cell (p := ⟨_, _, none⟩) (by dsimp only; omega)).trans H.c0, (hb.cell (p := ⟨_, _, none⟩) (by dsimp only; omega)).trans H.c1, (hb.cell (p := ⟨_, _, none⟩) (by dsimp only; omega)).trans H.c2, (hb.cell (p := ⟨_, _, none⟩) (by dsimp only; omega)).trans H.c3,
    (hb.cell (p := ⟨_, _, none⟩) hB).trans H.c4, (hb.cell (p := ⟨_, _, none⟩) hB).trans H.c5, (hb.cell (p := ⟨_, _, none⟩) hB).trans H.c6, (hb.cell (p := ⟨_, _, none⟩) hB).trans H.c7⟩
theorem Box8.on {w W w1 : World} {a b c d e f g h : Int} (H : Box8 w W a b c d e f g h) (hb : Below W.heap.size W w1) : Box8 w w1 a b c d e f g h := H.next hb H.z hb.size
theorem Box8.all {w W : World} {a b c d e f g h : Int} (H : Box8 w W a b c d e f g h) : w.heap.size + 1 < W.heap.size ∧ Below w.heap.size w W ∧ W.cell? ⟨w.heap.size, 0, none⟩ = some (.int .i64 a) ∧ W.cell? ⟨w.heap.size, 1, none⟩ = some (.int .i64 b) ∧ W.cell? ⟨w.heap.size, 2, none⟩ = some (.int .i64 c) ∧ W.cell? ⟨w.heap.size, 3, none⟩ = some (.int .i64 d) ∧
      W.cell? ⟨w.heap.size + 1, 0, none⟩ = some (.int .i64 e) ∧ W.cell? ⟨w.heap.size + 1, 1, none⟩ = some (.int .i64 f) ∧ W.cell? ⟨w.heap.size + 1, 2, none⟩ = some (.int .i64 g) ∧ W.cell? ⟨w.heap.size + 1, 3, none⟩ = some (.int .i64 h) := ⟨H.z, H.B, H.c0, H.c1, H.c2, H.c3, H.c4, H.c5, H.c6, H.c7⟩
theorem Box8.of {w W : World} {a b c d e f g h : Int} (H : w.heap.size + 1 < W.heap.size ∧ Below w.heap.size w W ∧ W.cell? ⟨w.heap.size, 0, none⟩ = some (.int .i64 a) ∧ W.cell? ⟨w.heap.size, 1, none⟩ = some (.int .i64 b) ∧ W.cell? ⟨w.heap.size, 2, none⟩ = some (.int .i64 c) ∧ W.cell? ⟨w.heap.size, 3, none⟩ = some (.int .i64 d) ∧
      W.cell? ⟨w.heap.size + 1, 0, none⟩ = some (.int .i64 e) ∧ W.cell? ⟨w.heap.size + 1, 1, none⟩ = some (.int .i64 f) ∧ W.cell? ⟨w.heap.size + 1, 2, none⟩ = some (.int .i64 g) ∧ W.cell? ⟨w.heap.size + 1, 3, none⟩ = some (.int .i64 h)) : Box8 w W a b c d e f g h :=
  ⟨H.1, H.2.1, H.2.2.1, H.2.2.2.1, H.2.2.2.2.1, H.2.2.2.2.2.1, H.2.2.2.2.2.2.1, H.2.2.2.2.2.2.2.1, H.2.2.2.2.2.2.2.2.1, H.2.2.2.2.2.2.2.2.2⟩

set_option maxRecDepth 8000 in
set_option maxHeartbeats 4000000 in
theorem lawPullBackBy (a b c d : Int) (_ : (Lit.int .i64 a).wf = true) (_ : (Lit.int .i64 b).wf = true) (_ : (Lit.int .i64 c).wf = true) (_ : (Lit.int .i64 d).wf = true)
    (e f g h : Int) (_ : (Lit.int .i64 e).wf = true) (_ : (Lit.int .i64 f).wf = true) (_ : (Lit.int .i64 g).wf = true) (_ : (Lit.int .i64 h).wf = true) (w : World) :
    Calls Try.prog 8 #[leafV a b c d, leafV e f g h] w fun e' w' => e' = .returned (.bool true) ∧ Below w.heap.size w w' := by
  obtain ⟨k, hk⟩ := min_some (e, f, g, h)
  have hlen := pull_len k (a, b, c, d) (e, f, g, h)
  have HA0 := fun w => specPull a b c d e f g h w k hk
  have HB0 := fun w => implPull a b c d e f g h w k hk
  clear hk
  generalize pullL k (a, b, c, d) (e, f, g, h) = l at *
  generalize pullC k (a, b, c, d) (e, f, g, h) = C at *
  obtain ⟨len, hl⟩ : ∃ len, l.length = len := ⟨_, rfl⟩
  have HA : Hid (∀ w : World, Calls Try.prog 31 #[leafV a b c d, leafV e f g h] w fun e' w' => ∃ A cap, e' = .returned (.tuple #[.slice A len cap, .int .i64 C]) ∧ LfOwn w' w.heap.size A l ∧ Below w.heap.size w w') := Lib.hid (fun w => (HA0 w).mono fun e' w' q => by rw [← hl]; exact q)
  have HB : Hid (∀ w : World, Calls Try.prog 32 #[leafV a b c d, leafV e f g h] w fun e' w' => ∃ A cap, e' = .returned (.tuple #[.slice A len cap, .int .i64 C]) ∧ LfOwn w' w.heap.size A l ∧ Below w.heap.size w w') := Lib.hid (fun w => (HB0 w).mono fun e' w' q => by rw [← hl]; exact q)
  rw [hl] at hlen
  have HL := Lib.hid hl
  clear hl HA0 HB0
  go_enter Try.func8, Try.ntmps8
  go_wp2_with fail
  have K0 : Box8 w ((w.alloc (.cells #[.int .i64 a, .int .i64 b, .int .i64 c, .int .i64 d] 31)).alloc (.cells #[.int .i64 e, .int .i64 f, .int .i64 g, .int .i64 h] 31)) a b c d e f g h := ⟨by simp, (by (repeat' (first | (with_reducible exact Below.refl _ _) | (with_reducible assumption) | (with_reducible refine belowNext ?_ (by with_reducible assumption)) | (with_reducible refine belowAlloc ?_ _) | (with_reducible refine Below.drew ?_) | (with_reducible refine below_drewN ?_ _) | (with_reducible refine Below.setCell ?_ ?_ _) | go_size | (with_reducible refine sizeOf' ?_) | (with_reducible refine sizeAdd ?_) | (dsimp only; first | (with_reducible refine sizeOf' ?_) | (with_reducible refine sizeAdd ?_))))), by simp [go_sem], by simp [go_sem], by simp [go_sem], by simp [go_sem], by simp [go_sem], by simp [go_sem], by simp [go_sem], by simp [go_sem]⟩
  go_region_held3 (fun w' => w.heap.size + 1 < w'.heap.size ∧ Below w.heap.size w w' ∧ w'.cell? ⟨w.heap.size, 0, none⟩ = some (.int .i64 a) ∧ w'.cell? ⟨w.heap.size, 1, none⟩ = some (.int .i64 b) ∧ w'.cell? ⟨w.heap.size, 2, none⟩ = some (.int .i64 c) ∧ w'.cell? ⟨w.heap.size, 3, none⟩ = some (.int .i64 d) ∧
      w'.cell? ⟨w.heap.size + 1, 0, none⟩ = some (.int .i64 e) ∧ w'.cell? ⟨w.heap.size + 1, 1, none⟩ = some (.int .i64 f) ∧ w'.cell? ⟨w.heap.size + 1, 2, none⟩ = some (.int .i64 g) ∧ w'.cell? ⟨w.heap.size + 1, 3, none⟩ = some (.int .i64 h))
      (first | (with_reducible assumption) | exact box8 (Below.refl _ _).drew K0.all | exact box8 (by assumption) (by assumption))
      (first
      | (go_at_call 17; (with_reducible refine (toLf a b c d _).mono ?_); rintro e' u1 ⟨rfl, hb1⟩; have hS1 := box8 hb1 (by first | with_reducible assumption | exact box8 (Below.refl _ _).drew K0.all))
      | (go_at_call 17; (with_reducible refine (toLf e f g h _).mono ?_); rintro e' u2 ⟨rfl, hb2⟩; have hS2 := box8 hb2 (by first | with_reducible assumption | exact box8 (Below.refl _ _).drew K0.all))
      | (go_at_call 31; (with_reducible refine (HA.out _).mono ?_); rintro e' w2 ⟨Aw2, capw2, rfl, haw2, hb3⟩; have hS3 := box8 hb3 (by with_reducible assumption)))
  have K2 := Box8.of hS3
  have R := Lib.hid haw2.row
  rename_i hHeld1
  clear hHeld1 hS1 hS2 hS3 hb1 hb2 hb3 haw2 K0
  go_wp2_with fail
  go_region_held3 (fun w' => w.heap.size + 1 < w'.heap.size ∧ Below w.heap.size w w' ∧ w'.cell? ⟨w.heap.size, 0, none⟩ = some (.int .i64 a) ∧ w'.cell? ⟨w.heap.size, 1, none⟩ = some (.int .i64 b) ∧ w'.cell? ⟨w.heap.size, 2, none⟩ = some (.int .i64 c) ∧ w'.cell? ⟨w.heap.size, 3, none⟩ = some (.int .i64 d) ∧
      w'.cell? ⟨w.heap.size + 1, 0, none⟩ = some (.int .i64 e) ∧ w'.cell? ⟨w.heap.size + 1, 1, none⟩ = some (.int .i64 f) ∧ w'.cell? ⟨w.heap.size + 1, 2, none⟩ = some (.int .i64 g) ∧ w'.cell? ⟨w.heap.size + 1, 3, none⟩ = some (.int .i64 h))
      (first | (with_reducible assumption) | exact box8 (Below.refl _ _).drew K2.all | exact box8 (by assumption) (by assumption))
      (first
      | (go_at_call 17; (with_reducible refine (toLf a b c d _).mono ?_); rintro e' u1 ⟨rfl, hb1⟩; have hS1 := box8 hb1 (by first | with_reducible assumption | exact box8 (Below.refl _ _).drew K2.all))
      | (go_at_call 17; (with_reducible refine (toLf e f g h _).mono ?_); rintro e' u2 ⟨rfl, hb2⟩; have hS2 := box8 hb2 (by first | with_reducible assumption | exact box8 (Below.refl _ _).drew K2.all))
      | (go_at_call 32; (with_reducible refine (HB.out _).mono ?_); rintro e' w4 ⟨Aw4, capw4, rfl, haw4, hb3⟩; have hS3 := box8 hb3 (by with_reducible assumption)))
  have K4 := Box8.of hS3
  have z23 : w2.heap.size ≤ u2.heap.size := Nat.le_trans hb1.size hb2.size
  have B24 : Below w2.heap.size w2 w4 := by
    (repeat' (first | (with_reducible exact Below.refl _ _) | (with_reducible assumption) | (with_reducible refine belowNext ?_ (by with_reducible assumption)) | (with_reducible refine belowAlloc ?_ _) | (with_reducible refine Below.drew ?_) | (with_reducible refine below_drewN ?_ _) | (with_reducible refine Below.setCell ?_ ?_ _) | go_size | (with_reducible refine sizeOf' ?_) | (with_reducible refine sizeAdd ?_) | (dsimp only; first | (with_reducible refine sizeOf' ?_) | (with_reducible refine sizeAdd ?_))))
  have R4 := Lib.hid (R.out.below B24)
  have Rs4 := Lib.hid (R4.out.more B24.size)
  have Q4 := Lib.hid haw4
  rename_i hHeld2
  clear hHeld2 hS1 hS2 hS3 hb1 hb2 hb3 haw4
  go_wp2_with fail
  refine (eqLfS _ _ _ _ _ l _ Q4.out.row Rs4.out HL.out (by omega)).mono ?_
  rintro e' w5 ⟨rfl, hb5⟩
  have K5 := K4.on hb5
  have R5 := Lib.hid (R4.out.below (hb5.mono B24.size))
  have Q5 := Lib.hid (Q4.out.next hb5)
  have B25 : Below w2.heap.size w2 w5 := belowNext B24 hb5
  clear hb5
  go_wp2_with fail
  refine (markLf _ _ _ l _ _ _ Q5.out HL.out (by omega) (by omega) hlen).mono ?_
  rintro e' w6 ⟨rfl, H6⟩
  have b6 := H6.out.2.mono z23
  have s6 := H6.out.2.size
  have K6 := K5.next b6 K2.z s6
  have R6 := Lib.hid (R5.out.below b6)
  have Q6 := Lib.hid H6.out.1
  have B26 : Below w2.heap.size w2 w6 := B25.trans b6
  have nn : (1 + 4 * (len : Int) < 0) = False := by simp; omega
  clear b6 H6 K5 K4
  go_wp2_with fail
  refine (heldLf _ _ _ _ _ Q6.out.row (by omega) (by omega) hlen).mono ?_
  rintro e' w7 ⟨rfl, rfl⟩
  go_wp2_with fail
  go_region_held3 (fun w' => w.heap.size + 1 < w'.heap.size ∧ Below w.heap.size w w' ∧ w'.cell? ⟨w.heap.size, 0, none⟩ = some (.int .i64 a) ∧ w'.cell? ⟨w.heap.size, 1, none⟩ = some (.int .i64 b) ∧ w'.cell? ⟨w.heap.size, 2, none⟩ = some (.int .i64 c) ∧ w'.cell? ⟨w.heap.size, 3, none⟩ = some (.int .i64 d) ∧
      w'.cell? ⟨w.heap.size + 1, 0, none⟩ = some (.int .i64 e) ∧ w'.cell? ⟨w.heap.size + 1, 1, none⟩ = some (.int .i64 f) ∧ w'.cell? ⟨w.heap.size + 1, 2, none⟩ = some (.int .i64 g) ∧ w'.cell? ⟨w.heap.size + 1, 3, none⟩ = some (.int .i64 h))
      (first | (with_reducible assumption) | exact box8 (Below.refl _ _).drew K6.all | exact box8 (by assumption) (by assumption))
      (first
      | (go_at_call 17; (with_reducible refine (toLf a b c d _).mono ?_); rintro e' u1 ⟨rfl, hb1⟩; have hS1 := box8 hb1 (by first | with_reducible assumption | exact box8 (Below.refl _ _).drew K6.all))
      | (go_at_call 17; (with_reducible refine (toLf e f g h _).mono ?_); rintro e' u2 ⟨rfl, hb2⟩; have hS2 := box8 hb2 (by first | with_reducible assumption | exact box8 (Below.refl _ _).drew K6.all))
      | (go_at_call 32; (with_reducible refine (HB.out _).mono ?_); rintro e' w9 ⟨Aw9, capw9, rfl, haw9, hb3⟩; have hS3 := box8 hb3 (by with_reducible assumption)))
  have B69 : Below w6.heap.size w6 w9 := by
    (repeat' (first | (with_reducible exact Below.refl _ _) | (with_reducible assumption) | (with_reducible refine belowNext ?_ (by with_reducible assumption)) | (with_reducible refine belowAlloc ?_ _) | (with_reducible refine Below.drew ?_) | (with_reducible refine below_drewN ?_ _) | (with_reducible refine Below.setCell ?_ ?_ _) | go_size | (with_reducible refine sizeOf' ?_) | (with_reducible refine sizeAdd ?_) | (dsimp only; first | (with_reducible refine sizeOf' ?_) | (with_reducible refine sizeAdd ?_))))
  have R9 := Lib.hid ((R6.out.below (B69.mono B26.size)).more (B26.trans (B69.mono B26.size)).size)
  have Q9 := Lib.hid haw9
  have Q69 := Lib.hid (Q6.out.next B69)
  have B29 : Below w2.heap.size w2 w9 := B26.trans (B69.mono B26.size)
  rename_i hHeld3
  clear hHeld3 hS1 hS2 hS3 hb1 hb2 hb3 haw9
  go_wp2_with fail
  refine (eqLfS _ _ _ _ _ l _ Q9.out.row R9.out HL.out (by omega)).mono ?_
  rintro e' w10 ⟨rfl, hb10⟩
  have Q10 := Lib.hid (Q69.out.next hb10)
  have B210 : Below w2.heap.size w2 w10 := belowNext B29 hb10
  have B10 : Below w.heap.size w w10 := K2.B.trans (B210.mono K2.B.size)
  clear hb10
  go_wp2_with fail
  refine (heldLf _ _ _ _ _ Q10.out.row (by omega) (by omega) hlen).mono ?_
  rintro e' w11 ⟨rfl, rfl⟩
  go_wp2
  go_ret
  exact ⟨rfl, B10⟩
end Go.Proofs.Ytlmgpecfbpcgaaa

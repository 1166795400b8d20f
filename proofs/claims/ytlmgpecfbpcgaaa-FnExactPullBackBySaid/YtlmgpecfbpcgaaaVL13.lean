/-
  The walk of the law of ImagesOfLeaf: one leaf, the answer a list of leaves.
-/
import Derived.Test.YtlmgpecfbpcgaaaV19
namespace Go.Proofs.Ytlmgpecfbpcgaaa
open Go.RowKit

theorem implImgs (a b c d : Int) (w : World) : Calls Try.prog 103 #[leafV a b c d] w (ResLf w (imgsL (a, b, c, d)) (imgsC (a, b, c, d))) := by
  have H1 := Lib.hid (fun w => implLf a b c d w)
  cases h : isLf a b c d
  · obtain ⟨E1, E2⟩ := imgs_no (x := (a, b, c, d)) h
    rw [E1, E2]
    rw [h] at H1
    clear h E1 E2
    go_enter Try.func103, Try.ntmps103
    go_wp2_with fail
    refine (H1.out _).mono ?_
    rintro e w1 ⟨rfl, hb1⟩
    obtain ⟨hc1, hf1⟩ := bcell hb1
    have hz1_0 : w.heap.size < w1.heap.size := by have := hb1.size; first | omega | (simp at this; omega)
    go_wp2
    go_ret2
    refine ⟨none, 0, rfl, lfOwn_nil, ?_⟩
    (repeat' (first | (with_reducible exact Below.refl _ _) | (with_reducible assumption) | (with_reducible refine belowNext ?_ (by with_reducible assumption)) | (with_reducible refine belowAlloc ?_ _) | (with_reducible refine Below.drew ?_) | (with_reducible refine below_drewN ?_ _) | (with_reducible refine Below.setCell ?_ ?_ _) | go_size | (with_reducible refine sizeOf' ?_) | (with_reducible refine sizeAdd ?_) | (dsimp only; first | (with_reducible refine sizeOf' ?_) | (with_reducible refine sizeAdd ?_))))
  · refine (implImgs1 a b c d w h).mono fun e w' q => ?_
    unfold ResIi at q
    cases hf : imF 64 (a, b, c, d) [] with
    | none =>
      rw [hf] at q
      obtain ⟨E1, E2⟩ := imgs_none (x := (a, b, c, d)) h hf
      rw [E1, E2]
      exact ⟨none, 0, q.1, lfOwn_nil, q.2⟩
    | some r =>
      rw [hf] at q
      obtain ⟨E1, E2⟩ := imgs_some (x := (a, b, c, d)) h hf
      rw [E1, E2]
      obtain ⟨A, cap, he, ho, _, hb⟩ := q
      exact ⟨A, cap, he, ho, hb⟩

/-- A boxed leaf, kept. -/
structure Box4 (w W : World) (a b c d : Int) : Prop where
  z : w.heap.size < W.heap.size
  c0 : W.cell? ⟨w.heap.size, 0, none⟩ = some (.int .i64 a)
  c1 : W.cell? ⟨w.heap.size, 1, none⟩ = some (.int .i64 b)
  c2 : W.cell? ⟨w.heap.size, 2, none⟩ = some (.int .i64 c)
  c3 : W.cell? ⟨w.heap.size, 3, none⟩ = some (.int .i64 d)
theorem Box4.next {w W w1 : World} {a b c d : Int} {B : Nat} (H : Box4 w W a b c d) (hb : Below B W w1) (hB : w.heap.size < B) (hs : W.heap.size ≤ w1.heap.size) : Box4 w w1 a b c d :=
  ⟨Nat.lt_of_lt_of_le H.z hs, (hb.cell (p := ⟨_, _, none⟩) hB).trans H.c0, (hb.cell (p := ⟨_, _, none⟩) hB).trans H.c1, (hb.cell (p := ⟨_, _, none⟩) hB).trans H.c2, (hb.cell (p := ⟨_, _, none⟩) hB).trans H.c3⟩
theorem Box4.on {w W w1 : World} {a b c d : Int} (H : Box4 w W a b c d) (hb : Below W.heap.size W w1) : Box4 w w1 a b c d := H.next hb H.z hb.size

end Go.Proofs.Ytlmgpecfbpcgaaa

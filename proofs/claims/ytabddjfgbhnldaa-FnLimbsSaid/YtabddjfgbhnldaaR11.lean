/-
  Contracts: the pair of an angle, as the program finds it.
-/
import Derived.Test.YtabddjfgbhnldaaR10
import Derived.Test.YtabddjfgbhnldaaR9
import Derived.Test.YtabddjfgbhnldaaV9
namespace Go.Proofs.Ytabddjfgbhnldaa
open Go.RowKit

set_option maxRecDepth 100000 in
set_option maxHeartbeats 1000000 in
theorem implUpTo (n : Nat) (w : World) (h1 : 1 ≤ n) (h8 : n ≤ 8) :
    Calls Try.prog 41 #[.int .i64 n] w fun e w' => e = .returned (.map (some w.heap.size)) ∧ w'.ownsMap Try.prog 28 (plainElem Try.prog 2) w.heap.size (upK (n - 1)).length (pD (upK (n - 1))) ∧ Below w.heap.size w w' := by
  have hmm := @run_makeMap Try.prog
  go_enter Try.func41, Try.ntmps41
  go_wp2_with fail
  have HS : Hid ((w.alloc (.map #[] 0)).ownsMap Try.prog 28 (plainElem Try.prog 2) w.heap.size (upK 0).length (pD (upK 0))) := Lib.hid (World.ownsMap_made _ _ _ _)
  have HB : Hid (Below w.heap.size w (w.alloc (.map #[] 0))) := Lib.hid (belowAlloc (Below.refl _ _) _)
  have z0 : w.heap.size < (w.alloc (.map #[] 0)).heap.size := by simp
  clear hmm
  go_loopg [4] (n - 1) (fun g s4 wr => ∃ m : Nat, m + g = n - 1 ∧ s4 = .int .i64 ((m + 2 : Nat) : Int) ∧ Hid (wr.ownsMap Try.prog 28 (plainElem Try.prog 2) w.heap.size (upK m).length (pD (upK m))) ∧ Hid (Below w.heap.size w wr))
  case atStart => exact ⟨0, by omega, rfl, HS, HB⟩
  case round =>
    clear HS HB z0
    obtain ⟨m, hmg, rfl, HM, HB⟩ := hrel
    cases gk with
    | zero =>
      obtain rfl : m = n - 1 := by omega
      have n1 : ¬ (((n - 1 + 2 : Nat) : Int) ≤ (n : Int)) := by omega
      have n2 : (n : Int) < ((n - 1 + 2 : Nat) : Int) := by omega
      generalize ((n - 1 + 2 : Nat) : Int) = I at *
      go_wp2
      go_ret
      exact ⟨rfl, HM.out, HB.out⟩
    | succ g =>
      have HC := Lib.hid (implJoin (m + 2) w.heap.size (upK m) wr (by omega) (by omega) (upK_ok m (by omega)) (by have := upK_len m (by omega); omega) HM.out)
      have n1 : ((m + 2 : Nat) : Int) ≤ (n : Int) := by omega
      have e3 : ((m + 2 : Nat) : Int) + 1 = ((m + 1 + 2 : Nat) : Int) := by omega
      have b1 : ((m + 2 : Nat) : Int) ≤ 8 := by omega
      have b2 : 0 ≤ ((m + 2 : Nat) : Int) := by omega
      generalize ((m + 2 : Nat) : Int) = I at *
      go_wp2_with fail
      refine HC.out.mono ?_
      rintro e w1 ⟨rfl, hm1, hg1⟩
      have HM1 := Lib.hid hm1
      have HB1 := Lib.hid (HB.out.grown hg1 HB.out.size (fun j hj => by cases hj; exact Nat.le_refl _))
      clear hm1 hg1
      go_wp2
      go_roundg g
      case measure => omega
      case rel => exact ⟨m + 1, by omega, by first | rfl | exact congrArg (Value.int .i64) (by omega), HM1, HB1⟩

set_option maxHeartbeats 1000000 in
theorem implIsPP (n : Int) (w : World) :
    Calls Try.prog 55 #[.int .i64 n] w fun e w' => e = .returned (.bool (decide (2 ≤ n) && decide (n ≤ 8))) ∧ w = w' := by
  by_cases h1 : 2 ≤ n <;> by_cases h2 : n ≤ 8
  all_goals
    go_enter Try.func55, Try.ntmps55
    go_wp2
    go_ret
    exact ⟨by simp [h1, h2], rfl⟩

/-- The code and the period of an angle whose pair is asked. -/
def ppN (n d : Int) : Int := if isAng n d then (if 2 ≤ shortP d then (shortP d : Int) else 0) else 0
set_option maxHeartbeats 1000000 in
theorem implPer (n d : Int) (w : World) :
    Calls Try.prog 44 #[ang n d] w fun e w' => e = .returned (.tuple #[.int .i64 (ppN n d), .int .i64 (poC n d)]) ∧ Below w.heap.size w w' := by
  have HI := Lib.hid (fun w => implIs n d w)
  rcases po_cases n d with ⟨h1, h2, _⟩ | ⟨h1, h2, h3, _⟩ | ⟨h1, h2, h3, _⟩
  · have e1 : ppN n d = 0 := by unfold ppN; simp [h1]
    rw [h2, e1]
    rw [h1] at HI
    clear h1 h2 e1
    go_enter Try.func44, Try.ntmps44
    go_wp2_with fail
    refine (HI.out _).mono ?_
    rintro e w1 ⟨rfl, hb1⟩
    obtain ⟨hc1, hf1⟩ := bcell hb1
    have hz1_0 : w.heap.size < w1.heap.size := by have := hb1.size; first | omega | (simp at this; omega)
    go_wp2
    go_ret2
    refine ⟨rfl, ?_⟩
    (repeat' (first | (with_reducible exact Below.refl _ _) | (with_reducible assumption) | (with_reducible refine belowNext ?_ (by with_reducible assumption)) | (with_reducible refine belowAlloc ?_ _) | (with_reducible refine Below.drew ?_) | (with_reducible refine below_drewN ?_ _) | (with_reducible refine Below.setCell ?_ ?_ _) | go_size | (with_reducible refine sizeOf' ?_) | (with_reducible refine sizeAdd ?_) | (dsimp only; first | (with_reducible refine sizeOf' ?_) | (with_reducible refine sizeAdd ?_))))
  · have e1 : ppN n d = 0 := by unfold ppN; simp [h1]; omega
    rw [h3, e1]
    have HS := Lib.hid (fun w => implShortR n d w (isAng_yes h1).1 (isAng_yes h1).2.1)
    rw [h1] at HI
    generalize shortP d = sp at *
    have t : (decide ((2 : Int) ≤ (sp : Int)) && decide ((sp : Int) ≤ 8)) = false := by simp; omega
    clear h1 h2 h3 e1
    go_enter Try.func44, Try.ntmps44
    go_wp2_with fail
    refine (HI.out _).mono ?_
    rintro e w1 ⟨rfl, hb1⟩
    obtain ⟨hc1, hf1⟩ := bcell hb1
    have hz1_0 : w.heap.size < w1.heap.size := by have := hb1.size; first | omega | (simp at this; omega)
    go_wp2_with fail
    refine (HS.out _).mono ?_
    rintro e w2 ⟨rfl, hb2⟩
    obtain ⟨hc2, hf2⟩ := bcell hb2
    have hz2_0 : w.heap.size < w2.heap.size := by have := hb2.size; first | omega | (simp at this; omega)
    go_wp2_with fail
    refine (implIsPP _ _).mono ?_
    rintro e w3 ⟨rfl, rfl⟩
    rw [t]
    go_wp2
    go_ret2
    refine ⟨rfl, ?_⟩
    (repeat' (first | (with_reducible exact Below.refl _ _) | (with_reducible assumption) | (with_reducible refine belowNext ?_ (by with_reducible assumption)) | (with_reducible refine belowAlloc ?_ _) | (with_reducible refine Below.drew ?_) | (with_reducible refine below_drewN ?_ _) | (with_reducible refine Below.setCell ?_ ?_ _) | go_size | (with_reducible refine sizeOf' ?_) | (with_reducible refine sizeAdd ?_) | (dsimp only; first | (with_reducible refine sizeOf' ?_) | (with_reducible refine sizeAdd ?_))))
  · have e1 : ppN n d = (shortP d : Int) := by unfold ppN; simp [h1, h2]
    rw [h3, e1]
    have HS := Lib.hid (fun w => implShortR n d w (isAng_yes h1).1 (isAng_yes h1).2.1)
    have hle := shortP_le d
    rw [h1] at HI
    generalize shortP d = sp at *
    have t : (decide ((2 : Int) ≤ (sp : Int)) && decide ((sp : Int) ≤ 8)) = true := by simp; omega
    clear h1 h2 h3 e1
    go_enter Try.func44, Try.ntmps44
    go_wp2_with fail
    refine (HI.out _).mono ?_
    rintro e w1 ⟨rfl, hb1⟩
    obtain ⟨hc1, hf1⟩ := bcell hb1
    have hz1_0 : w.heap.size < w1.heap.size := by have := hb1.size; first | omega | (simp at this; omega)
    go_wp2_with fail
    refine (HS.out _).mono ?_
    rintro e w2 ⟨rfl, hb2⟩
    obtain ⟨hc2, hf2⟩ := bcell hb2
    have hz2_0 : w.heap.size < w2.heap.size := by have := hb2.size; first | omega | (simp at this; omega)
    go_wp2_with fail
    refine (implIsPP _ _).mono ?_
    rintro e w3 ⟨rfl, rfl⟩
    rw [t]
    go_wp2
    go_ret2
    refine ⟨rfl, ?_⟩
    (repeat' (first | (with_reducible exact Below.refl _ _) | (with_reducible assumption) | (with_reducible refine belowNext ?_ (by with_reducible assumption)) | (with_reducible refine belowAlloc ?_ _) | (with_reducible refine Below.drew ?_) | (with_reducible refine below_drewN ?_ _) | (with_reducible refine Below.setCell ?_ ?_ _) | go_size | (with_reducible refine sizeOf' ?_) | (with_reducible refine sizeAdd ?_) | (dsimp only; first | (with_reducible refine sizeOf' ?_) | (with_reducible refine sizeAdd ?_))))

theorem Cells4.turn {W W1 : World} {b o : Nat} {n d m c : Int} {row : Option Nat} (h : Cells4 W b o n d m c) (hg : W.grownBy W1 row) (hlt : b < W.heap.size) (hne : some b ≠ row) : Cells4 W1 b o n d m c :=
  ⟨cellG hg hlt hne h.c0, cellG hg hlt hne h.c1, cellG hg hlt hne h.c2, cellG hg hlt hne h.c3⟩
theorem Free4.turn {W W1 : World} {b o : Nat} {row : Option Nat} (h : Free4 W b o) (hg : W.grownBy W1 row) (hlt : b < W.heap.size) (hne : some b ≠ row) : Free4 W1 b o := by
  have e := hg.block b hlt hne
  exact ⟨(World.frozen?_of_block e).trans h.f0, (World.frozen?_of_block e).trans h.f1, (World.frozen?_of_block e).trans h.f2, (World.frozen?_of_block e).trans h.f3⟩

/-- What holds while the pair is looked for: the angle's box, the result's cell, what has been found. -/
structure PoI (w : World) (B6 : Nat) (n d : Int) (v : Lf4) (W : World) : Prop where
  B : Below w.heap.size w W
  z : B6 < W.heap.size
  zz : w.heap.size + 1 < B6
  x0 : W.cell? ⟨w.heap.size, 0, none⟩ = some (.int .i64 n)
  x1 : W.cell? ⟨w.heap.size, 1, none⟩ = some (.int .i64 d)
  r : Cells4 W (w.heap.size + 1) 0 0 0 0 0
  rf : Free4 W (w.heap.size + 1) 0
  o : Cells4 W B6 0 v.1 v.2.1 v.2.2.1 v.2.2.2
  fo : Free4 W B6 0
theorem PoI.turn {w W W1 : World} {B6 : Nat} {n d : Int} {v : Lf4} {row : Option Nat} (h : PoI w B6 n d v W) (hg : W.grownBy W1 row) (hr : ∀ r, row = some r → B6 < r) : PoI w B6 n d v W1 := by
  obtain ⟨hB, z, zz, x0, x1, r, rf, o, fo⟩ := h
  have ne : ∀ b, b ≤ B6 → some b ≠ row := fun b hb e => by have := hr b e.symm; omega
  exact ⟨hB.grown hg hB.size (fun j hj => by have := hr j hj; omega), Nat.lt_of_lt_of_le z hg.size, zz, cellG hg (by omega) (ne _ (by omega)) x0, cellG hg (by omega) (ne _ (by omega)) x1,
    r.turn hg (by omega) (ne _ (by omega)), rf.turn hg (by omega) (ne _ (by omega)), o.turn hg z (ne _ (by omega)), fo.turn hg z (ne _ (by omega))⟩
theorem PoI.next {w W W1 : World} {B6 : Nat} {n d : Int} {v : Lf4} (h : PoI w B6 n d v W) (hb : Below W.heap.size W W1) : PoI w B6 n d v W1 := h.turn (belowG hb) (fun r e => by cases e)
theorem PoI.put {w W : World} {B6 : Nat} {n d : Int} {v : Lf4} (h : PoI w B6 n d v W) (u : Lf4) : PoI w B6 n d u (set4 W B6 0 (.int .i64 u.1) (.int .i64 u.2.1) (.int .i64 u.2.2.1) (.int .i64 u.2.2.2)) := by
  obtain ⟨hB, z, zz, x0, x1, r, rf, o, fo⟩ := h
  have oth : ∀ (b i : Nat) (t : Value), b ≠ B6 → W.cell? ⟨b, i, none⟩ = some t → (set4 W B6 0 (.int .i64 u.1) (.int .i64 u.2.1) (.int .i64 u.2.2.1) (.int .i64 u.2.2.2)).cell? ⟨b, i, none⟩ = some t := by
    intro b i t hb ht
    unfold set4
    rw [World.cell?_setCell_other _ _ _ _ (fun e => hb (by injection e with h; exact h.symm)), World.cell?_setCell_other _ _ _ _ (fun e => hb (by injection e with h; exact h.symm)), World.cell?_setCell_other _ _ _ _ (fun e => hb (by injection e with h; exact h.symm)), World.cell?_setCell_other _ _ _ _ (fun e => hb (by injection e with h; exact h.symm))]
    exact ht
  obtain ⟨t0, t1, t2, t3⟩ := set4_got (x0 := .int .i64 u.1) (x1 := .int .i64 u.2.1) (x2 := .int .i64 u.2.2.1) (x3 := .int .i64 u.2.2.2) o.c0 o.c1 o.c2 o.c3
  refine ⟨(((hB.setCell (by dsimp only; omega) _).setCell (by dsimp only; omega) _).setCell (by dsimp only; omega) _).setCell (by dsimp only; omega) _, by simpa [set4] using z, zz, oth _ _ _ (by omega) x0, oth _ _ _ (by omega) x1,
    ⟨oth _ _ _ (by omega) r.c0, oth _ _ _ (by omega) r.c1, oth _ _ _ (by omega) r.c2, oth _ _ _ (by omega) r.c3⟩, ?_, ⟨t0, t1, t2, t3⟩, ?_⟩
  · exact ⟨by simpa [set4] using rf.f0, by simpa [set4] using rf.f1, by simpa [set4] using rf.f2, by simpa [set4] using rf.f3⟩
  · exact ⟨by simpa [set4] using fo.f0, by simpa [set4] using fo.f1, by simpa [set4] using fo.f2, by simpa [set4] using fo.f3⟩

theorem set4G (W : World) (b o : Nat) (x0 x1 x2 x3 : Value) : W.grownBy (set4 W b o x0 x1 x2 x3) (some b) := by
  refine ⟨rfl, rfl, rfl, by simp [set4, World.setCell], fun i _ hne => ?_⟩
  have h : i ≠ b := fun e => hne (by rw [e])
  unfold set4
  rw [Below.heap_setCell _ _ _ _ h, Below.heap_setCell _ _ _ _ h, Below.heap_setCell _ _ _ _ h, Below.heap_setCell _ _ _ _ h]
abbrev res5 (v : Lf4) (c : Int) : Value := .tuple #[leafV v.1 v.2.1 v.2.2.1 v.2.2.2, .int .i64 c]
set_option maxRecDepth 100000 in
set_option maxHeartbeats 1000000 in
theorem implPairOf (n d : Int) (w : World) :
    Calls Try.prog 28 #[ang n d] w fun e w' => e = .returned (res5 (poP n d) (poC n d)) ∧ Below w.heap.size w w' := by
  have HP := Lib.hid (fun w => implPer n d w)
  by_cases hc : poC n d = 0
  · have hcase : isAng n d = true ∧ 2 ≤ shortP d ∧ poP n d = findP (n, d) (upK (shortP d - 1)) := by
      rcases po_cases n d with ⟨h1, h2, h3⟩ | ⟨h1, h2, h3, h4⟩ | ⟨h1, h2, h3, h4⟩
      · omega
      · omega
      · exact ⟨h1, h2, h4⟩
    obtain ⟨h1, h2, h3⟩ := hcase
    have e1 : ppN n d = (shortP d : Int) := by unfold ppN; simp [h1, h2]
    have hle := shortP_le d
    rw [hc] at HP ⊢
    rw [e1] at HP
    have HX := Lib.hid h3
    generalize poP n d = V at *
    generalize shortP d = sp at *
    have HU := Lib.hid (fun w => implUpTo sp w (by omega) hle)
    have HOk := Lib.hid (upK_ok (sp - 1) (by omega))
    have HOne := Lib.hid (upK_one (sp - 1) (by omega) (n, d))
    have HF := Lib.hid (findP_spec (n, d) (upK (sp - 1)))
    generalize upK (sp - 1) = l at *
    clear hc h1 h2 h3 e1
    go_enter Try.func28, Try.ntmps28
    go_wp2_with fail
    refine (HP.out _).mono ?_
    rintro e w1 ⟨rfl, hb1⟩
    obtain ⟨hc1, hf1⟩ := bcell hb1
    have hz1_0 : w.heap.size < w1.heap.size := by have := hb1.size; first | omega | (simp at this; omega)
    have hz1_1 : w.heap.size + 1 < w1.heap.size := by have := hb1.size; first | omega | (simp at this; omega)
    have q1_1_0 : w1.cell? ⟨w.heap.size + 1, 0, none⟩ = some (.int .i64 0) := cellThru hb1 (by simp <;> omega) (by simp [go_sem])
    have q1_1_1 : w1.cell? ⟨w.heap.size + 1, 1, none⟩ = some (.int .i64 0) := cellThru hb1 (by simp <;> omega) (by simp [go_sem])
    have q1_1_2 : w1.cell? ⟨w.heap.size + 1, 2, none⟩ = some (.int .i64 0) := cellThru hb1 (by simp <;> omega) (by simp [go_sem])
    have q1_1_3 : w1.cell? ⟨w.heap.size + 1, 3, none⟩ = some (.int .i64 0) := cellThru hb1 (by simp <;> omega) (by simp [go_sem])
    have j1_1_0 : w1.frozen? ⟨w.heap.size + 1, 0, none⟩ = false := frozThru hb1 (by simp <;> omega) (by simp [go_sem])
    have j1_1_1 : w1.frozen? ⟨w.heap.size + 1, 1, none⟩ = false := frozThru hb1 (by simp <;> omega) (by simp [go_sem])
    have j1_1_2 : w1.frozen? ⟨w.heap.size + 1, 2, none⟩ = false := frozThru hb1 (by simp <;> omega) (by simp [go_sem])
    have j1_1_3 : w1.frozen? ⟨w.heap.size + 1, 3, none⟩ = false := frozThru hb1 (by simp <;> omega) (by simp [go_sem])
    have x0 : w1.cell? ⟨w.heap.size, 0, none⟩ = some (.int .i64 n) := cellThru hb1 (by simp <;> omega) (by simp [go_sem])
    have x1 : w1.cell? ⟨w.heap.size, 1, none⟩ = some (.int .i64 d) := cellThru hb1 (by simp <;> omega) (by simp [go_sem])
    have B1 : Below w.heap.size w w1 := by
      (repeat' (first | (with_reducible exact Below.refl _ _) | (with_reducible assumption) | (with_reducible refine belowNext ?_ (by with_reducible assumption)) | (with_reducible refine belowAlloc ?_ _) | (with_reducible refine Below.drew ?_) | (with_reducible refine below_drewN ?_ _) | (with_reducible refine Below.setCell ?_ ?_ _) | go_size | (with_reducible refine sizeOf' ?_) | (with_reducible refine sizeAdd ?_) | (dsimp only; first | (with_reducible refine sizeOf' ?_) | (with_reducible refine sizeAdd ?_))))
    have start : PoI w w1.heap.size n d (0, 0, 0, 0) (w1.alloc (.cells #[.int .i64 0, .int .i64 0, .int .i64 0, .int .i64 0] 28)) := by
      have up := belowAlloc (Below.refl _ w1) (.cells #[.int .i64 0, .int .i64 0, .int .i64 0, .int .i64 0] 28)
      refine ⟨belowAlloc B1 _, by simp, hz1_1, cellThru up hz1_0 x0, cellThru up hz1_0 x1, ?_, ?_, ?_, ?_⟩
      · exact ⟨cellThru up hz1_1 q1_1_0, cellThru up hz1_1 q1_1_1, cellThru up hz1_1 q1_1_2, cellThru up hz1_1 q1_1_3⟩
      · exact ⟨frozThru up hz1_1 j1_1_0, frozThru up hz1_1 j1_1_1, frozThru up hz1_1 j1_1_2, frozThru up hz1_1 j1_1_3⟩
      · exact ⟨by simp [go_sem], by simp [go_sem], by simp [go_sem], by simp [go_sem]⟩
      · exact ⟨by simp [go_sem], by simp [go_sem], by simp [go_sem], by simp [go_sem]⟩
    have HS := Lib.hid start
    clear start x0 x1 B1 q1_1_0 q1_1_1 q1_1_2 q1_1_3 j1_1_0 j1_1_1 j1_1_2 j1_1_3 hc1 hf1 hb1 hz1_0 hz1_1
    go_wp2_with fail
    obtain ⟨B6, hB6⟩ : ∃ B6, w1.heap.size = B6 := ⟨_, rfl⟩
    rw [hB6] at HS
    refine (HU.out _).mono ?_
    rintro e w2 ⟨rfl, hm2, hb2⟩
    have HS2 := Lib.hid (HS.out.next hb2)
    have HM2 := Lib.hid hm2
    clear hm2 hb2 HS
    have eB : (w1.alloc (.cells #[.int .i64 0, .int .i64 0, .int .i64 0, .int .i64 0] 28)).heap.size = B6 + 1 := by simp [hB6]
    rw [eB] at HM2 ⊢
    have hr6 : B6 < w2.heap.size := HS2.out.z
    clear eB
    go_wp2_with (at_range; refine wpList_range_own _ rfl _ 63 rfl 28 2 rpLaw Try.underlying63 _ (B6 + 1) l.length _ rfl HM2.out ?_; intro w0 hrg0 hg0 hs0)
    go_frame
    have HRG := Lib.hid hrg0
    have HS0 := Lib.hid (HS2.out.turn hg0 (fun r e => by cases e))
    clear hrg0 hg0 hs0 HS2 HM2 hB6
    generalize w2.heap.size = r at *
    go_loopg [20] (Maps.size (pD l)) (fun g s20 wr => ∃ (left : Lit → Bool) (v : Lf4), Hid (wr.ranges Try.prog 28 (plainElem Try.prog 2) (B6 + 1) r l.length (pD l) left g) ∧ Hid (∀ y ∈ l, left (kp y.1) = false → inP (n, d) y.1 = true → v = y.1) ∧ Hid (v = (0, 0, 0, 0) ∨ ∃ y ∈ l, inP (n, d) y.1 = true ∧ v = y.1) ∧ Hid (PoI w B6 n d v wr))
    case atStart => exact ⟨_, (0, 0, 0, 0), HRG, Lib.hid (fun y hy hf => by rw [pD_has.2 ⟨y, hy, rfl⟩] at hf; cases hf), Lib.hid (.inl rfl), HS0⟩
    case round =>
      clear HRG HS0
      obtain ⟨left, v, HRG, HNo, HOr, HS⟩ := hrel
      have hrg := HRG.out
      obtain ⟨hB, z, zz, x0, x1, r, rf, o, fo⟩ := HS.out
      have y0 : w.heap.size < wr.heap.size := by omega
      have y1 : w.heap.size + 1 < wr.heap.size := by omega
      obtain ⟨r0, r1, r2, r3⟩ := r
      obtain ⟨f0, f1, f2, f3⟩ := rf
      obtain ⟨o0, o1, o2, o3⟩ := o
      go_wp2_with (at_next; refine wpList_next_pairs _ rfl _ rfl (B6 + 1) _ l.length l HOk.out left _ rfl hrg ?_ ?_; intro hl0; rotate_left; intro x c5 w5 cnt5 hx hlx hat hrg5 hlt5 hg5 hs5 hen; have HS5 := Lib.hid (HS.out.turn hg5 (fun r e => by have := Option.some.inj e; omega)); have z5 : B6 < w5.heap.size := HS5.out.z; have d0 := HS5.out.x0; have d1 := HS5.out.x1; have d2 := HS5.out.o.c0; have d3 := HS5.out.o.c1; have d4 := HS5.out.o.c2; have d5 := HS5.out.o.c3; have e0 := HS5.out.fo.f0; have e1 := HS5.out.fo.f1; have e2 := HS5.out.fo.f2; have e3 := HS5.out.fo.f3; have y5 : w.heap.size < w5.heap.size := Nat.lt_trans (Nat.lt_trans (Nat.lt_succ_self _) HS5.out.zz) HS5.out.z; have HX5 := Lib.hid (And.intro hx (And.intro hlx (And.intro hrg5 hlt5))); clear hx hlx hat hrg5 hg5 hlt5; obtain ⟨t1, ht1⟩ : ∃ t, eqA x.1.1 x.1.2.1 n d = t := ⟨_, rfl⟩; obtain ⟨t2, ht2⟩ : ∃ t, eqA x.1.2.2.1 x.1.2.2.2 n d = t := ⟨_, rfl⟩; have Q1 := fun W => eqlAng x.1.1 x.1.2.1 n d W; have Q2 := fun W => eqlAng x.1.2.2.1 x.1.2.2.2 n d W; rw [ht1] at Q1; rw [ht2] at Q2; have HIn : Hid (inP (n, d) x.1 = (t1 || t2)) := Lib.hid (by unfold inP; rw [ht1, ht2]); clear ht1 ht2; cases t1 <;> cases t2)
      · go_roundg cnt5
        case measure => exact HX5.out.2.2.2
        case rel =>
          refine ⟨fun z => left z && !z.sameKey (kp x.1), v, Lib.hid (HX5.out.2.2.1.alloc _), Lib.hid (fun y hy hf hin => ?_), HOr, Lib.hid (HS5.out.next (belowAlloc (Below.refl _ _) _))⟩
          cases hly : left (kp y.1)
          · exact HNo.out y hy hly hin
          · have hf' : (left (kp y.1) && !(kp y.1).sameKey (kp x.1)) = false := hf
            rw [hly] at hf'
            have e2 : kp y.1 = kp x.1 := (WideAt.sameKey_iff (kp_key _)).1 (by simpa using hf')
            have e3 := kp_inj (ok_wf (HOk.out y hy)) (ok_wf (HOk.out x HX5.out.1)) e2
            rw [e3, HIn.out] at hin
            cases hin
      · go_roundg cnt5
        case measure => exact HX5.out.2.2.2
        case rel =>
          refine ⟨fun z => left z && !z.sameKey (kp x.1), x.1, Lib.hid ((HX5.out.2.2.1.kept (set4G w5 B6 0 (.int .i64 x.1.1) (.int .i64 x.1.2.1) (.int .i64 x.1.2.2.1) (.int .i64 x.1.2.2.2)) (fun e => by have := Option.some.inj e; omega) (fun e => by have := Option.some.inj e; omega)).alloc _), Lib.hid (fun y hy hf hin => HOne.out x y HX5.out.1 hy (by rw [HIn.out]; rfl) hin), Lib.hid (.inr ⟨x, HX5.out.1, by rw [HIn.out]; rfl, rfl⟩), Lib.hid ((HS5.out.put x.1).next (belowAlloc (Below.refl _ _) _))⟩
      · go_roundg cnt5
        case measure => exact HX5.out.2.2.2
        case rel =>
          refine ⟨fun z => left z && !z.sameKey (kp x.1), x.1, Lib.hid ((HX5.out.2.2.1.kept (set4G w5 B6 0 (.int .i64 x.1.1) (.int .i64 x.1.2.1) (.int .i64 x.1.2.2.1) (.int .i64 x.1.2.2.2)) (fun e => by have := Option.some.inj e; omega) (fun e => by have := Option.some.inj e; omega)).alloc _), Lib.hid (fun y hy hf hin => HOne.out x y HX5.out.1 hy (by rw [HIn.out]; rfl) hin), Lib.hid (.inr ⟨x, HX5.out.1, by rw [HIn.out]; rfl, rfl⟩), Lib.hid ((HS5.out.put x.1).next (belowAlloc (Below.refl _ _) _))⟩
      · go_roundg cnt5
        case measure => exact HX5.out.2.2.2
        case rel =>
          refine ⟨fun z => left z && !z.sameKey (kp x.1), x.1, Lib.hid ((HX5.out.2.2.1.kept (set4G w5 B6 0 (.int .i64 x.1.1) (.int .i64 x.1.2.1) (.int .i64 x.1.2.2.1) (.int .i64 x.1.2.2.2)) (fun e => by have := Option.some.inj e; omega) (fun e => by have := Option.some.inj e; omega)).alloc _), Lib.hid (fun y hy hf hin => HOne.out x y HX5.out.1 hy (by rw [HIn.out]; rfl) hin), Lib.hid (.inr ⟨x, HX5.out.1, by rw [HIn.out]; rfl, rfl⟩), Lib.hid ((HS5.out.put x.1).next (belowAlloc (Below.refl _ _) _))⟩
      · have hv : v = V := by
          rw [HX.out]
          rcases HF.out with ⟨h1, h2⟩ | ⟨q, hq, h1, h2⟩
          · rw [h1]
            rcases HOr.out with h | ⟨y, hy, hin, _⟩
            · exact h
            · rw [h2 y hy] at hin; cases hin
          · rw [h2]; exact HNo.out q hq (hl0 _) h1
        have r1' : wr.cell? ⟨w.heap.size + 1, 1, none⟩ = some (.int .i64 0) := r1
        have r2' : wr.cell? ⟨w.heap.size + 1, 2, none⟩ = some (.int .i64 0) := r2
        have r3' : wr.cell? ⟨w.heap.size + 1, 3, none⟩ = some (.int .i64 0) := r3
        refine bodyPost_ret (v := res5 v 0) (by simp [results, Try.results28, go_sem, r0, r1', r2', r3']) rfl ⟨by rw [hv], ?_⟩
        have hle1 : w.heap.size ≤ w.heap.size + 1 := Nat.le_succ _
        exact (((hB.setCell hle1 _).setCell hle1 _).setCell hle1 _).setCell hle1 _
  · have hcase : poP n d = (0, 0, 0, 0) := by
      rcases po_cases n d with ⟨h1, h2, h3⟩ | ⟨h1, h2, h3, h4⟩ | ⟨h1, h2, h3, h4⟩
      · exact h3
      · exact h4
      · exact absurd h3 hc
    rw [hcase]
    have hcb : (poC n d == 0) = false := beq_eq_false_iff_ne.2 hc
    generalize poC n d = c at *
    generalize ppN n d = N at *
    clear hcase
    go_enter Try.func28, Try.ntmps28
    go_wp2_with fail
    refine (HP.out _).mono ?_
    rintro e w1 ⟨rfl, hb1⟩
    obtain ⟨hc1, hf1⟩ := bcell hb1
    have hz1_0 : w.heap.size < w1.heap.size := by have := hb1.size; first | omega | (simp at this; omega)
    have hz1_1 : w.heap.size + 1 < w1.heap.size := by have := hb1.size; first | omega | (simp at this; omega)
    have q1_1_0 : w1.cell? ⟨w.heap.size + 1, 0, none⟩ = some (.int .i64 0) := cellThru hb1 (by simp <;> omega) (by simp [go_sem])
    have q1_1_1 : w1.cell? ⟨w.heap.size + 1, 1, none⟩ = some (.int .i64 0) := cellThru hb1 (by simp <;> omega) (by simp [go_sem])
    have q1_1_2 : w1.cell? ⟨w.heap.size + 1, 2, none⟩ = some (.int .i64 0) := cellThru hb1 (by simp <;> omega) (by simp [go_sem])
    have q1_1_3 : w1.cell? ⟨w.heap.size + 1, 3, none⟩ = some (.int .i64 0) := cellThru hb1 (by simp <;> omega) (by simp [go_sem])
    go_wp2
    refine bodyPost_ret (v := res5 (0, 0, 0, 0) c) (by simp [results, Try.results28, go_sem, q1_1_0, q1_1_1, q1_1_2, q1_1_3]) rfl ⟨rfl, ?_⟩
    (repeat' (first | (with_reducible exact Below.refl _ _) | (with_reducible assumption) | (with_reducible refine belowNext ?_ (by with_reducible assumption)) | (with_reducible refine belowAlloc ?_ _) | (with_reducible refine Below.drew ?_) | (with_reducible refine below_drewN ?_ _) | (with_reducible refine Below.setCell ?_ ?_ _) | go_size | (with_reducible refine sizeOf' ?_) | (with_reducible refine sizeAdd ?_) | (dsimp only; first | (with_reducible refine sizeOf' ?_) | (with_reducible refine sizeAdd ?_))))
end Go.Proofs.Ytabddjfgbhnldaa

/-
  Contracts: the table of differences, and rho, as the program tells them; written by genE9.py.
-/
import Derived.Test.YtdemgialagjomaaE8
import Derived.Deep.Cut
import Derived.Deep.RegionHeld
import Derived.Deep.LoopGhost
namespace Go.Proofs.Ytdemgialagjomaa
open Go.RowKit

theorem belowGQ {W W1 : World} (hb : Below W.heap.size W W1) : W.grownBy W1 none := ⟨hb.os, hb.tape, hb.output, hb.size, fun i hi _ => hb.block i hi⟩
theorem cellGQ {W W' : World} {row : Option Nat} (hg : W.grownBy W' row) {b o : Nat} {v : Value} (hlt : b < W.heap.size) (hne : some b ≠ row) (hc : W.cell? ⟨b, o, none⟩ = some v) : W'.cell? ⟨b, o, none⟩ = some v :=
  (World.cell?_of_block (hg.block b hlt hne)).trans hc
theorem frozGQ {W W' : World} {row : Option Nat} (hg : W.grownBy W' row) {b o : Nat} {v : Bool} (hlt : b < W.heap.size) (hne : some b ≠ row) (hc : W.frozen? ⟨b, o, none⟩ = v) : W'.frozen? ⟨b, o, none⟩ = v :=
  (World.frozen?_of_block (hg.block b hlt hne)).trans hc
theorem wf64 {k : Nat} (h : k ≤ 1000000000000) : (Lit.int .i64 ((k : Int) + 1)).wf = true := by
  simp only [Lit.wf, IntKind.min, IntKind.max, IntKind.signed, IntKind.bits, Bool.and_eq_true, decide_eq_true_eq]
  constructor <;> simp <;> omega

/-- A table as a value. -/
abbrev tabV (x y : Wd) (g : Nat) : Value := .agg #[.string (bs x), .string (bs y), .map (some g)]
/-- The boxes while the table is made. -/
structure TabC (w : World) (x y : Wd) (W : World) : Prop where
  B : Below w.heap.size w W
  z : w.heap.size + 1 + 1 + 1 < W.heap.size
  a0 : W.cell? ⟨w.heap.size, 0, none⟩ = some (.string (bs x))
  a1 : W.cell? ⟨w.heap.size, 1, none⟩ = some (.string (bs y))
  r0 : W.cell? ⟨w.heap.size + 1, 0, none⟩ = some (.string ⟨#[]⟩)
  r1 : W.cell? ⟨w.heap.size + 1, 1, none⟩ = some (.string ⟨#[]⟩)
  r2 : W.cell? ⟨w.heap.size + 1, 2, none⟩ = some (.map none)
  f0 : W.frozen? ⟨w.heap.size + 1, 0, none⟩ = false
  f1 : W.frozen? ⟨w.heap.size + 1, 1, none⟩ = false
  f2 : W.frozen? ⟨w.heap.size + 1, 2, none⟩ = false
  t0 : W.cell? ⟨w.heap.size + 1 + 1 + 1, 0, none⟩ = some (.string (bs x))
  t1 : W.cell? ⟨w.heap.size + 1 + 1 + 1, 1, none⟩ = some (.string (bs y))
  t2 : W.cell? ⟨w.heap.size + 1 + 1 + 1, 2, none⟩ = some (.map (some (w.heap.size + 1 + 1)))
theorem TabC.grow {w W W1 : World} {x y : Wd} {row : Option Nat} (H : TabC w x y W) (hg : W.grownBy W1 row) (hr : ∀ r, row = some r → r = w.heap.size + 1 + 1 ∨ W.heap.size ≤ r) : TabC w x y W1 := by
  have hz := H.z
  have hs := hg.size
  have ne : ∀ b, b ≠ w.heap.size + 1 + 1 → b < W.heap.size → some b ≠ row := fun b h1 h2 e => by
    rcases hr b e.symm with h | h <;> omega
  obtain ⟨B, z, a0, a1, r0, r1, r2, f0, f1, f2, t0, t1, t2⟩ := H
  exact ⟨B.grown hg B.size (fun k e => by rcases hr k e with h | h <;> omega), by omega, cellGQ hg (by omega) (ne _ (by omega) (by omega)) a0, cellGQ hg (by omega) (ne _ (by omega) (by omega)) a1, cellGQ hg (by omega) (ne _ (by omega) (by omega)) r0, cellGQ hg (by omega) (ne _ (by omega) (by omega)) r1, cellGQ hg (by omega) (ne _ (by omega) (by omega)) r2, frozGQ hg (by omega) (ne _ (by omega) (by omega)) f0, frozGQ hg (by omega) (ne _ (by omega) (by omega)) f1, frozGQ hg (by omega) (ne _ (by omega) (by omega)) f2, cellGQ hg (by omega) (ne _ (by omega) (by omega)) t0, cellGQ hg (by omega) (ne _ (by omega) (by omega)) t1, cellGQ hg (by omega) (ne _ (by omega) (by omega)) t2⟩
theorem TabC.on {w W W1 : World} {x y : Wd} (H : TabC w x y W) (hb : Below W.heap.size W W1) : TabC w x y W1 := H.grow (belowGQ hb) (fun r e => by cases e)
abbrev ownsT (W : World) (g n : Nat) (D : DataW Unit) : Prop := W.ownsMap Try.prog 32 (plainElem Try.prog 2) g n D
/-- What the region that stores knows. -/
structure TabS (w : World) (x y : Wd) (g5 : Nat) (X Y : Wd) (W : World) : Prop where
  C : TabC w x y W
  z5 : g5 < W.heap.size
  n5 : w.heap.size + 1 + 1 + 1 < g5
  b0 : W.cell? ⟨g5, 0, none⟩ = some (.string (bs X))
  b1 : W.cell? ⟨g5, 1, none⟩ = some (.string (bs Y))
theorem TabS.grow {w W W1 : World} {x y X Y : Wd} {g5 : Nat} {row : Option Nat} (H : TabS w x y g5 X Y W) (hg : W.grownBy W1 row) (hr : ∀ r, row = some r → r = w.heap.size + 1 + 1) : TabS w x y g5 X Y W1 := by
  have hs := hg.size
  have hz := H.z5
  have hn := H.n5
  have ne : some g5 ≠ row := fun e => by have := hr g5 e.symm; omega
  exact ⟨H.C.grow hg (fun r e => .inl (hr r e)), by omega, hn, cellGQ hg hz ne H.b0, cellGQ hg hz ne H.b1⟩

set_option maxRecDepth 100000 in
set_option maxHeartbeats 4000000 in
theorem implTab (x y : Wd) (w : World) (h : isSeq x y = true) :
    Calls Try.prog 15 #[sqV x y] w fun e w' => ∃ g n, e = .returned (tabV x y g) ∧ ownsT w' g n (tabD x y (x.length + y.length)) ∧ w.heap.size ≤ g ∧ Below w.heap.size w w' := by
  obtain ⟨-, -, hy, h64, -⟩ := isSeq_yes h
  have HH := Lib.hid h
  have HS := Lib.hid (fun (k : Nat) (hk : k ≤ 1000000000) w => implShBy x y k (k : Int) rfl w hk hy h64)
  have HD := Lib.hid (fun (k : Nat) (hne : shQ k x y ≠ (x, y)) w => implFirst (shQ k x y).1 (shQ k x y).2 x y w (dfQ x y (shQ k x y)) (isSeq_yes (sh_seq h k)).2.2.1 (isSeq_yes (sh_seq h k)).2.2.2.1 hy h64 (dfQ_is (sh_seq h k) h hne).1 (by have := (dfQ_is (sh_seq h k) h hne).2; omega))
  have hNE := fun k W => neSq (shQ k x y).1 (shQ k x y).2 x y W
  have hlx := fun W => lenS 9 3 x Try.underlying9 W
  have hly := fun W => lenS 9 3 y Try.underlying9 W
  obtain ⟨n, hn⟩ : ∃ n, x.length + y.length = n := ⟨_, rfl⟩
  have hnI : (x.length : Int) + (y.length : Int) = (n : Int) := by omega
  have wa : wrap64 ((x.length : Int) + (y.length : Int)) = (n : Int) := by rw [hnI]; unfold wrap64; omega
  have hmm := @run_makeMap Try.prog
  rw [hn] at h64 ⊢
  clear h hn hy
  generalize (x.length : Int) = lx at *
  generalize (y.length : Int) = ly at *
  go_enter Try.func15, Try.ntmps15
  go_wp2
  clear wa hlx hly hmm hnI
  have C0 : TabC w x y ((((w.alloc (.cells #[.string (bs x), .string (bs y)] 32)).alloc (.cells #[.string ⟨#[]⟩, .string ⟨#[]⟩, .map none] 39)).alloc (.map #[] 0)).alloc (.cells #[.string (bs x), .string (bs y), .map (some (w.heap.size + 1 + 1))] 39)) := ⟨by (repeat' (first | (with_reducible exact Below.refl _ _) | (with_reducible assumption) | (with_reducible refine belowNext ?_ (by with_reducible assumption)) | (with_reducible refine belowAlloc ?_ _) | (with_reducible refine Below.drew ?_) | (with_reducible refine below_drewN ?_ _) | (with_reducible refine Below.setCell ?_ ?_ _) | go_size | (with_reducible refine sizeOf' ?_) | (with_reducible refine sizeAdd ?_) | (dsimp only; first | (with_reducible refine sizeOf' ?_) | (with_reducible refine sizeAdd ?_)))), by simp, by simp [go_sem], by simp [go_sem], by simp [go_sem], by simp [go_sem], by simp [go_sem], by simp [go_sem], by simp [go_sem], by simp [go_sem], by simp [go_sem], by simp [go_sem], by simp [go_sem]⟩
  have M0 : ownsT ((((w.alloc (.cells #[.string (bs x), .string (bs y)] 32)).alloc (.cells #[.string ⟨#[]⟩, .string ⟨#[]⟩, .map none] 39)).alloc (.map #[] 0)).alloc (.cells #[.string (bs x), .string (bs y), .map (some (w.heap.size + 1 + 1))] 39)) (w.heap.size + 1 + 1) 0 (tabD x y 0) := by
    have := (World.ownsMap_made (H := Unit) ((w.alloc (.cells #[.string (bs x), .string (bs y)] 32)).alloc (.cells #[.string ⟨#[]⟩, .string ⟨#[]⟩, .map none] 39)) Try.prog 32 (plainElem Try.prog 2)).alloc (.cells #[.string (bs x), .string (bs y), .map (some (w.heap.size + 1 + 1))] 39)
    simp only [World.size_alloc] at this
    exact this
  go_loopw [16] (fun i wr => ∃ k : Nat, k ≤ n ∧ i = .int .i64 k ∧ (∃ c : Nat, c ≤ k ∧ Hid (ownsT wr (w.heap.size + 1 + 1) c (tabD x y k))) ∧ TabC w x y wr) (fun i _ => n - (intOf i).toNat)
  case atStart => exact ⟨0, by omega, rfl, ⟨0, by omega, Lib.hid M0⟩, C0⟩
  case round =>
    clear C0 M0
    obtain ⟨k, hk, rfl, ⟨c, hc, HM⟩, C⟩ := hrel
    by_cases hlt : k < n
    · have HSk := Lib.hid (HS.out k (by omega))
      have hne := hNE k
      have w1 : IntKind.i64.wrap ((k : Int) + 1) = (k : Int) + 1 := IntWalk.i64_in _ (by omega)
      by_cases heq : shQ k x y = (x, y)
      · have HT : Hid (tabD x y (k + 1) = tabD x y k) := Lib.hid (by show putT x y (tabD x y k) k = _; unfold putT; rw [if_pos heq])
        rw [heq] at HSk hne
        dsimp only at HSk hne
        have he2 : (!((x, y) == (x, y))) = false := by simp
        rw [he2] at hne
        clear he2 heq
        obtain ⟨B, z, a0, a1, r0, r1, r2, f0, f1, f2, t0, t1, t2⟩ := id C
        go_wp2_with fail
        refine (HSk.out _).mono ?_
        rintro e w2 ⟨rfl, hb2⟩
        have C2 := C.on hb2
        have M2 := Lib.hid (HM.out.kept (belowGQ hb2) (by simp))
        clear B z a0 a1 r0 r1 r2 f0 f1 f2 t0 t1 t2 C HM hb2
        obtain ⟨B, z, a0, a1, r0, r1, r2, f0, f1, f2, t0, t1, t2⟩ := id C2
        have z0 : w.heap.size < w2.heap.size := by omega
        have C3 := C2.on (belowAlloc (Below.refl _ _) (.cells #[.string (bs x), .string (bs y)] 32))
        have M3 := Lib.hid (M2.out.alloc (.cells #[.string (bs x), .string (bs y)] 32))
        go_wp2
        go_roundw
        case rel => exact ⟨k + 1, by omega, by go_num, ⟨c, by omega, by rw [HT.out]; exact M3⟩, C3⟩
        case measure => simp [intOf]; omega
      · have HDk := Lib.hid (HD.out k heq)
        have HT : Hid (tabD x y (k + 1) = (tabD x y k).put (ks (shQ k x y)) (.lit (.int .i64 ((dfQ x y (shQ k x y) : Int) + 1)))) := Lib.hid (by show putT x y (tabD x y k) k = _; unfold putT; rw [if_neg heq])
        have hkey := sqKey (shQ k x y) (sh_small HH.out k)
        have hwf := wf64 (k := dfQ x y (shQ k x y)) (by have := (dfQ_is (sh_seq HH.out k) HH.out heq).2; omega)
        have he2 : (!((shQ k x y) == (x, y))) = true := by simp [heq]
        have he3 : (!(((shQ k x y).1, (shQ k x y).2) == (x, y))) = true := he2
        rw [he3] at hne
        generalize ((dfQ x y (shQ k x y) : Int) + 1) = D at *
        generalize shQ k x y = q at *
        obtain ⟨X, Y⟩ := q
        dsimp only at *
        clear he2 he3 heq
        obtain ⟨B, z, a0, a1, r0, r1, r2, f0, f1, f2, t0, t1, t2⟩ := id C
        go_wp2_with fail
        refine (HSk.out _).mono ?_
        rintro e w2 ⟨rfl, hb2⟩
        have C2 := C.on hb2
        have M2 := Lib.hid (HM.out.kept (belowGQ hb2) (by simp))
        clear B z a0 a1 r0 r1 r2 f0 f1 f2 t0 t1 t2 C HM hb2
        obtain ⟨B, z, a0, a1, r0, r1, r2, f0, f1, f2, t0, t1, t2⟩ := id C2
        have z0 : w.heap.size < w2.heap.size := by omega
        have M3 := Lib.hid (M2.out.alloc (.cells #[.string (bs X), .string (bs Y)] 32))
        have S3 : TabS w x y w2.heap.size X Y (w2.alloc (.cells #[.string (bs X), .string (bs Y)] 32)) := ⟨C2.on (belowAlloc (Below.refl _ _) _), by simp, C2.z, by simp [go_sem], by simp [go_sem]⟩
        clear C2
        go_upto_region 7 with fail
        generalize (w2.alloc (.cells #[.string (bs X), .string (bs Y)] 32)) = w3 at *
        generalize w2.heap.size = g5 at *
        clear M2 B z a0 a1 r0 r1 r2 f0 f1 f2 t0 t1 t2
        refine wp_region_held_drew (S := (TabS w x y g5 X Y)) (by kernel_rfl) ?_ (fun hHeld => ?_)
        · exact S3.grow (belowGQ (Below.refl _ _).drew) (fun r e => by cases e)
        have M4 : ownsT w3.drew (w.heap.size + 1 + 1) c (tabD x y k) := M3.out.drew
        refine wpAnyH_take (i := 0) (v := ?_) rfl (by kernel_rfl) (by kernel_rfl) (by kernel_rfl) (fun _ _ _ h => h) (Or.inl ⟨by kernel_rfl, ?_⟩) hHeld ?_
        rotate_left
        · intro w hSw; obtain ⟨⟨B, z, a0, a1, r0, r1, r2, f0, f1, f2, t0, t1, t2⟩, z5, n5, b0, b1⟩ := hSw; first | (go_simp; done) | (go_simp; with_reducible rfl)
        refine wpAnyH_take (i := 1) (v := ?_) rfl (by kernel_rfl) (by kernel_rfl) (by kernel_rfl) (fun _ _ _ h => h) (Or.inl ⟨by kernel_rfl, ?_⟩) hHeld ?_
        rotate_left
        · intro w hSw; obtain ⟨⟨B, z, a0, a1, r0, r1, r2, f0, f1, f2, t0, t1, t2⟩, z5, n5, b0, b1⟩ := hSw; first | (go_simp; done) | (go_simp; with_reducible rfl)
        refine wpAnyH_take (i := 2) (v := ?_) rfl (by kernel_rfl) (by kernel_rfl) (by kernel_rfl) (fun _ _ _ h => h) (Or.inl ⟨by kernel_rfl, ?_⟩) hHeld ?_
        rotate_left
        · intro w hSw; obtain ⟨⟨B, z, a0, a1, r0, r1, r2, f0, f1, f2, t0, t1, t2⟩, z5, n5, b0, b1⟩ := hSw; first | (go_simp; done) | (go_simp; with_reducible rfl)
        refine wpAnyH_take (i := 3) (v := ?_) rfl (by kernel_rfl) (by kernel_rfl) (by kernel_rfl) (fun _ _ _ h => h) (Or.inl ⟨by kernel_rfl, ?_⟩) hHeld ?_
        rotate_left
        · intro w hSw; obtain ⟨⟨B, z, a0, a1, r0, r1, r2, f0, f1, f2, t0, t1, t2⟩, z5, n5, b0, b1⟩ := hSw; first | (go_simp; done) | (go_simp; with_reducible rfl)
        refine wpAnyH_take (i := 4) (v := ?_) rfl (by kernel_rfl) (by kernel_rfl) (by kernel_rfl) (fun _ _ _ h => h) (Or.inl ⟨by kernel_rfl, ?_⟩) hHeld ?_
        rotate_left
        · intro w hSw; obtain ⟨⟨B, z, a0, a1, r0, r1, r2, f0, f1, f2, t0, t1, t2⟩, z5, n5, b0, b1⟩ := hSw; first | (go_simp; done) | (go_simp; with_reducible rfl)
        refine wpAnyH_ready (rs := [5]) (by kernel_rfl) (by simp) ?_
        refine AllReadyH.cons rfl (fun K hK => ?_) AllReadyH.nil
        go_simp
        go_wp2_with (go_at_call 21; (with_reducible refine (HDk.out _).mono ?_); rintro e w4 ⟨rfl, hb4⟩)
        have S4 := hHeld.grow (belowGQ hb4) (fun r e => by cases e)
        have M5 := M4.kept (belowGQ hb4) (by simp)
        refine hK.out _ _ ?_ (fun hHeld => ?_)
        · exact S4
        clear hK K
        obtain ⟨w5, hrun, M6, g6⟩ := M5.update sqLaw Try.underlying37 (by unfold maxLen; omega) hkey (plainElem_int Try.underlying2 hwf)
        have S5 := S4.grow g6 (fun r e => (Option.some.inj e).symm)
        refine wpAnyH_ready (rs := [6]) (by kernel_rfl) (by simp) ?_
        refine AllReadyH.cons rfl (fun K hK => ?_) AllReadyH.nil
        go_simp
        refine hK.out _ _ ?_ (fun hHeld => ?_)
        · exact S5
        clear hK K
        refine wpAnyH_done (by kernel_rfl) ?_ _
        have MM := Lib.hid M6
        clear M6 hrun g6 M5 M4 M3 S3
        go_wp2
        go_roundw
        case rel => exact ⟨k + 1, by omega, by go_num, ⟨c + 1, by omega, by rw [HT.out]; exact MM⟩, S5.C⟩
        case measure => simp [intOf]; omega
    · obtain rfl : k = n := by omega
      obtain ⟨B, z, a0, a1, r0, r1, r2, f0, f1, f2, t0, t1, t2⟩ := id C
      have HB : Hid (Below w.heap.size w (((wr.setCell ⟨w.heap.size + 1, 0, none⟩ (.string (bs x))).setCell ⟨w.heap.size + 1, 1, none⟩ (.string (bs y))).setCell ⟨w.heap.size + 1, 2, none⟩ (.map (some (w.heap.size + 1 + 1))))) := Lib.hid (((B.setCell (by simp) _).setCell (by simp) _).setCell (by simp) _)
      have HM2 := Lib.hid (((HM.out.setCell (a := ⟨w.heap.size + 1, 0, none⟩) (by simp) (.string (bs x))).setCell (a := ⟨w.heap.size + 1, 1, none⟩) (by simp) (.string (bs y))).setCell (a := ⟨w.heap.size + 1, 2, none⟩) (by simp) (.map (some (w.heap.size + 1 + 1))))
      go_wp2
      refine bodyPost_ret (v := tabV x y (w.heap.size + 1 + 1)) (by simp [results, Try.results15, go_sem, r0, r1, r2]) rfl ⟨_, c, rfl, HM2.out, by omega, HB.out⟩
end Go.Proofs.Ytdemgialagjomaa

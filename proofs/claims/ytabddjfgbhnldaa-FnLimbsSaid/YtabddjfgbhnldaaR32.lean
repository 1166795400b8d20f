/-
  Contracts: the wakes around an angle, as the program gathers and sorts them.
-/
import Derived.Test.YtabddjfgbhnldaaRA
import Derived.Test.YtabddjfgbhnldaaR31
namespace Go.Proofs.Ytabddjfgbhnldaa
open Go.RowKit

theorem okP_uppers {p : Lf4} (h : okP p = true) : angOk p.2.2.1 p.2.2.2 := by
  obtain ⟨h1, h2, h3, h4, _⟩ := (isLf_yes h).2.1
  exact ⟨h1, h2, h3, h4⟩

set_option maxRecDepth 100000 in
set_option maxHeartbeats 1000000 in
theorem implWakes (n d : Int) (N : Nat) (w : World) (ha : isAng n d = true) (h1 : 1 ≤ N) (h8 : N ≤ 8) :
    Calls Try.prog 27 #[ang n d, .int .i64 N] w fun e w' => ∃ A cap, e = .returned (.slice A (wkL (n, d) (N - 1)).length cap) ∧ w'.ownsRow w.heap.size 28 4 (.slice A (wkL (n, d) (N - 1)).length cap) (wkL (n, d) (N - 1)).length (flatP (wkL (n, d) (N - 1))) ∧ Below w.heap.size w w' := by
  have HU := Lib.hid (fun w => implUpTo N w h1 h8)
  have HOk := Lib.hid (upK_ok (N - 1) (by omega))
  have HNd := Lib.hid (upK_nd (N - 1) (by omega))
  have HK := Lib.hid (wkL_facts (n, d) (m := N - 1) (by omega))
  have hll := upK_len (N - 1) (by omega)
  have HX := Lib.hid (isAng_ok ha)
  generalize wkL (n, d) (N - 1) = K at *
  generalize upK (N - 1) = l at *
  obtain ⟨i0, hi, hz0, hz1, hz2⟩ := info_parts infoP
  have hl2 : l.length ≤ 2000 := by omega
  have hN : 0 ≤ (N : Int) ∧ (N : Int) ≤ 8 := by omega
  generalize (N : Int) = I at *
  have HAr := Lib.hid (fun (x : Lf4 × Nat) (hx : x ∈ l) w => implArcW n d x.1.1 x.1.2.1 x.1.2.2.1 x.1.2.2.2 w HX.out.wide (ok_low (HOk.out x hx)).wide (okP_uppers (HOk.out x hx)).wide)
  clear hll ha h1 h8
  go_enter Try.func27, Try.ntmps27
  go_wp2_with fail
  have zb : w.heap.size < (w.alloc (.cells #[.int .i64 n, .int .i64 d] 25)).heap.size := by simp
  have HB0 : Hid (Below w.heap.size w (w.alloc (.cells #[.int .i64 n, .int .i64 d] 25))) := Lib.hid (belowAlloc (Below.refl _ _) _)
  have c0 : (w.alloc (.cells #[.int .i64 n, .int .i64 d] 25)).cell? ⟨w.heap.size, 0, none⟩ = some (.int .i64 n) := by simp [go_sem]
  have c1 : (w.alloc (.cells #[.int .i64 n, .int .i64 d] 25)).cell? ⟨w.heap.size, 1, none⟩ = some (.int .i64 d) := by simp [go_sem]
  obtain ⟨wb, hwb⟩ : ∃ wb, w.alloc (.cells #[.int .i64 n, .int .i64 d] 25) = wb := ⟨_, rfl⟩
  rw [hwb] at zb HB0 c0 c1 ⊢
  refine (HU.out _).mono ?_
  rintro e w2 ⟨rfl, hm2, hb2⟩
  obtain ⟨B, hB⟩ : ∃ B, wb.heap.size = B := ⟨_, rfl⟩
  have HM2 := Lib.hid hm2
  have HB2 := Lib.hid (belowNext HB0.out hb2)
  have d0 := cellThru hb2 zb c0
  have d1 := cellThru hb2 zb c1
  rw [hB] at HM2 zb ⊢
  clear hm2 hb2 HB0 c0 c1 hB hwb
  go_wp2_with (at_range; refine wpList_range_own _ rfl _ 63 rfl 28 2 rpLaw Try.underlying63 _ B l.length _ rfl HM2.out ?_; intro w0 hrg0 hg0 hs0)
  go_frame
  have hrz : B < w2.heap.size := by
    have := HM2.out.lt
    exact this
  have HRG := Lib.hid hrg0
  have HB0 : Hid (Below w.heap.size w w0) := Lib.hid (HB2.out.grown hg0 HB2.out.size (fun j hj => by cases hj))
  have z0 : w2.heap.size < w0.heap.size := by omega
  have e0 := cellG hg0 (show w.heap.size < _ by omega) (fun e => by cases e) d0
  have e1 := cellG hg0 (show w.heap.size < _ by omega) (fun e => by cases e) d1
  clear hrg0 hg0 hs0 HM2 HB2 d0 d1
  generalize w2.heap.size = r at *
  go_loopg [5] (Maps.size (pD l)) (fun g s5 wr => ∃ (left : Lit → Bool) (acc : List Lf4) (A : Option Addr) (cap : Nat), s5 = .slice A acc.length cap ∧ Hid (wr.ranges Try.prog 28 (plainElem Try.prog 2) B r l.length (pD l) left g) ∧ Hid (Gath l (fun y => insX (n, d) y.1) left acc) ∧ Hid (wr.ownsRow (r + 1) 28 4 s5 acc.length (flatP acc)) ∧ Hid (Below w.heap.size w wr) ∧ r < wr.heap.size ∧ wr.cell? ⟨w.heap.size, 0, none⟩ = some (.int .i64 n) ∧ wr.cell? ⟨w.heap.size, 1, none⟩ = some (.int .i64 d))
  case atStart => exact ⟨_, [], none, 0, rfl, HRG, Lib.hid (Gath.start fun y hy => pD_has.2 ⟨y, hy, rfl⟩), Lib.hid own_none, HB0, z0, e0, e1⟩
  case round =>
    clear HRG HB0 z0 e0 e1
    obtain ⟨left, acc, A, cap, rfl, HRG, HG, HO, HB, zr, x0, x1⟩ := hrel
    have hrg := HRG.out
    have hal : acc.length ≤ 2000 := Nat.le_trans HG.out.len hl2
    go_wp2_with (at_next; refine wpList_next_pairs _ rfl _ rfl B r l.length l HOk.out left _ rfl hrg ?_ ?_; intro hl0; rotate_left; intro x c5 w5 cnt5 hx hlx hat hrg5 hlt5 hg5 hs5 hen; have HX5 := Lib.hid (And.intro hx (And.intro hlx (And.intro hrg5 hlt5))); have HO5 := Lib.hid (ownTurn HO.out hg5 (fun j hj => by have := Option.some.inj hj; omega)); have HB5 := Lib.hid (HB.out.grown hg5 HB.out.size (fun j hj => by have := Option.some.inj hj; omega)); have z5 : r < w5.heap.size := (by omega); have y5 : w.heap.size < w5.heap.size := (by omega); have y0 := cellG hg5 (show w.heap.size < _ by omega) (fun e => by have := Option.some.inj e; omega) x0; have y1 := cellG hg5 (show w.heap.size < _ by omega) (fun e => by have := Option.some.inj e; omega) x1; clear hx hlx hat hrg5 hlt5 hg5 hs5 x0 x1; rotate_left)
    · have hpm : acc.Perm K := (HG.out.done hl0 HNd.out).trans HK.out.1.symm
      refine (implSortP w.heap.size A acc.length cap acc wr (ownMono HO.out (by omega)) rfl (HG.out.ok HOk.out) (by omega)).mono ?_
      rintro e w9 ⟨rfl, H⟩
      obtain ⟨l', hp, hs, ho, hb⟩ := H.out
      obtain rfl : l' = K := sort_unique HK.out.2.2.1 HK.out.2.2.2.1 hs HK.out.2.1 (hp.trans hpm)
      have HO9 := Lib.hid ho
      have HB9 := Lib.hid (HB.out.trans hb)
      have hlen := hpm.length_eq
      rw [hlen] at HO9 ⊢
      clear H ho hb hp hs hpm
      go_wp2
      go_ret
      exact ⟨A, cap, rfl, HO9.out, HB9.out⟩
    · refine (HAr.out x HX5.out.1 _).mono ?_
      rintro e w6 ⟨rfl, hb6⟩
      have HT : Hid (insX (n, d) x.1 = arcB n d x.1.1 x.1.2.1 x.1.2.2.1 x.1.2.2.2) := Lib.hid rfl
      have HR6 := Lib.hid ((HX5.out.2.2.1.alloc (.cells #[.int .i64 x.1.1, .int .i64 x.1.2.1, .int .i64 x.1.2.2.1, .int .i64 x.1.2.2.2] 28)).kept (belowG hb6) (by simp) (by simp))
      have HO6 := Lib.hid (ownTurn (World.ownsRow.alloc HO5.out (.cells #[.int .i64 x.1.1, .int .i64 x.1.2.1, .int .i64 x.1.2.2.1, .int .i64 x.1.2.2.2] 28)) (belowG hb6) (fun j e => by cases e))
      have HB6 := Lib.hid (belowNext (belowAlloc HB5.out (.cells #[.int .i64 x.1.1, .int .i64 x.1.2.1, .int .i64 x.1.2.2.1, .int .i64 x.1.2.2.2] 28)) hb6)
      have q0 : w6.cell? ⟨w5.heap.size, 0, none⟩ = some (.int .i64 x.1.1) := cellThru hb6 (by simp) (by simp [go_sem])
      have q1 : w6.cell? ⟨w5.heap.size, 1, none⟩ = some (.int .i64 x.1.2.1) := cellThru hb6 (by simp) (by simp [go_sem])
      have q2 : w6.cell? ⟨w5.heap.size, 2, none⟩ = some (.int .i64 x.1.2.2.1) := cellThru hb6 (by simp) (by simp [go_sem])
      have q3 : w6.cell? ⟨w5.heap.size, 3, none⟩ = some (.int .i64 x.1.2.2.2) := cellThru hb6 (by simp) (by simp [go_sem])
      have f0 : w6.cell? ⟨w.heap.size, 0, none⟩ = some (.int .i64 n) := cellThru hb6 (by simp; omega) (cellThru (belowAlloc (Below.refl _ _) _) y5 y0)
      have f1 : w6.cell? ⟨w.heap.size, 1, none⟩ = some (.int .i64 d) := cellThru hb6 (by simp; omega) (cellThru (belowAlloc (Below.refl _ _) _) y5 y1)
      have z6 : r < w6.heap.size := by have := hb6.size; simp at this; omega
      clear hb6 HO5 HB5 y0 y1
      generalize arcB n d x.1.1 x.1.2.1 x.1.2.2.1 x.1.2.2.2 = t at *
      cases t
      · go_wp2
        go_roundg cnt5
        case measure => exact HX5.out.2.2.2
        case rel => exact ⟨fun z => left z && !z.sameKey (kp x.1), acc, A, cap, rfl, HR6, Lib.hid (HG.out.no HOk.out HX5.out.1 (fun y hy e => by rw [e]; exact HT.out)), HO6, HB6, z6, f0, f1⟩
      · go_wp2_with (at_builtin; refine wpList_append_own_at _ rfl _ _ 49 rfl (r + 1) 28 i0 (.agg #[.int .i64 0, .int .i64 0, .int .i64 0, .int .i64 0]) 4 32 Try.underlying49 hi hz0 hz1 hz2 rfl (by decide) _ _ _ rfl (World.ownsRow.alloc HO6.out _) ⟨w6.heap.size, 0, none⟩ 1 1 [.int .i64 x.1.1, .int .i64 x.1.2.1, .int .i64 x.1.2.2.1, .int .i64 x.1.2.2.2] rfl rfl ?c1 ?c2 ?c3 ?c4 ?c5 ?_)
        case c1 => exact cell_four_newP _ _ _ _ _ _
        case c2 => intro u hu; simp at hu; rcases hu with rfl | rfl | rfl | rfl <;> rfl
        case c3 => unfold maxLen; omega
        case c4 => omega
        case c5 => simp; omega
        intro v' w11 hown' hgrow _ _
        obtain ⟨gn, capn, rfl⟩ := ownsRow_succ hown'
        have hB11 : Below w.heap.size w w11 := (belowAlloc HB6.out _).grown hgrow (belowAlloc HB6.out _).size (fun j hj => by have := own_block HO6.out j hj; omega)
        have HR11 := Lib.hid ((HR6.out.alloc (.cells #[.int .i64 x.1.1, .int .i64 x.1.2.1, .int .i64 x.1.2.2.1, .int .i64 x.1.2.2.2] 28)).kept hgrow (fun e => by have := own_block HO6.out _ e.symm; omega) (fun e => by have := own_block HO6.out _ e.symm; omega))
        have g0 : w11.cell? ⟨w.heap.size, 0, none⟩ = some (.int .i64 n) := cellG hgrow (by simp; omega) (fun e => by have := own_block HO6.out _ e.symm; omega) (cellThru (belowAlloc (Below.refl _ _) _) (by omega) f0)
        have g1 : w11.cell? ⟨w.heap.size, 1, none⟩ = some (.int .i64 d) := cellG hgrow (by simp; omega) (fun e => by have := own_block HO6.out _ e.symm; omega) (cellThru (belowAlloc (Below.refl _ _) _) (by omega) f1)
        have HO11 := Lib.hid hown'
        have z11 : r < w11.heap.size := by have := hgrow.size; simp at this; omega
        have HB11 := Lib.hid hB11
        clear hown' hgrow hB11 HR6 HO6 HB6 f0 f1
        go_wp2
        go_roundg cnt5
        case measure => exact HX5.out.2.2.2
        case rel => exact ⟨fun z => left z && !z.sameKey (kp x.1), acc ++ [x.1], _, _, by rw [List.length_append]; rfl, HR11, Lib.hid (HG.out.yes HOk.out HX5.out.1 HX5.out.2.1 HT.out), Lib.hid (by rw [flatP_app, List.length_append]; exact HO11.out), HB11, z11, g0, g1⟩
end Go.Proofs.Ytabddjfgbhnldaa

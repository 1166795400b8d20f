/-
  Plain mathematics: the wakes around an angle contain each other; a pair's lower angle and its width give the upper one; parents contain their pairs. No program in sight.
  Lists of ray pairs that a law compares (laws.pairs9).
  Contracts: what the law of wakes draws (spec.DrawWidthOf, spec.DrawWakesAround, spec.DrawCountSatellites): some numbers.
-/
import Derived.Test.YtnciiodgkanpjaaLMA
import Derived.Test.YtnciiodgkanpjaaRX
import Derived.Test.YtnciiodgkanpjaaR30
import Derived.Test.YtnciiodgkanpjaaAM
import Derived.Test.YtnciiodgkanpjaaBX
import Derived.Test.YtnciiodgkanpjaaRA
import Derived.Test.YtnciiodgkanpjaaDZ
namespace Go.Proofs.Ytnciiodgkanpjaa
open Go.RowKit

theorem wk_mem {x : Int × Int} {k : Nat} (hk : k ≤ 7) {p : Lf4} (h : p ∈ wkL x k) : ∃ z ∈ upK 7, z.1 = p ∧ insX x p = true ∧ okP p = true := by
  have h1 := (wkL_facts x hk).1.mem_iff.1 h
  rw [List.mem_map] at h1
  obtain ⟨z, hz, rfl⟩ := h1
  rw [List.mem_filter] at hz
  exact ⟨z, upK_more hk hz.1, rfl, hz.2, (wkL_facts x hk).2.2.1 _ h⟩
theorem wk_nd {x : Int × Int} {k : Nat} (hk : k ≤ 7) : (wkL x k).Nodup := by
  rw [(wkL_facts x hk).1.nodup_iff, show ((upK k).filter fun y => insX x y.1).map (·.1) = ((upK k).map (·.1)).filter (insX x) from by rw [List.filter_map]; rfl]
  exact (upK_nd k hk).filter _
/-- What WakesAround answers, in order. -/
theorem wa_is {n d m : Int} {p : Lf4} (h : p ∈ waL n d m) : isAng n d = true ∧ ∃ k, k ≤ 7 ∧ waL n d m = wkL (n, d) k := by
  unfold waL at h ⊢
  cases ha : isAng n d
  · rw [ha] at h; cases h
  · rw [ha] at h
    by_cases hm : 2 ≤ m ∧ m ≤ 8
    · rw [if_pos rfl, if_pos hm] at *
      exact ⟨rfl, m.toNat - 1, by omega, rfl⟩
    · rw [if_pos rfl, if_neg hm] at h; cases h
theorem wa_in {n d m : Int} {p : Lf4} (h : p ∈ waL n d m) : angOk n d ∧ okP p = true ∧ ltA p.1 p.2.1 n d = true ∧ ltA n d p.2.2.1 p.2.2.2 = true := by
  obtain ⟨ha, k, hk, e⟩ := wa_is h
  rw [e] at h
  obtain ⟨z, _, _, hi, hok⟩ := wk_mem hk h
  obtain ⟨a, b⟩ := ins_low hok hi
  exact ⟨isAng_ok ha, hok, a, b⟩
theorem wa_next {n d m : Int} {i : Nat} {p q : Lf4} (hp : (waL n d m)[i]? = some p) (hq : (waL n d m)[i + 1]? = some q) : ltA p.1 p.2.1 q.1 q.2.1 = true ∧ ltA q.2.2.1 q.2.2.2 p.2.2.1 p.2.2.2 = true := by
  obtain ⟨ha, k, hk, e⟩ := wa_is (List.mem_of_getElem? hp)
  rw [e] at hp hq
  have hmp := List.mem_of_getElem? hp
  have hmq := List.mem_of_getElem? hq
  obtain ⟨z, hz, ez, iz, okz⟩ := wk_mem hk hmp
  obtain ⟨y, hy, ey, iy, oky⟩ := wk_mem hk hmq
  obtain ⟨a1, a2⟩ := List.getElem?_eq_some_iff.1 hp
  obtain ⟨b1, b2⟩ := List.getElem?_eq_some_iff.1 hq
  have hs : lowLt q p = false := by
    have := List.pairwise_iff_getElem.1 (wkL_facts (n, d) hk).2.1 i (i + 1) a1 b1 (by omega)
    rw [a2, b2] at this
    exact this
  have hne : p ≠ q := by
    have := List.pairwise_iff_getElem.1 (wk_nd (x := (n, d)) hk) i (i + 1) a1 b1 (by omega)
    rw [a2, b2] at this
    exact this
  have hl : lowLt p q = true := by
    cases e2 : lowLt p q
    · exact absurd ((wkL_facts (n, d) hk).2.2.2.1 _ hmp _ hmq (low_eq okz oky e2 hs)) hne
    · rfl
  refine ⟨hl, ?_⟩
  have := cls_nest (x := (n, d)) (q := y) (r := z) ha hy hz (by rw [ey]; unfold clsX; rw [iy]; rfl) (by rw [ez]; unfold clsX; rw [iz]; rfl) (by rw [ey, ez]; exact hl)
  rw [ey, ez] at this
  exact this
theorem width_add {a b x y wn wd : Int} (h1 : 1 ≤ b) (h2 : 1 ≤ y) (h3 : 0 ≤ a) (h4 : a < b) (h5 : 0 ≤ x) (h6 : x < y) (hlt : a * y < x * b) (hg : gcdI x y = 1) (e1 : redN (x * b - a * y) (b * y) = wn) (e2 : redD (x * b - a * y) (b * y) = wd) :
    redN (a * wd + wn * b) (b * wd) = x ∧ redD (a * wd + wn * b) (b * wd) = y := by
  have hT : 0 < b * y := Int.mul_pos (by omega) (by omega)
  have hsm : x * b - a * y < b * y := by
    have h1 : x * b < y * b := Int.mul_lt_mul_of_pos_right h6 (by omega)
    have h3 : 0 ≤ a * y := Int.mul_nonneg h3 (by omega)
    rw [Int.mul_comm b y]
    omega
  obtain ⟨g, g0, f1, f2⟩ := redParts (x * b - a * y) (b * y) hT
  have hwd := redDpos (x * b - a * y) (b * y) hT
  rw [e1] at f1
  rw [e2] at f2 hwd
  rw [Int.emod_eq_of_lt (by omega) hsm] at f1
  have hT2 : 0 < b * wd := Int.mul_pos (by omega) hwd
  have sg : (a * wd + wn * b) * g = x * (b * b) := by
    have q1 : (a * wd + wn * b) * g = a * (wd * g) + (wn * g) * b := by
      rw [Int.add_mul]
      congr 1
      · ac_rfl
      · ac_rfl
    rw [q1, f1, f2, Int.sub_mul]
    have q2 : a * (b * y) = a * y * b := by ac_rfl
    have q3 : x * b * b = x * (b * b) := by ac_rfl
    omega
  have tg : (b * wd) * g = y * (b * b) := by
    have q1 : (b * wd) * g = b * (wd * g) := by ac_rfl
    rw [q1, f2]
    ac_rfl
  have hbb : 0 < b * b := Int.mul_pos (by omega) (by omega)
  have hS : a * wd + wn * b < b * wd := by
    have : (a * wd + wn * b) * g < (b * wd) * g := by rw [sg, tg]; exact Int.mul_lt_mul_of_pos_right h6 hbb
    exact Int.lt_of_mul_lt_mul_right this (by omega)
  have hS0 : 0 ≤ a * wd + wn * b := by
    rcases (show a * wd + wn * b < 0 ∨ 0 ≤ a * wd + wn * b by omega) with h | h
    · have h7 := Int.mul_neg_of_neg_of_pos h g0
      rw [sg] at h7
      have h8 := Int.mul_nonneg h5 (Int.le_of_lt hbb)
      omega
    · exact h
  generalize a * wd + wn * b = S at *
  generalize b * wd = T at *
  obtain ⟨k, k0, p1, p2⟩ := redParts S T hT2
  rw [Int.emod_eq_of_lt hS0 hS] at p1
  refine copAM (redDpos S T hT2) (by omega) (redCop S T hT2) hg ?_
  generalize redN S T = u at *
  generalize redD S T = v at *
  have hkg : 0 < k * g := Int.mul_pos k0 g0
  have e : (u * y) * (k * g) = (x * v) * (k * g) := by
    have a1 : (u * y) * (k * g) = (u * k) * g * y := by ac_rfl
    have a2 : (x * v) * (k * g) = (v * k) * g * x := by ac_rfl
    rw [a1, a2, p1, p2, sg, tg]
    ac_rfl
  exact Int.eq_of_mul_eq_mul_right (by omega) e
/-- The lower angle and the width give the upper one. -/
theorem wi_sum {n d : Int} (hc : poC n d = 0) : sumN (poP n d).1 (poP n d).2.1 (wiA n d).1 (wiA n d).2 = (poP n d).2.2.1 ∧ sumD (poP n d).1 (poP n d).2.1 (wiA n d).1 (wiA n d).2 = (poP n d).2.2.2 ∧ sumC (poP n d).1 (poP n d).2.1 (wiA n d).1 (wiA n d).2 = 0 := by
  obtain ⟨_, _, _, hok⟩ := po_arnd hc
  have w1 : wiA n d = (redN ((poP n d).2.2.1 * (poP n d).2.1 - (poP n d).1 * (poP n d).2.2.2) ((poP n d).2.1 * (poP n d).2.2.2), redD ((poP n d).2.2.1 * (poP n d).2.1 - (poP n d).1 * (poP n d).2.2.2) ((poP n d).2.1 * (poP n d).2.2.2)) := by unfold wiA; rw [if_pos hc]
  obtain ⟨a, b, x, y, sp, E, F, eP, _, h2, h8, _, b1, b2, b3, b4, b5, b6, b7, b8, b9, hE, hF⟩ := po_facts hc
  rw [eP] at hok w1 ⊢
  obtain ⟨r1, r2, _⟩ := isLf_yes hok
  dsimp only at *
  generalize wiA n d = W at *
  subst w1
  obtain ⟨_, D, _, _, _, d1, d2, hE2, hF2⟩ := width_den h8 h2 hE hF
  obtain ⟨s1, s2, s3, s4⟩ := width_same b1 b5 b3 b7 b8 b9 hE2 hF2 (Int.le_trans (by decide) d1)
  have hT : 0 < b * y := Int.mul_pos (by omega) (by omega)
  have hwd : redD (x * b - a * y) (b * y) ≤ D := by
    rw [← s2]
    exact (red_bounds _ D (by omega)).2.2.2
  obtain ⟨t1, t2, t3, t4⟩ := red_bounds (x * b - a * y) (b * y) hT
  have hc1 := redCop (x * b - a * y) (b * y) hT
  obtain ⟨u1, u2⟩ := width_add b1 b5 b3 b4 b7 b8 b9 r2.2.2.2.2 rfl rfl
  dsimp only
  generalize redN (x * b - a * y) (b * y) = wn at *
  generalize redD (x * b - a * y) (b * y) = wd at *
  have hs : sumOk a b wn wd = true := by
    unfold sumOk
    rw [show isAng a b = true from decide_eq_true ⟨b1, b2, b3, b4, r1.2.2.2.2⟩, show isAng wn wd = true from decide_eq_true ⟨t3, by omega, t1, t2, hc1⟩]
    rfl
  obtain ⟨q1, q2, q3⟩ := sum_yes hs
  rw [q1, q2, q3, u1, u2]
  obtain ⟨k1, k2, k3⟩ := told_ok (p := x) (q := y) b6
  exact ⟨k1, k2, k3⟩
theorem wi_bad {n d : Int} (hc : poC n d ≠ 0) : wiA n d = (0, 0) := by unfold wiA; rw [if_neg hc]
/-- The orbit of the lower angle is within its limit. -/
theorem po_orbit {n d : Int} (hc : poC n d = 0) : oC (poP n d).1 (poP n d).2.1 = 0 := by
  obtain ⟨_, h2, _, hok⟩ := po_arnd hc
  obtain ⟨b1, b2, b3, b4, b5, b6, b7, b8, b9, hang, _, h8, g5, g6⟩ := po_bounds hc
  have r1 := (isLf_yes hok).1
  generalize poP n d = P at *
  obtain ⟨a, b, x, y⟩ := P
  dsimp only at *
  have hp := (per_range r1).1 (by dsimp only; rw [g5]; exact h2)
  unfold perS at hp
  unfold oC
  rw [show isAng a b = true from decide_eq_true r1]
  cases e : findOrb (a, b) 65 0 with
  | none => rw [e] at hp; dsimp only at hp; omega
  | some k => rfl
/-- The parent's wake has both angles of the pair; without a parent the depth is 0. -/
theorem pr_good {n d : Int} (hc : poC n d = 0) (h : prC n d = 0) : okP (prP n d) = true ∧ okP (poP n d) = true ∧ ltA (prP n d).1 (prP n d).2.1 (poP n d).1 (poP n d).2.1 = true ∧ ltA (poP n d).2.2.1 (poP n d).2.2.2 (prP n d).2.2.1 (prP n d).2.2.2 = true := by
  obtain ⟨_, h2, h8, hok⟩ := po_arnd hc
  rcases pr_cases n d with ⟨h1, _⟩ | ⟨_, _, _, h4⟩ | ⟨_, k, h3, h4, _⟩
  · exact absurd hc h1
  · omega
  · have hm := List.mem_of_getElem? h4
    obtain ⟨z, hz, ez, hi, okp⟩ := wk_mem (by omega) hm
    obtain ⟨ha, _⟩ := po_arnd hc
    obtain ⟨q, hq, hin, e, _⟩ := po_good ha h2
    have hq7 := upK_more (show shortP d - 1 ≤ 7 by omega) hq
    have hs := ins_same (m := 7) (by omega) hq7 hz
    rw [ez] at hs
    have h5 : insX (q.1.1, q.1.2.1) (prP n d) = true := by
      rcases (inP_iff _ _).1 hin with e2 | e2
      · rw [e2]; exact hi
      · rw [hs, e2]; exact hi
    have h6 := h5
    rw [hs] at h6
    rw [e] at hok ⊢
    exact ⟨okp, hok, (ins_low okp h5).1, (ins_low okp h6).2⟩
theorem pr_bad {n d : Int} (hc : poC n d = 0) (h : prC n d ≠ 0) : dpN n d = 0 := by
  obtain ⟨_, h2, h8, _⟩ := po_arnd hc
  unfold dpN
  rw [if_pos hc]
  rcases pr_cases n d with ⟨h1, _⟩ | ⟨_, h3, _, _⟩ | ⟨_, k, _, _, h4⟩
  · exact absurd hc h1
  · have hnil := List.length_eq_zero_iff.1 h3
    cases e : wkL (n, d) (shortP d - 1) with
    | nil => rfl
    | cons p K =>
      exfalso
      have hm : p ∈ wkL (n, d) (shortP d - 1) := by rw [e]; exact List.mem_cons_self ..
      obtain ⟨z, hz, ez, hi, _⟩ := wk_mem (by omega) hm
      have : z.1 ∈ wkL (n, d) 7 := (wkL_facts (n, d) (m := 7) (by omega)).1.mem_iff.2 (List.mem_map.2 ⟨z, List.mem_filter.2 ⟨hz, by rw [ez]; exact hi⟩, rfl⟩)
      rw [hnil] at this
      cases this
  · exact absurd h4 h

set_option maxRecDepth 8000 in
set_option maxHeartbeats 2000000 in
theorem eqPairs9 (A A' : Option Addr) (len cap cap' : Nat) (l : List Lf4) (w : World) (hr : LfRow w w.heap.size A l) (hr' : LfRow w w.heap.size A' l) (hl : l.length = len) (hm : len ≤ 4611686018427387904) :
    Calls Try.prog 36 #[.slice A len cap, .slice A' len cap'] w fun e w' => e = .returned (.bool true) ∧ Below w.heap.size w w' := by
  have HR := Lib.hid hr
  have HR' := Lib.hid hr'
  have HL := Lib.hid hl
  clear hr hr' hl
  go_enter Try.func36, Try.ntmps36
  go_wp2
  go_loopw [5] (fun i wr => ∃ k : Nat, k ≤ len ∧ i = .int .i64 k ∧ Below w.heap.size w wr) (fun i _ => len - (intOf i).toNat)
  case atStart => exact ⟨0, by omega, rfl, Below.refl _ _⟩
  case round =>
    obtain ⟨k, hk, rfl, hbe⟩ := hrel
    by_cases hlt : k < len
    · have hkl : k < l.length := by have := HL.out; omega
      obtain ⟨⟨p1, p2, p3, p4⟩, hnd⟩ : ∃ p, l[k] = p := ⟨_, rfl⟩
      have hk2 : l[k]? = some (p1, p2, p3, p4) := by rw [List.getElem?_eq_getElem hkl, hnd]
      have hne : l ≠ [] := by intro h; rw [h] at hkl; simp at hkl
      obtain ⟨b, off, rfl, hbb, hcells⟩ := HR.out hne
      obtain ⟨b', off', rfl, hbb', hcells'⟩ := HR'.out hne
      obtain ⟨a0, a1, a2, a3⟩ := hcells k p1 p2 p3 p4 hk2
      obtain ⟨b0, b1, b2, b3⟩ := hcells' k p1 p2 p3 p4 hk2
      have x0 := (hbe.cell (p := ⟨b, off + k * 4, none⟩) hbb).trans a0
      have x1 := (hbe.cell (p := ⟨b, off + k * 4 + 1, none⟩) hbb).trans a1
      have x2 := (hbe.cell (p := ⟨b, off + k * 4 + 2, none⟩) hbb).trans a2
      have x3 := (hbe.cell (p := ⟨b, off + k * 4 + 3, none⟩) hbb).trans a3
      have y0 := (hbe.cell (p := ⟨b', off' + k * 4, none⟩) hbb').trans b0
      have y1 := (hbe.cell (p := ⟨b', off' + k * 4 + 1, none⟩) hbb').trans b1
      have y2 := (hbe.cell (p := ⟨b', off' + k * 4 + 2, none⟩) hbb').trans b2
      have y3 := (hbe.cell (p := ⟨b', off' + k * 4 + 3, none⟩) hbb').trans b3
      clear a0 a1 a2 a3 b0 b1 b2 b3
      have hbw : b < wr.heap.size := Nat.lt_of_lt_of_le hbb hbe.size
      have hbw' : b' < wr.heap.size := Nat.lt_of_lt_of_le hbb' hbe.size
      have e1 : decide ((k : Int) < (len : Int)) = true := decide_eq_true (by omega)
      have hkk : (k : Int) < (len : Int) := by omega
      have HQ := fun W => neqRpSame p1 p2 p3 p4 W
      have HB : Hid (∀ q, Below w.heap.size w (wr.drewN q)) := Lib.hid (fun q => below_drewN hbe q)
      clear hnd hcells hcells' hk2 hne hbe
      go_wp2_with fail
      go_quiet (fail)
      go_wp2
      go_roundw
      case rel => exact ⟨k + 1, by omega, by go_num, by first | exact HB.out _ | (simp only [World.drewN_drewN]; exact HB.out _)⟩
      case measure => simp [intOf]; omega
    · obtain rfl : k = len := by omega
      go_wp2
      go_ret
      exact ⟨rfl, hbe⟩

set_option maxRecDepth 8000 in
set_option maxHeartbeats 4000000 in
theorem drawWidth (A : Option Addr) (n cap : Nat) (w : World) (h : CodeRow w w.heap.size A n) (hn : n ≤ 4096) :
    Calls Try.prog 28 #[.slice A n cap] w fun e w' => (∃ x y : Int, e = .returned (ang x y)) ∧ Below w.heap.size w w' := by
  have HF := Lib.hid (fun W (H : CodeRow W W.heap.size A n) => specFrom A n cap W H hn)
  have HSp := Lib.hid (fun B b W (H : Hid (SrcAt W B b A n cap)) => specDraw4 B b A n cap W H.out (by omega))
  have HR := Lib.hid (codeOn h (belowAlloc (Below.refl _ _) (.cells #[.int .i64 0, .int .i64 0] 25)))
  clear h
  go_enter Try.func28, Try.ntmps28
  go_wp2_with fail
  refine (HF.out _ HR.out).mono ?_
  rintro e w1 ⟨rfl, HS, HB⟩
  have HC := Lib.hid ((resC0 w 0 0 25).below HB.out)
  have HB2 : Hid (Below w.heap.size w w1) := Lib.hid (by have := HB.out; (repeat' (first | (with_reducible exact Below.refl _ _) | (with_reducible assumption) | (with_reducible refine belowNext ?_ (by with_reducible assumption)) | (with_reducible refine belowAlloc ?_ _) | (with_reducible refine Below.drew ?_) | (with_reducible refine below_drewN ?_ _) | (with_reducible refine Below.setCell ?_ ?_ _) | go_size | (with_reducible refine sizeOf' ?_) | (with_reducible refine sizeAdd ?_) | (dsimp only; first | (with_reducible refine sizeOf' ?_) | (with_reducible refine sizeAdd ?_)))))
  have hb : w.heap.size ≠ (w.alloc (.cells #[.int .i64 0, .int .i64 0] 25)).heap.size := by simp
  have hb0 : w.heap.size ≤ (w.alloc (.cells #[.int .i64 0, .int .i64 0] 25)).heap.size := by simp
  clear HF HR HB
  simp only [World.size_alloc] at hb hb0 HS ⊢
  generalize w.heap.size + 1 = b at *
  go_wp2_with fail
  refine (HSp.out b b _ HS).mono ?_
  rintro e w9 ⟨⟨X, Y, rfl⟩, HS, HO⟩
  have HC := Lib.hid (HC.out.one hb HO.out.1)
  have HB9 := Lib.hid (belowOne HB2.out hb0 (Nat.le_refl _) HO.out.1)
  clear HO HSp HB2
  obtain ⟨z9, c0, c1, f0, f1⟩ := HC.out
  have hB := HB9.out
  go_wp2
  have k0 : (w9.setCell ⟨w.heap.size, 0, none⟩ (.int .i64 X)).cell? ⟨w.heap.size, 0, none⟩ = some (.int .i64 X) := World.cell?_setCell_same _ _ _ c0
  have k1 : ((w9.setCell ⟨w.heap.size, 0, none⟩ (.int .i64 X)).setCell ⟨w.heap.size, 1, none⟩ (.int .i64 Y)).cell? ⟨w.heap.size, 1, none⟩ = some (.int .i64 Y) := World.cell?_setCell_same _ _ _ ((World.cell?_setCell_other _ _ _ _ (by simp)).trans c1)
  refine bodyPost_ret (v := ang X Y) (by simp [results, Try.results28, go_sem, k0, k1]) rfl ⟨⟨X, Y, rfl⟩, ?_⟩
  (repeat' (first | (with_reducible exact Below.refl _ _) | (with_reducible assumption) | (with_reducible refine belowNext ?_ (by with_reducible assumption)) | (with_reducible refine belowAlloc ?_ _) | (with_reducible refine Below.drew ?_) | (with_reducible refine below_drewN ?_ _) | (with_reducible refine Below.setCell ?_ ?_ _) | go_size | (with_reducible refine sizeOf' ?_) | (with_reducible refine sizeAdd ?_) | (dsimp only; first | (with_reducible refine sizeOf' ?_) | (with_reducible refine sizeAdd ?_))))


set_option maxRecDepth 8000 in
set_option maxHeartbeats 4000000 in
theorem drawWakes (A : Option Addr) (n cap : Nat) (w : World) (h : CodeRow w w.heap.size A n) (hn : n ≤ 4096) :
    Calls Try.prog 33 #[.slice A n cap] w fun e w' => (∃ x y m : Int, e = .returned (.tuple #[ang x y, .int .i64 m])) ∧ Below w.heap.size w w' := by
  have HF := Lib.hid (fun W (H : CodeRow W W.heap.size A n) => specFrom A n cap W H hn)
  have HSp := Lib.hid (fun B b W (H : Hid (SrcAt W B b A n cap)) => specDraw4 B b A n cap W H.out (by omega))
  have HP := Lib.hid (fun B b b2 o2 len c2 (l : List Int) W (H : SrcAt W B b A n cap) h1 h2 h3 h4 h5 h6 => specPick B b A n cap b2 o2 len c2 l W H (by omega) h1 h2 h3 h4 h5 h6)
  have HR := Lib.hid (codeOn h (belowAlloc (Below.refl _ _) (.cells #[.int .i64 0, .int .i64 0] 25)))
  clear h
  go_enter Try.func33, Try.ntmps33
  go_wp2_with fail
  refine (HF.out _ HR.out).mono ?_
  rintro e w1 ⟨rfl, HS, HB⟩
  have HC := Lib.hid ((resC0 w 0 0 25).below HB.out)
  have HB2 : Hid (Below w.heap.size w w1) := Lib.hid (by have := HB.out; (repeat' (first | (with_reducible exact Below.refl _ _) | (with_reducible assumption) | (with_reducible refine belowNext ?_ (by with_reducible assumption)) | (with_reducible refine belowAlloc ?_ _) | (with_reducible refine Below.drew ?_) | (with_reducible refine below_drewN ?_ _) | (with_reducible refine Below.setCell ?_ ?_ _) | go_size | (with_reducible refine sizeOf' ?_) | (with_reducible refine sizeAdd ?_) | (dsimp only; first | (with_reducible refine sizeOf' ?_) | (with_reducible refine sizeAdd ?_)))))
  have hb : w.heap.size ≠ (w.alloc (.cells #[.int .i64 0, .int .i64 0] 25)).heap.size := by simp
  have hb0 : w.heap.size ≤ (w.alloc (.cells #[.int .i64 0, .int .i64 0] 25)).heap.size := by simp
  clear HF HR HB
  simp only [World.size_alloc] at hb hb0 HS ⊢
  generalize w.heap.size + 1 = b at *
  go_wp2_with fail
  refine (HSp.out b b _ HS).mono ?_
  rintro e w2 ⟨⟨X, Y, rfl⟩, HS, HO⟩
  have HC := Lib.hid (HC.out.one hb HO.out.1)
  have HB3 := Lib.hid (belowOne HB2.out hb0 (Nat.le_refl _) HO.out.1)
  have zz : b < w2.heap.size := HS.out.z
  clear HO HSp HB2
  go_wp2_with fail
  refine (HP.out b b w2.heap.size 0 8 8 [2, 3, 4, 5, 6, 7, 8, 9] _ (HS.out.on (belowAlloc (Below.refl _ _) _)) rfl (by omega) (by omega) (by simp) (by omega) (fun i x hi => ?_)).mono ?_
  · match i, hi with
    | 0, hi | 1, hi | 2, hi | 3, hi | 4, hi | 5, hi | 6, hi | 7, hi => simp at hi; subst hi; simp [go_sem]
    | j + 8, hi => simp at hi
  rintro e w9 ⟨⟨m, rfl, _⟩, HS, HO⟩
  have HC := Lib.hid ((HC.out.below (belowAlloc (Below.refl _ _) _)).one hb HO.out.1)
  have HB9 := Lib.hid (belowOne (belowAlloc HB3.out _) hb0 (Nat.le_refl _) HO.out.1)
  clear HO HP HB3
  obtain ⟨z9, c0, c1, f0, f1⟩ := HC.out
  have hB := HB9.out
  go_wp2
  have k0 : (w9.setCell ⟨w.heap.size, 0, none⟩ (.int .i64 X)).cell? ⟨w.heap.size, 0, none⟩ = some (.int .i64 X) := World.cell?_setCell_same _ _ _ c0
  have k1 : ((w9.setCell ⟨w.heap.size, 0, none⟩ (.int .i64 X)).setCell ⟨w.heap.size, 1, none⟩ (.int .i64 Y)).cell? ⟨w.heap.size, 1, none⟩ = some (.int .i64 Y) := World.cell?_setCell_same _ _ _ ((World.cell?_setCell_other _ _ _ _ (by simp)).trans c1)
  refine bodyPost_ret (v := .tuple #[ang X Y, .int .i64 m]) (by simp [results, Try.results33, go_sem, k0, k1]) rfl ⟨⟨X, Y, m, rfl⟩, ?_⟩
  (repeat' (first | (with_reducible exact Below.refl _ _) | (with_reducible assumption) | (with_reducible refine belowNext ?_ (by with_reducible assumption)) | (with_reducible refine belowAlloc ?_ _) | (with_reducible refine Below.drew ?_) | (with_reducible refine below_drewN ?_ _) | (with_reducible refine Below.setCell ?_ ?_ _) | go_size | (with_reducible refine sizeOf' ?_) | (with_reducible refine sizeAdd ?_) | (dsimp only; first | (with_reducible refine sizeOf' ?_) | (with_reducible refine sizeAdd ?_))))

set_option maxRecDepth 8000 in
set_option maxHeartbeats 4000000 in
theorem drawCount (A : Option Addr) (n cap : Nat) (w : World) (h : CodeRow w w.heap.size A n) (hn : n ≤ 4096) :
    Calls Try.prog 41 #[.slice A n cap] w fun e w' => (∃ m : Int, e = .returned (.int .i64 m)) ∧ Below w.heap.size w w' := by
  have HF := Lib.hid (specFrom A n cap w h hn)
  have HN := Lib.hid (fun (m : Int) W (H : Hid (SrcAt W w.heap.size w.heap.size A n cap)) (hm : m ≤ 1000000) => specNext w.heap.size w.heap.size A n cap m W H.out (by omega) (by omega))
  clear h
  go_enter Try.func41, Try.ntmps41
  go_wp2_with fail
  refine HF.out.mono ?_
  rintro e w1 ⟨rfl, HS, HB⟩
  clear HF
  go_wp2_with fail
  refine (HN.out 9 _ HS (by omega)).mono ?_
  rintro e w2 ⟨⟨r, rfl, hr⟩, HS, HO⟩
  have HB := Lib.hid (belowOne HB.out (Nat.le_refl _) (Nat.le_refl _) HO.out.1)
  clear HO HN
  go_wp2
  go_ret
  exact ⟨⟨_, rfl⟩, HB.out⟩
end Go.Proofs.Ytnciiodgkanpjaa

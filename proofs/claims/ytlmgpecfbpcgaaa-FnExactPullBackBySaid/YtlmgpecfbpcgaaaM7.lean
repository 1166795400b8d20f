/-
  Contracts: the first leaf of which no other one is longer.
-/
import Derived.Test.YtlmgpecfbpcgaaaV8
import Derived.Test.YtlmgpecfbpcgaaaV22
import Derived.Test.YtlmgpecfbpcgaaaV18
import Derived.Test.YtlmgpecfbpcgaaaV24
namespace Go.Proofs.Ytlmgpecfbpcgaaa
open Go.RowKit

theorem cmpI_gt (x y : Int) : decide (0 < cmpI x y) = decide (y < x) := by
  unfold cmpI
  rw [decide_eq_decide]
  split
  · omega
  · split <;> omega
/-- The first one is shorter. -/
def lngB (m x : Lf4) : Bool := ltA (dsN m.1 m.2.1 m.2.2.1 m.2.2.2) (dsD m.1 m.2.1 m.2.2.1 m.2.2.2) (dsN x.1 x.2.1 x.2.2.1 x.2.2.2) (dsD x.1 x.2.1 x.2.2.1 x.2.2.2)
/-- The first leaf of which no other one is longer. -/
def bestL : Lf4 → List Lf4 → Lf4
  | m, [] => m
  | m, x :: t => bestL (if lngB m x then x else m) t
theorem best_end {l : List Lf4} {k : Nat} {m : Lf4} (h : l.length ≤ k) : bestL m (l.drop k) = m := by
  rw [List.drop_eq_nil_of_le h]; rfl
theorem best_yes {l : List Lf4} {k : Nat} {m x : Lf4} (hx : l[k]? = some x) (h : lngB m x = true) : bestL m (l.drop k) = bestL x (l.drop (k + 1)) := by
  have hk : k < l.length := by
    rcases Nat.lt_or_ge k l.length with h1 | h1
    · exact h1
    · rw [List.getElem?_eq_none h1] at hx; cases hx
  rw [List.drop_eq_getElem_cons hk]
  have e : l[k] = x := by rw [List.getElem?_eq_getElem hk] at hx; injection hx
  rw [e]
  show bestL (if lngB m x then x else m) _ = _
  rw [h]; rfl
theorem best_no {l : List Lf4} {k : Nat} {m x : Lf4} (hx : l[k]? = some x) (h : lngB m x = false) : bestL m (l.drop k) = bestL m (l.drop (k + 1)) := by
  have hk : k < l.length := by
    rcases Nat.lt_or_ge k l.length with h1 | h1
    · exact h1
    · rw [List.getElem?_eq_none h1] at hx; cases hx
  rw [List.drop_eq_getElem_cons hk]
  have e : l[k] = x := by rw [List.getElem?_eq_getElem hk] at hx; injection hx
  rw [e]
  show bestL (if lngB m x then x else m) _ = _
  rw [h]; rfl

/-- What holds when k leaves have been looked at; rb: the result's box, bb: the box of the best one. -/
structure LgSt (w : World) (rb bb : Nat) (l : List Lf4) (x0 : Lf4) (k : Nat) (m : Lf4) (wr : World) : Prop where
  cs : Cells4 wr bb 0 m.1 m.2.1 m.2.2.1 m.2.2.2
  fs : Free4 wr bb 0
  rs : Cells4 wr rb 0 0 0 0 0
  rf : Free4 wr rb 0
  z : bb < wr.heap.size
  B : Below w.heap.size w wr
  g : isLfX m = true
  e : bestL m (l.drop k) = bestL x0 (l.drop 1)
theorem LgSt.next {w wr W : World} {rb bb : Nat} {l : List Lf4} {x0 m : Lf4} {k : Nat} (h : LgSt w rb bb l x0 k m wr) (hr : rb < bb) (hb : Below wr.heap.size wr W) : LgSt w rb bb l x0 k m W :=
  ⟨h.cs.next hb h.z, h.fs.next hb h.z, h.rs.next hb (Nat.lt_trans hr h.z), h.rf.next hb (Nat.lt_trans hr h.z), Nat.lt_of_lt_of_le h.z hb.size, belowNext h.B hb, h.g, h.e⟩
/-- What is kept on the way: all but the place. -/
theorem LgSt.step {w wr : World} {rb bb : Nat} {l : List Lf4} {x0 m x : Lf4} {k : Nat} (h : LgSt w rb bb l x0 k m wr) (hx : l[k]? = some x) (hl : lngB m x = false) : LgSt w rb bb l x0 (k + 1) m wr :=
  ⟨h.cs, h.fs, h.rs, h.rf, h.z, h.B, h.g, by rw [← best_no hx hl]; exact h.e⟩
theorem drop_one (x : Lf4) (t : List Lf4) : bestL x ((x :: t).drop 1) = bestL x t := rfl

set_option maxHeartbeats 4000000 in
theorem implMax (A : Option Addr) (len cap : Nat) (l : List Lf4) (x0 : Lf4) (w : World) (hr : LfRow w w.heap.size A l) (hl : l.length = len) (hm : len ≤ 1000000000000) (h0 : l[0]? = some x0) (hA : allLf l = true) :
    Calls Try.prog 55 #[.slice A len cap, .func (Fn.func 56) #[] #[]] w fun e w' => e = .returned (leafV (bestL x0 (l.drop 1)).1 (bestL x0 (l.drop 1)).2.1 (bestL x0 (l.drop 1)).2.2.1 (bestL x0 (l.drop 1)).2.2.2) ∧ Below w.heap.size w w' := by
  have HR := Lib.hid hr
  have HL := Lib.hid hl
  have HA := Lib.hid hA
  have hpos : 0 < len := by
    rcases Nat.lt_or_ge 0 l.length with h1 | h1
    · omega
    · rw [List.getElem?_eq_none h1] at h0; cases h0
  have hne : l ≠ [] := by intro h; rw [h] at h0; simp at h0
  obtain ⟨b', off, rfl, hbb, hcells⟩ := row_at hr hne
  obtain ⟨a, b, c, d⟩ := x0
  have HG : Hid (isLfX (a, b, c, d) = true) := Lib.hid (allLf_at hA h0)
  have HC := Lib.hid hcells
  obtain ⟨x0, x1, x2, x3⟩ := hcells 0 a b c d h0
  have hp1 : ¬ ((len : Int) < 1) := by omega
  simp only [Nat.zero_mul, Nat.add_zero] at x0 x1 x2 x3
  clear hr hl hA h0 hne hcells
  go_enter Try.func55, Try.ntmps55
  go_wp2
  have hst : LgSt w w.heap.size (w.heap.size + 1) l (a, b, c, d) 1 (a, b, c, d) ((w.alloc (.cells #[.int .i64 0, .int .i64 0, .int .i64 0, .int .i64 0] 34)).alloc (.cells #[.int .i64 a, .int .i64 b, .int .i64 c, .int .i64 d] 34)) := by
    refine ⟨⟨by simp [go_sem], by simp [go_sem], by simp [go_sem], by simp [go_sem]⟩, ⟨by simp [go_sem], by simp [go_sem], by simp [go_sem], by simp [go_sem]⟩, ⟨by simp [go_sem], by simp [go_sem], by simp [go_sem], by simp [go_sem]⟩, ⟨by simp [go_sem], by simp [go_sem], by simp [go_sem], by simp [go_sem]⟩, by simp, ?_, HG.out, rfl⟩
    (repeat' (first | (with_reducible exact Below.refl _ _) | (with_reducible assumption) | (with_reducible refine belowNext ?_ (by with_reducible assumption)) | (with_reducible refine belowAlloc ?_ _) | (with_reducible refine Below.drew ?_) | (with_reducible refine below_drewN ?_ _) | (with_reducible refine Below.setCell ?_ ?_ _) | go_size | (with_reducible refine sizeOf' ?_) | (with_reducible refine sizeAdd ?_) | (dsimp only; first | (with_reducible refine sizeOf' ?_) | (with_reducible refine sizeAdd ?_))))
  have HS := Lib.hid hst
  clear hst x0 x1 x2 x3
  go_loopw [6] (fun i wr => ∃ (k : Nat) (m : Lf4), k ≤ len ∧ i = .int .i64 k ∧ Hid (LgSt w w.heap.size (w.heap.size + 1) l (a, b, c, d) k m wr)) (fun i _ => len - (intOf i).toNat)
  case atStart => exact ⟨1, _, by omega, rfl, HS⟩
  case round =>
    obtain ⟨k, ⟨m1, m2, m3, m4⟩, hk, rfl, H⟩ := hrel
    obtain ⟨⟨y0, y1, y2, y3⟩, ⟨f0, f1, f2, f3⟩, ⟨z0, z1, z2, z3⟩, ⟨g0, g1, g2, g3⟩, hz, hB, hG, hE⟩ := id H.out
    dsimp only at y0 y1 y2 y3
    simp only [Nat.zero_add] at y0 y1 y2 y3 f0 f1 f2 f3 z0 z1 z2 z3 g0 g1 g2 g3
    by_cases hlt : k < len
    · obtain ⟨n, d', m', c', hx⟩ := lfAt (l := l) (k := k) (by have := HL.out; omega)
      obtain ⟨x0, x1, x2, x3⟩ := (HC.out k n d' m' c' hx).next hB hbb
      obtain ⟨r1, r2, -⟩ := isLf_yes (allLf_at HA.out hx)
      obtain ⟨r3, r4, -⟩ := isLf_yes hG
      have HF := Lib.hid (fun W => implCmpLen n d' m' c' m1 m2 m3 m4 W (okOf r1) (okOf r2) (okOf r3) (okOf r4))
      have HD : Hid (lngB (m1, m2, m3, m4) (n, d', m', c') = decide (0 < cmpI (dsN n d' m' c' * dsD m1 m2 m3 m4) (dsN m1 m2 m3 m4 * dsD n d' m' c'))) := Lib.hid (by rw [cmpI_gt]; rfl)
      have HX := Lib.hid hx
      have hGx : Hid (isLfX (n, d', m', c') = true) := Lib.hid (allLf_at HA.out hx)
      clear hx r1 r2 r3 r4 hG hE
      generalize cmpI (dsN n d' m' c' * dsD m1 m2 m3 m4) (dsN m1 m2 m3 m4 * dsD n d' m' c') = C at *
      go_wp2_with fail
      go_region_with (first | (go_at_call 56; (with_reducible refine (HF.out _).mono ?_); rintro e w3 ⟨rfl, hb3⟩))
      all_goals
        have H3 := Lib.hid (H.out.next (W := w3) (by omega) (show Below wr.heap.size wr w3 by (repeat' (first | (with_reducible exact Below.refl _ _) | (with_reducible assumption) | (with_reducible refine belowNext ?_ (by with_reducible assumption)) | (with_reducible refine belowAlloc ?_ _) | (with_reducible refine Below.drew ?_) | (with_reducible refine below_drewN ?_ _) | (with_reducible refine Below.setCell ?_ ?_ _) | go_size | (with_reducible refine sizeOf' ?_) | (with_reducible refine sizeAdd ?_) | (dsimp only; first | (with_reducible refine sizeOf' ?_) | (with_reducible refine sizeAdd ?_))))))
        clear x0 x1 x2 x3 y0 y1 y2 y3 f0 f1 f2 f3 z0 z1 z2 z3 g0 g1 g2 g3 hb3 hB hz H HF HR HS HG hp1
        obtain ⟨⟨y0, y1, y2, y3⟩, ⟨f0, f1, f2, f3⟩, ⟨z0, z1, z2, z3⟩, ⟨g0, g1, g2, g3⟩, hz, hB, hG, hE⟩ := id H3.out
        dsimp only at y0 y1 y2 y3
        simp only [Nat.zero_add] at y0 y1 y2 y3 f0 f1 f2 f3 z0 z1 z2 z3 g0 g1 g2 g3
        by_cases hc : 0 < C
        · have HT : Hid (lngB (m1, m2, m3, m4) (n, d', m', c') = true) := Lib.hid (by rw [HD.out, decide_eq_true hc])
          have HE : Hid (bestL (n, d', m', c') (l.drop (k + 1)) = bestL (a, b, c, d) (l.drop 1)) := Lib.hid (by rw [← best_yes HX.out HT.out]; exact hE)
          clear hE hG
          obtain ⟨x0, x1, x2, x3⟩ := (HC.out k n d' m' c' HX.out).next hB hbb
          go_wp2
          go_roundw
          case rel =>
            refine ⟨k + 1, (n, d', m', c'), by omega, by go_num, Lib.hid ⟨⟨by simp [go_sem, y0], by simp [go_sem, y1], by simp [go_sem, y2], by simp [go_sem, y3]⟩, ⟨by simp [go_sem, f0], by simp [go_sem, f1], by simp [go_sem, f2], by simp [go_sem, f3]⟩, ⟨by simp [go_sem, z0], by simp [go_sem, z1], by simp [go_sem, z2], by simp [go_sem, z3]⟩, ⟨by simp [go_sem, g0], by simp [go_sem, g1], by simp [go_sem, g2], by simp [go_sem, g3]⟩, by simp; omega, ?_, hGx.out, HE.out⟩⟩
            (repeat' (first | (with_reducible exact Below.refl _ _) | (with_reducible assumption) | (with_reducible refine belowNext ?_ (by with_reducible assumption)) | (with_reducible refine belowAlloc ?_ _) | (with_reducible refine Below.drew ?_) | (with_reducible refine below_drewN ?_ _) | (with_reducible refine Below.setCell ?_ ?_ _) | go_size | (with_reducible refine sizeOf' ?_) | (with_reducible refine sizeAdd ?_) | (dsimp only; first | (with_reducible refine sizeOf' ?_) | (with_reducible refine sizeAdd ?_))))
          case measure => simp [intOf]; omega
        · have HT : Hid (lngB (m1, m2, m3, m4) (n, d', m', c') = false) := Lib.hid (by rw [HD.out, decide_eq_false hc])
          have HQ := Lib.hid (H3.out.step HX.out HT.out)
          clear hE hG hB hz y0 y1 y2 y3 f0 f1 f2 f3 z0 z1 z2 z3 g0 g1 g2 g3
          go_wp2
          go_roundw
          case rel => exact ⟨k + 1, _, by omega, by go_num, HQ⟩
          case measure => simp [intOf]; omega
    · have HN := Lib.hid (best_end (l := l) (k := k) (m := (m1, m2, m3, m4)) (by have := HL.out; omega))
      have HE := Lib.hid (HN.out.symm.trans hE)
      clear hE hG
      go_wp2
      refine bodyPost_ret (v := leafV m1 m2 m3 m4) (by simp [results, Try.results55, go_sem, z0, z1, z2, z3]) rfl ⟨by rw [← HE.out], ?_⟩
      (repeat' (first | (with_reducible exact Below.refl _ _) | (with_reducible assumption) | (with_reducible refine belowNext ?_ (by with_reducible assumption)) | (with_reducible refine belowAlloc ?_ _) | (with_reducible refine Below.drew ?_) | (with_reducible refine below_drewN ?_ _) | (with_reducible refine Below.setCell ?_ ?_ _) | go_size | (with_reducible refine sizeOf' ?_) | (with_reducible refine sizeAdd ?_) | (dsimp only; first | (with_reducible refine sizeOf' ?_) | (with_reducible refine sizeAdd ?_))))
end Go.Proofs.Ytlmgpecfbpcgaaa

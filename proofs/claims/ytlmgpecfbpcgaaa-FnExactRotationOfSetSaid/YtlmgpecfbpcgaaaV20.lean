/-
  Contracts: the order of leaves on the program's side; lists in strictly ascending order.
-/
import Derived.Test.YtlmgpecfbpcgaaaV17
import Derived.Deep.RegionHeld3
namespace Go.Proofs.Ytlmgpecfbpcgaaa
open Go.RowKit

set_option maxHeartbeats 1000000 in
theorem orInt (b off cap : Nat) (x y : Int) (w : World) (hx : w.cell? ⟨b, off, none⟩ = some (.int .i64 x)) (hy : w.cell? ⟨b, off + 1, none⟩ = some (.int .i64 y)) :
    Calls Try.prog 124 #[.slice (some ⟨b, off, none⟩) 2 cap] w fun e w' => e = .returned (.int .i64 (if x = 0 then y else x)) ∧ w = w' := by
  have E : Hid ((x = 0 → (if x = 0 then y else x) = y) ∧ (x ≠ 0 → (if x = 0 then y else x) = x)) := Lib.hid ⟨fun h => if_pos h, fun h => if_neg h⟩
  generalize (if x = 0 then y else x) = R at *
  go_enter Try.func124, Try.ntmps124
  go_wp2
  go_loop [8] (fun i => i = .int .i64 0 ∨ (i = .int .i64 1 ∧ x = 0) ∨ (i = .int .i64 2 ∧ x = 0 ∧ y = 0)) (fun i => 2 - (intOf i).toNat)
  case atStart => exact .inl rfl
  case round =>
    rcases hrel with rfl | ⟨rfl, h⟩ | ⟨rfl, h, h'⟩
    · by_cases h : x = 0
      · have hb : (x != 0) = false := by rw [h]; rfl
        have hb' : (x == 0) = true := by rw [h]; rfl
        go_wp2
        go_round
        case rel => exact .inr (.inl ⟨by go_num, h⟩)
        case measure => simp [intOf]
      · have hb : (x != 0) = true := by rw [bne_iff_ne]; exact h
        have hb' : (x == 0) = false := beq_eq_false_iff_ne.2 h
        have e := E.out.2 h
        subst e
        go_wp2
        go_ret
        exact ⟨rfl, rfl⟩
    · by_cases h' : y = 0
      · have hb : (y != 0) = false := by rw [h']; rfl
        have hb' : (y == 0) = true := by rw [h']; rfl
        go_wp2
        go_round
        case rel => exact .inr (.inr ⟨by go_num, h, h'⟩)
        case measure => simp [intOf]
      · have hb : (y != 0) = true := by rw [bne_iff_ne]; exact h'
        have hb' : (y == 0) = false := beq_eq_false_iff_ne.2 h'
        have e := E.out.1 h
        subst e
        go_wp2
        go_ret
        exact ⟨rfl, rfl⟩
    · have e := (E.out.1 h).trans h'
      subst e
      go_wp2
      go_ret
      exact ⟨rfl, rfl⟩

theorem orInt' (R : Int) (b off cap : Nat) (x y : Int) (w : World) (hR : Hid (R = if x = 0 then y else x)) (hx : w.cell? ⟨b, off, none⟩ = some (.int .i64 x)) (hy : w.cell? ⟨b, off + 1, none⟩ = some (.int .i64 y)) :
    Calls Try.prog 124 #[.slice (some ⟨b, off, none⟩) 2 cap] w fun e w' => e = .returned (.int .i64 R) ∧ w = w' := by
  rw [hR.out]
  exact orInt b off cap x y w hx hy

/-- The order of leaves, as the program tells it. -/
def cmpL (a b c d e f g h : Int) : Int := if cmpI (a * f) (e * b) = 0 then cmpI (c * h) (g * d) else cmpI (a * f) (e * b)
theorem lfAt {l : List Lf4} {k : Nat} (h : k < l.length) : ∃ a b e f, l[k]? = some (a, b, e, f) := ⟨l[k].1, l[k].2.1, l[k].2.2.1, l[k].2.2.2, by rw [List.getElem?_eq_getElem h]⟩
theorem cmpI_zero {x y : Int} (h : cmpI x y = 0) : x = y := by
  unfold cmpI at h
  split at h
  · omega
  · split at h <;> omega
theorem cmpI_same (x : Int) : cmpI x x = 0 := by unfold cmpI; rw [if_neg (by omega), if_neg (by omega)]

set_option maxHeartbeats 2000000 in
theorem implCmpL (a b c d e f g h : Int) (w : World) (h1 : angOk a b) (h2 : angOk c d) (h3 : angOk e f) (h4 : angOk g h) :
    Calls Try.prog 94 #[leafV a b c d, leafV e f g h] w fun e' w' => e' = .returned (.int .i64 (cmpL a b c d e f g h)) ∧ Below w.heap.size w w' := by
  have H1 := Lib.hid (fun w => cmpAng a b e f w h1 h3)
  have H2 := Lib.hid (fun w => cmpAng c d g h w h2 h4)
  have E : Hid (cmpL a b c d e f g h = if cmpI (a * f) (e * b) = 0 then cmpI (c * h) (g * d) else cmpI (a * f) (e * b)) := Lib.hid rfl
  clear h1 h2 h3 h4
  generalize cmpL a b c d e f g h = R at *
  generalize cmpI (a * f) (e * b) = U at *
  generalize cmpI (c * h) (g * d) = V at *
  go_enter Try.func94, Try.ntmps94
  go_wp2_with fail
  go_region_held3 (fun w' => w.heap.size + 1 < w'.heap.size ∧ Below w.heap.size w w' ∧ w'.cell? ⟨w.heap.size, 0, none⟩ = some (.int .i64 a) ∧ w'.cell? ⟨w.heap.size, 1, none⟩ = some (.int .i64 b) ∧ w'.cell? ⟨w.heap.size, 2, none⟩ = some (.int .i64 c) ∧ w'.cell? ⟨w.heap.size, 3, none⟩ = some (.int .i64 d) ∧
      w'.cell? ⟨w.heap.size + 1, 0, none⟩ = some (.int .i64 e) ∧ w'.cell? ⟨w.heap.size + 1, 1, none⟩ = some (.int .i64 f) ∧ w'.cell? ⟨w.heap.size + 1, 2, none⟩ = some (.int .i64 g) ∧ w'.cell? ⟨w.heap.size + 1, 3, none⟩ = some (.int .i64 h))
      (first | assumption | exact box8 (by assumption) (by assumption) | exact box8 (Below.refl _ _).drew (by assumption) | exact box8 (belowAlloc (Below.refl _ _) _) (by assumption) | (refine ⟨by simp, ?_, by simp [go_sem], by simp [go_sem], by simp [go_sem], by simp [go_sem], by simp [go_sem], by simp [go_sem], by simp [go_sem], by simp [go_sem]⟩; (repeat' (first | (with_reducible exact Below.refl _ _) | (with_reducible assumption) | (with_reducible refine belowNext ?_ (by with_reducible assumption)) | (with_reducible refine belowAlloc ?_ _) | (with_reducible refine Below.drew ?_) | (with_reducible refine below_drewN ?_ _) | (with_reducible refine Below.setCell ?_ ?_ _) | go_size | (with_reducible refine sizeOf' ?_) | (with_reducible refine sizeAdd ?_) | (dsimp only; first | (with_reducible refine sizeOf' ?_) | (with_reducible refine sizeAdd ?_))))))
      (first
      | (go_at_call 90; (with_reducible refine (H1.out _).mono ?_); rintro e' w1 ⟨rfl, hb1⟩; have hS1 := box8 hb1 (by assumption))
      | (go_at_call 90; (with_reducible refine (H2.out _).mono ?_); rintro e' w2 ⟨rfl, hb2⟩; have hS2 := box8 hb2 (by assumption))
      | (go_at_call 124; refine (orInt' R _ 0 _ U V _ E (by simp [go_sem]) (by simp [go_sem])).mono ?_; rintro e' w3 ⟨rfl, rfl⟩))
  all_goals
    rename_i hHeld
    have hB := hS2.2.1
    go_wp2
    go_ret
    refine ⟨rfl, ?_⟩
    first | assumption | (repeat' (first | (with_reducible exact Below.refl _ _) | (with_reducible assumption) | (with_reducible refine belowNext ?_ (by with_reducible assumption)) | (with_reducible refine belowAlloc ?_ _) | (with_reducible refine Below.drew ?_) | (with_reducible refine below_drewN ?_ _) | (with_reducible refine Below.setCell ?_ ?_ _) | go_size | (with_reducible refine sizeOf' ?_) | (with_reducible refine sizeAdd ?_) | (dsimp only; first | (with_reducible refine sizeOf' ?_) | (with_reducible refine sizeAdd ?_))))

theorem lessX_cmp {a b c d e f g h : Int} (r1 : Red (a, b)) (_r2 : Red (c, d)) (r3 : Red (e, f)) (_r4 : Red (g, h)) : decide (cmpL a b c d e f g h < 0) = (if eqA a b e f then ltA c d g h else ltA a b e f) := by
  unfold cmpL
  cases hq : eqA a b e f
  · have hn : ¬ cmpI (a * f) (e * b) = 0 := fun h => ne_of_red r1 r3 hq (cmpI_zero h)
    rw [if_neg hn, ← ltA_cmp]
    rfl
  · obtain ⟨rfl, rfl⟩ := (eqA_iff _ _ _ _).1 hq
    rw [if_pos (cmpI_same _), ← ltA_cmp]
    rfl
theorem cmpL_range (a b c d e f g h : Int) : -1 ≤ cmpL a b c d e f g h ∧ cmpL a b c d e f g h ≤ 1 := by
  unfold cmpL
  split <;> exact cmpI_range _ _

/-- Two leaves in rows, kept. -/
theorem rows8g {w W w1 : World} {b b' o o' : Nat} {n d m c n' d' m' c' : Int} (hb : Below W.heap.size W w1) (hx : b < w.heap.size) (hy : b' < w.heap.size)
    (H : Below w.heap.size w W ∧ W.cell? ⟨b, o, none⟩ = some (.int .i64 n) ∧ W.cell? ⟨b, o + 1, none⟩ = some (.int .i64 d) ∧ W.cell? ⟨b, o + 2, none⟩ = some (.int .i64 m) ∧ W.cell? ⟨b, o + 3, none⟩ = some (.int .i64 c) ∧
      W.cell? ⟨b', o', none⟩ = some (.int .i64 n') ∧ W.cell? ⟨b', o' + 1, none⟩ = some (.int .i64 d') ∧ W.cell? ⟨b', o' + 2, none⟩ = some (.int .i64 m') ∧ W.cell? ⟨b', o' + 3, none⟩ = some (.int .i64 c')) :
    Below w.heap.size w w1 ∧ w1.cell? ⟨b, o, none⟩ = some (.int .i64 n) ∧ w1.cell? ⟨b, o + 1, none⟩ = some (.int .i64 d) ∧ w1.cell? ⟨b, o + 2, none⟩ = some (.int .i64 m) ∧ w1.cell? ⟨b, o + 3, none⟩ = some (.int .i64 c) ∧
      w1.cell? ⟨b', o', none⟩ = some (.int .i64 n') ∧ w1.cell? ⟨b', o' + 1, none⟩ = some (.int .i64 d') ∧ w1.cell? ⟨b', o' + 2, none⟩ = some (.int .i64 m') ∧ w1.cell? ⟨b', o' + 3, none⟩ = some (.int .i64 c') := by
  obtain ⟨hB, h0, h1, h2, h3, h4, h5, h6, h7⟩ := H
  have hx := Nat.lt_of_lt_of_le hx hB.size
  have hy := Nat.lt_of_lt_of_le hy hB.size
  exact ⟨belowNext hB hb, cellThru hb hx h0, cellThru hb hx h1, cellThru hb hx h2, cellThru hb hx h3, cellThru hb hy h4, cellThru hb hy h5, cellThru hb hy h6, cellThru hb hy h7⟩

/-- A leaf comes before another one. -/
def lessX (x y : Lf4) : Bool := if eqA x.1 x.2.1 y.1 y.2.1 then ltA x.2.2.1 x.2.2.2 y.2.2.1 y.2.2.2 else ltA x.1 x.2.1 y.1 y.2.1
/-- Each leaf comes behind the one before it. -/
def Asc (l : List Lf4) : Prop := ∀ (i : Nat) (x y : Lf4), l[i]? = some x → l[i + 1]? = some y → lessX x y = true

set_option maxHeartbeats 2000000 in
theorem ascLf (A : Option Addr) (len cap : Nat) (l : List Lf4) (w : World) (hr : LfRow w w.heap.size A l) (hl : l.length = len) (hm : len ≤ 1000000000000) (hA : allLf l = true) :
    Calls Try.prog 93 #[.slice A len cap, .func (Fn.func 94) #[] #[]] w fun e w' => (∃ r : Bool, e = .returned (.bool r) ∧ Hid (r = true ↔ Asc l)) ∧ Below w.heap.size w w' := by
  have HR := Lib.hid hr
  have HL := Lib.hid hl
  have HA := Lib.hid hA
  clear hr hl hA
  go_enter Try.func93, Try.ntmps93
  go_wp2
  go_loopw [5] (fun i wr => ∃ k : Nat, 1 ≤ k ∧ (k ≤ len ∨ k = 1) ∧ i = .int .i64 k ∧ Hid (∀ (j : Nat) (x y : Lf4), j + 1 < k → l[j]? = some x → l[j + 1]? = some y → lessX x y = true) ∧ Below w.heap.size w wr) (fun i _ => len - (intOf i).toNat)
  case atStart => exact ⟨1, by omega, by omega, rfl, Lib.hid (fun j x y h => absurd h (by omega)), Below.refl _ _⟩
  case round =>
    obtain ⟨k, hk1, hk, rfl, HY, hbe⟩ := hrel
    by_cases hlt : k < len
    · obtain ⟨q, hq⟩ : ∃ q : Nat, k = q + 1 := ⟨k - 1, by omega⟩
      have hk2 : ((k : Int) - 1) = (q : Int) := by omega
      have hw : IntKind.i64.wrap (q : Int) = (q : Int) := IntWalk.i64_in _ (by omega)
      have hql : q < len := by omega
      obtain ⟨n, d, m, c, hx⟩ := lfAt (l := l) (k := q) (by have := HL.out; omega)
      obtain ⟨n', d', m', c', hy⟩ := lfAt (l := l) (k := k) (by have := HL.out; omega)
      have hne : l ≠ [] := by intro h; rw [h] at hx; simp at hx
      obtain ⟨b, off, rfl, hbb, hcells⟩ := row_at HR.out hne
      obtain ⟨x0, x1, x2, x3⟩ := (hcells q n d m c hx).next hbe hbb
      obtain ⟨y0, y1, y2, y3⟩ := (hcells k n' d' m' c' hy).next hbe hbb
      obtain ⟨r1, r2, -⟩ := isLf_yes (allLf_at HA.out hx)
      obtain ⟨r3, r4, -⟩ := isLf_yes (allLf_at HA.out hy)
      have HC := Lib.hid (fun w => implCmpL n d m c n' d' m' c' w (okOf r1) (okOf r2) (okOf r3) (okOf r4))
      have HE := Lib.hid (lessX_cmp r1 r2 r3 r4)
      have hrg := cmpL_range n d m c n' d' m' c'
      generalize cmpL n d m c n' d' m' c' = R at *
      have HX := Lib.hid hx
      have HZ := Lib.hid hy
      have hbw : b < wr.heap.size := Nat.lt_of_lt_of_le hbb hbe.size
      have hbwd : b < wr.drew.heap.size := hbw
      have HK := Lib.hid hq
      clear hcells hne hx hy r1 r2 r3 r4 hq
      by_cases hR : R < 0
      · have HL1 : Hid (lessX (n, d, m, c) (n', d', m', c') = true) := Lib.hid (by
          have := HE.out
          rw [decide_eq_true hR] at this
          exact this.symm)
        go_wp2_with fail
        go_region_with (first | (go_at_call 94; (with_reducible refine (HC.out _).mono ?_); rintro e w1 ⟨rfl, hb1⟩))
        all_goals
          have hB : Below w.heap.size w w1 := belowNext hbe.drew hb1
          clear x0 x1 x2 x3 y0 y1 y2 y3 hb1 hbe
          go_wp2
          go_roundw
          case rel =>
            refine ⟨k + 1, by omega, by omega, by go_num, Lib.hid (fun j x y hj hx hy => ?_), hB⟩
            by_cases hjk : j + 1 = k
            · have hq := HK.out
              obtain rfl : q = j := by omega
              have p1 := HX.out
              have p2 := HZ.out
              rw [← hjk] at p2
              rw [p1] at hx
              rw [p2] at hy
              injection hx with hx
              injection hy with hy
              rw [← hx, ← hy]
              exact HL1.out
            · exact HY.out j x y (by omega) hx hy
          case measure => simp [intOf]; omega
      · have HQ : Hid (¬ Asc l) := Lib.hid (fun h => by
          have p := h q _ _ HX.out (by rw [← HK.out]; exact HZ.out)
          have := HE.out
          rw [decide_eq_false hR] at this
          exact absurd (this.trans p) (by simp))
        go_wp2_with fail
        go_region_with (first | (go_at_call 94; (with_reducible refine (HC.out _).mono ?_); rintro e w1 ⟨rfl, hb1⟩))
        all_goals
          have hB : Below w.heap.size w w1 := belowNext hbe.drew hb1
          clear x0 x1 x2 x3 y0 y1 y2 y3 hb1 hbe
          go_wp2
          go_ret
          exact ⟨⟨false, rfl, Lib.hid ⟨fun h => (by cases h), fun h => absurd h HQ.out⟩⟩, hB⟩
    · have HQ : Hid (Asc l) := Lib.hid (fun j x y hx hy => HY.out j x y (by
        rcases Nat.lt_or_ge (j + 1) l.length with h1 | h1
        · have := HL.out; omega
        · rw [List.getElem?_eq_none h1] at hy; cases hy) hx hy)
      go_wp2
      go_ret
      exact ⟨⟨true, rfl, Lib.hid ⟨fun _ => HQ.out, fun _ => rfl⟩⟩, hbe⟩
end Go.Proofs.Ytlmgpecfbpcgaaa

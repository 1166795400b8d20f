/-
  Contracts: the order of leaves on the program's side; lists in strictly ascending order.
  Contracts: a leaf that crosses one of a list.
  Contracts: what is a lamination, on the program's side.
-/
import Derived.Test.YtdmppdfncbljoaaV17
import Derived.Deep.RegionHeld3
import Derived.Test.YtdmppdfncbljoaaV4
namespace Go.Proofs.Ytdmppdfncbljoaa
open Go.RowKit

set_option maxHeartbeats 1000000 in
theorem orInt (b off cap : Nat) (x y : Int) (w : World) (hx : w.cell? ⟨b, off, none⟩ = some (.int .i64 x)) (hy : w.cell? ⟨b, off + 1, none⟩ = some (.int .i64 y)) :
    Calls Try.prog 46 #[.slice (some ⟨b, off, none⟩) 2 cap] w fun e w' => e = .returned (.int .i64 (if x = 0 then y else x)) ∧ w = w' := by
  have E : Hid ((x = 0 → (if x = 0 then y else x) = y) ∧ (x ≠ 0 → (if x = 0 then y else x) = x)) := Lib.hid ⟨fun h => if_pos h, fun h => if_neg h⟩
  generalize (if x = 0 then y else x) = R at *
  go_enter Try.func46, Try.ntmps46
  go_wp2
  go_loop [8] (fun i => i = .int .i64 0 ∨ (i = .int .i64 1 ∧ x = 0) ∨ (i = .int .i64 2 ∧ x = 0 ∧ y = 0)) (fun i => 2 - (intOf i).toNat)
  case atStart => exact .inl rfl
  case round =>
    rcases hrel with rfl | ⟨rfl, h⟩ | ⟨rfl, h, h'⟩
    · by_cases h : x = 0
      · have hb : (x != 0) = false := by rw [h]; rfl
        have hb' : (x == 0) = true := by rw [h]; rfl
        go_wp2
        go_round
        case rel => exact .inr (.inl ⟨by go_num, h⟩)
        case measure => simp [intOf]
      · have hb : (x != 0) = true := by rw [bne_iff_ne]; exact h
        have hb' : (x == 0) = false := beq_eq_false_iff_ne.2 h
        have e := E.out.2 h
        subst e
        go_wp2
        go_ret
        exact ⟨rfl, rfl⟩
    · by_cases h' : y = 0
      · have hb : (y != 0) = false := by rw [h']; rfl
        have hb' : (y == 0) = true := by rw [h']; rfl
        go_wp2
        go_round
        case rel => exact .inr (.inr ⟨by go_num, h, h'⟩)
        case measure => simp [intOf]
      · have hb : (y != 0) = true := by rw [bne_iff_ne]; exact h'
        have hb' : (y == 0) = false := beq_eq_false_iff_ne.2 h'
        have e := E.out.1 h
        subst e
        go_wp2
        go_ret
        exact ⟨rfl, rfl⟩
    · have e := (E.out.1 h).trans h'
      subst e
      go_wp2
      go_ret
      exact ⟨rfl, rfl⟩

theorem orInt' (R : Int) (b off cap : Nat) (x y : Int) (w : World) (hR : Hid (R = if x = 0 then y else x)) (hx : w.cell? ⟨b, off, none⟩ = some (.int .i64 x)) (hy : w.cell? ⟨b, off + 1, none⟩ = some (.int .i64 y)) :
    Calls Try.prog 46 #[.slice (some ⟨b, off, none⟩) 2 cap] w fun e w' => e = .returned (.int .i64 R) ∧ w = w' := by
  rw [hR.out]
  exact orInt b off cap x y w hx hy

/-- The order of leaves, as the program tells it. -/
def cmpL (a b c d e f g h : Int) : Int := if cmpI (a * f) (e * b) = 0 then cmpI (c * h) (g * d) else cmpI (a * f) (e * b)
theorem lfAt {l : List Lf4} {k : Nat} (h : k < l.length) : ∃ a b e f, l[k]? = some (a, b, e, f) := ⟨l[k].1, l[k].2.1, l[k].2.2.1, l[k].2.2.2, by rw [List.getElem?_eq_getElem h]⟩
theorem cmpI_zero {x y : Int} (h : cmpI x y = 0) : x = y := by
  unfold cmpI at h
  split at h
  · omega
  · split at h <;> omega
theorem cmpI_same (x : Int) : cmpI x x = 0 := by unfold cmpI; rw [if_neg (by omega), if_neg (by omega)]

set_option maxHeartbeats 2000000 in
theorem implCmpL (a b c d e f g h : Int) (w : World) (h1 : angOk a b) (h2 : angOk c d) (h3 : angOk e f) (h4 : angOk g h) :
    Calls Try.prog 82 #[leafV a b c d, leafV e f g h] w fun e' w' => e' = .returned (.int .i64 (cmpL a b c d e f g h)) ∧ Below w.heap.size w w' := by
  have H1 := Lib.hid (fun w => cmpAng a b e f w h1 h3)
  have H2 := Lib.hid (fun w => cmpAng c d g h w h2 h4)
  have E : Hid (cmpL a b c d e f g h = if cmpI (a * f) (e * b) = 0 then cmpI (c * h) (g * d) else cmpI (a * f) (e * b)) := Lib.hid rfl
  clear h1 h2 h3 h4
  generalize cmpL a b c d e f g h = R at *
  generalize cmpI (a * f) (e * b) = U at *
  generalize cmpI (c * h) (g * d) = V at *
  go_enter Try.func82, Try.ntmps82
  go_wp2_with fail
  go_region_held3 (fun w' => w.heap.size + 1 < w'.heap.size ∧ Below w.heap.size w w' ∧ w'.cell? ⟨w.heap.size, 0, none⟩ = some (.int .i64 a) ∧ w'.cell? ⟨w.heap.size, 1, none⟩ = some (.int .i64 b) ∧ w'.cell? ⟨w.heap.size, 2, none⟩ = some (.int .i64 c) ∧ w'.cell? ⟨w.heap.size, 3, none⟩ = some (.int .i64 d) ∧
      w'.cell? ⟨w.heap.size + 1, 0, none⟩ = some (.int .i64 e) ∧ w'.cell? ⟨w.heap.size + 1, 1, none⟩ = some (.int .i64 f) ∧ w'.cell? ⟨w.heap.size + 1, 2, none⟩ = some (.int .i64 g) ∧ w'.cell? ⟨w.heap.size + 1, 3, none⟩ = some (.int .i64 h))
      (first | assumption | exact box8 (by assumption) (by assumption) | exact box8 (Below.refl _ _).drew (by assumption) | exact box8 (belowAlloc (Below.refl _ _) _) (by assumption) | (refine ⟨by simp, ?_, by simp [go_sem], by simp [go_sem], by simp [go_sem], by simp [go_sem], by simp [go_sem], by simp [go_sem], by simp [go_sem], by simp [go_sem]⟩; (repeat' (first | (with_reducible exact Below.refl _ _) | (with_reducible assumption) | (with_reducible refine belowNext ?_ (by with_reducible assumption)) | (with_reducible refine belowAlloc ?_ _) | (with_reducible refine Below.drew ?_) | (with_reducible refine below_drewN ?_ _) | (with_reducible refine Below.setCell ?_ ?_ _) | go_size | (with_reducible refine sizeOf' ?_) | (with_reducible refine sizeAdd ?_) | (dsimp only; first | (with_reducible refine sizeOf' ?_) | (with_reducible refine sizeAdd ?_))))))
      (first
      | (go_at_call 47; (with_reducible refine (H1.out _).mono ?_); rintro e' w1 ⟨rfl, hb1⟩; have hS1 := box8 hb1 (by assumption))
      | (go_at_call 47; (with_reducible refine (H2.out _).mono ?_); rintro e' w2 ⟨rfl, hb2⟩; have hS2 := box8 hb2 (by assumption))
      | (go_at_call 46; refine (orInt' R _ 0 _ U V _ E (by simp [go_sem]) (by simp [go_sem])).mono ?_; rintro e' w3 ⟨rfl, rfl⟩))
  all_goals
    rename_i hHeld
    have hB := hS2.2.1
    go_wp2
    go_ret
    refine ⟨rfl, ?_⟩
    first | assumption | (repeat' (first | (with_reducible exact Below.refl _ _) | (with_reducible assumption) | (with_reducible refine belowNext ?_ (by with_reducible assumption)) | (with_reducible refine belowAlloc ?_ _) | (with_reducible refine Below.drew ?_) | (with_reducible refine below_drewN ?_ _) | (with_reducible refine Below.setCell ?_ ?_ _) | go_size | (with_reducible refine sizeOf' ?_) | (with_reducible refine sizeAdd ?_) | (dsimp only; first | (with_reducible refine sizeOf' ?_) | (with_reducible refine sizeAdd ?_))))

theorem lessX_cmp {a b c d e f g h : Int} (r1 : Red (a, b)) (_r2 : Red (c, d)) (r3 : Red (e, f)) (_r4 : Red (g, h)) : decide (cmpL a b c d e f g h < 0) = (if eqA a b e f then ltA c d g h else ltA a b e f) := by
  unfold cmpL
  cases hq : eqA a b e f
  · have hn : ¬ cmpI (a * f) (e * b) = 0 := fun h => ne_of_red r1 r3 hq (cmpI_zero h)
    rw [if_neg hn, ← ltA_cmp]
    rfl
  · obtain ⟨rfl, rfl⟩ := (eqA_iff _ _ _ _).1 hq
    rw [if_pos (cmpI_same _), ← ltA_cmp]
    rfl
theorem cmpL_range (a b c d e f g h : Int) : -1 ≤ cmpL a b c d e f g h ∧ cmpL a b c d e f g h ≤ 1 := by
  unfold cmpL
  split <;> exact cmpI_range _ _

/-- Two leaves in rows, kept. -/
theorem rows8g {w W w1 : World} {b b' o o' : Nat} {n d m c n' d' m' c' : Int} (hb : Below W.heap.size W w1) (hx : b < w.heap.size) (hy : b' < w.heap.size)
    (H : Below w.heap.size w W ∧ W.cell? ⟨b, o, none⟩ = some (.int .i64 n) ∧ W.cell? ⟨b, o + 1, none⟩ = some (.int .i64 d) ∧ W.cell? ⟨b, o + 2, none⟩ = some (.int .i64 m) ∧ W.cell? ⟨b, o + 3, none⟩ = some (.int .i64 c) ∧
      W.cell? ⟨b', o', none⟩ = some (.int .i64 n') ∧ W.cell? ⟨b', o' + 1, none⟩ = some (.int .i64 d') ∧ W.cell? ⟨b', o' + 2, none⟩ = some (.int .i64 m') ∧ W.cell? ⟨b', o' + 3, none⟩ = some (.int .i64 c')) :
    Below w.heap.size w w1 ∧ w1.cell? ⟨b, o, none⟩ = some (.int .i64 n) ∧ w1.cell? ⟨b, o + 1, none⟩ = some (.int .i64 d) ∧ w1.cell? ⟨b, o + 2, none⟩ = some (.int .i64 m) ∧ w1.cell? ⟨b, o + 3, none⟩ = some (.int .i64 c) ∧
      w1.cell? ⟨b', o', none⟩ = some (.int .i64 n') ∧ w1.cell? ⟨b', o' + 1, none⟩ = some (.int .i64 d') ∧ w1.cell? ⟨b', o' + 2, none⟩ = some (.int .i64 m') ∧ w1.cell? ⟨b', o' + 3, none⟩ = some (.int .i64 c') := by
  obtain ⟨hB, h0, h1, h2, h3, h4, h5, h6, h7⟩ := H
  have hx := Nat.lt_of_lt_of_le hx hB.size
  have hy := Nat.lt_of_lt_of_le hy hB.size
  exact ⟨belowNext hB hb, cellThru hb hx h0, cellThru hb hx h1, cellThru hb hx h2, cellThru hb hx h3, cellThru hb hy h4, cellThru hb hy h5, cellThru hb hy h6, cellThru hb hy h7⟩

/-- A leaf comes before another one. -/
def lessX (x y : Lf4) : Bool := if eqA x.1 x.2.1 y.1 y.2.1 then ltA x.2.2.1 x.2.2.2 y.2.2.1 y.2.2.2 else ltA x.1 x.2.1 y.1 y.2.1
/-- Each leaf comes behind the one before it. -/
def Asc (l : List Lf4) : Prop := ∀ (i : Nat) (x y : Lf4), l[i]? = some x → l[i + 1]? = some y → lessX x y = true

set_option maxHeartbeats 2000000 in
theorem ascLf (A : Option Addr) (len cap : Nat) (l : List Lf4) (w : World) (hr : LfRow w w.heap.size A l) (hl : l.length = len) (hm : len ≤ 1000000000000) (hA : allLf l = true) :
    Calls Try.prog 81 #[.slice A len cap, .func (Fn.func 82) #[] #[]] w fun e w' => (∃ r : Bool, e = .returned (.bool r) ∧ Hid (r = true ↔ Asc l)) ∧ Below w.heap.size w w' := by
  have HR := Lib.hid hr
  have HL := Lib.hid hl
  have HA := Lib.hid hA
  clear hr hl hA
  go_enter Try.func81, Try.ntmps81
  go_wp2
  go_loopw [5] (fun i wr => ∃ k : Nat, 1 ≤ k ∧ (k ≤ len ∨ k = 1) ∧ i = .int .i64 k ∧ Hid (∀ (j : Nat) (x y : Lf4), j + 1 < k → l[j]? = some x → l[j + 1]? = some y → lessX x y = true) ∧ Below w.heap.size w wr) (fun i _ => len - (intOf i).toNat)
  case atStart => exact ⟨1, by omega, by omega, rfl, Lib.hid (fun j x y h => absurd h (by omega)), Below.refl _ _⟩
  case round =>
    obtain ⟨k, hk1, hk, rfl, HY, hbe⟩ := hrel
    by_cases hlt : k < len
    · obtain ⟨q, hq⟩ : ∃ q : Nat, k = q + 1 := ⟨k - 1, by omega⟩
      have hk2 : ((k : Int) - 1) = (q : Int) := by omega
      have hw : IntKind.i64.wrap (q : Int) = (q : Int) := IntWalk.i64_in _ (by omega)
      have hql : q < len := by omega
      obtain ⟨n, d, m, c, hx⟩ := lfAt (l := l) (k := q) (by have := HL.out; omega)
      obtain ⟨n', d', m', c', hy⟩ := lfAt (l := l) (k := k) (by have := HL.out; omega)
      have hne : l ≠ [] := by intro h; rw [h] at hx; simp at hx
      obtain ⟨b, off, rfl, hbb, hcells⟩ := row_at HR.out hne
      obtain ⟨x0, x1, x2, x3⟩ := (hcells q n d m c hx).next hbe hbb
      obtain ⟨y0, y1, y2, y3⟩ := (hcells k n' d' m' c' hy).next hbe hbb
      obtain ⟨r1, r2, -⟩ := isLf_yes (allLf_at HA.out hx)
      obtain ⟨r3, r4, -⟩ := isLf_yes (allLf_at HA.out hy)
      have HC := Lib.hid (fun w => implCmpL n d m c n' d' m' c' w (okOf r1) (okOf r2) (okOf r3) (okOf r4))
      have HE := Lib.hid (lessX_cmp r1 r2 r3 r4)
      have hrg := cmpL_range n d m c n' d' m' c'
      generalize cmpL n d m c n' d' m' c' = R at *
      have HX := Lib.hid hx
      have HZ := Lib.hid hy
      have hbw : b < wr.heap.size := Nat.lt_of_lt_of_le hbb hbe.size
      have hbwd : b < wr.drew.heap.size := hbw
      have HK := Lib.hid hq
      clear hcells hne hx hy r1 r2 r3 r4 hq
      by_cases hR : R < 0
      · have HL1 : Hid (lessX (n, d, m, c) (n', d', m', c') = true) := Lib.hid (by
          have := HE.out
          rw [decide_eq_true hR] at this
          exact this.symm)
        go_wp2_with fail
        go_region_with (first | (go_at_call 82; (with_reducible refine (HC.out _).mono ?_); rintro e w1 ⟨rfl, hb1⟩))
        all_goals
          have hB : Below w.heap.size w w1 := belowNext hbe.drew hb1
          clear x0 x1 x2 x3 y0 y1 y2 y3 hb1 hbe
          go_wp2
          go_roundw
          case rel =>
            refine ⟨k + 1, by omega, by omega, by go_num, Lib.hid (fun j x y hj hx hy => ?_), hB⟩
            by_cases hjk : j + 1 = k
            · have hq := HK.out
              obtain rfl : q = j := by omega
              have p1 := HX.out
              have p2 := HZ.out
              rw [← hjk] at p2
              rw [p1] at hx
              rw [p2] at hy
              injection hx with hx
              injection hy with hy
              rw [← hx, ← hy]
              exact HL1.out
            · exact HY.out j x y (by omega) hx hy
          case measure => simp [intOf]; omega
      · have HQ : Hid (¬ Asc l) := Lib.hid (fun h => by
          have p := h q _ _ HX.out (by rw [← HK.out]; exact HZ.out)
          have := HE.out
          rw [decide_eq_false hR] at this
          exact absurd (this.trans p) (by simp))
        go_wp2_with fail
        go_region_with (first | (go_at_call 82; (with_reducible refine (HC.out _).mono ?_); rintro e w1 ⟨rfl, hb1⟩))
        all_goals
          have hB : Below w.heap.size w w1 := belowNext hbe.drew hb1
          clear x0 x1 x2 x3 y0 y1 y2 y3 hb1 hbe
          go_wp2
          go_ret
          exact ⟨⟨false, rfl, Lib.hid ⟨fun h => (by cases h), fun h => absurd h HQ.out⟩⟩, hB⟩
    · have HQ : Hid (Asc l) := Lib.hid (fun j x y hx hy => HY.out j x y (by
        rcases Nat.lt_or_ge (j + 1) l.length with h1 | h1
        · have := HL.out; omega
        · rw [List.getElem?_eq_none h1] at hy; cases hy) hx hy)
      go_wp2
      go_ret
      exact ⟨⟨true, rfl, Lib.hid ⟨fun _ => HQ.out, fun _ => rfl⟩⟩, hbe⟩

def crossX (x y : Lf4) : Bool := crossB x.1 x.2.1 x.2.2.1 x.2.2.2 y.1 y.2.1 y.2.2.1 y.2.2.2
/-- A leaf crosses one of a list. -/
def CrossOne (x : Lf4) (l : List Lf4) : Prop := ∃ (k : Nat) (y : Lf4), l[k]? = some y ∧ crossX x y = true

set_option maxHeartbeats 1000000 in
theorem closCross (a b c d e f g h : Int) (G : Nat) (w : World) (hl : isLf a b c d = true) (hm : isLf e f g h = true) (hG : G < w.heap.size) (H : Cells4 w G 0 a b c d) :
    Calls Try.prog 158 #[leafV e f g h, .pointer (some ⟨G, 0, none⟩)] w fun e' w' => e' = .returned (.bool (crossB a b c d e f g h)) ∧ Below w.heap.size w w' := by
  have HC := Lib.hid (fun w => implCross a b c d e f g h w hl hm)
  generalize crossB a b c d e f g h = R at *
  obtain ⟨x0, x1, x2, x3⟩ := H
  clear hl hm
  go_enter Try.func158, Try.ntmps158
  go_wp2_with fail
  refine (HC.out _).mono ?_
  rintro e' w1 ⟨rfl, hb1⟩
  go_wp2
  go_ret
  refine ⟨rfl, ?_⟩
  (repeat' (first | (with_reducible exact Below.refl _ _) | (with_reducible assumption) | (with_reducible refine belowNext ?_ (by with_reducible assumption)) | (with_reducible refine belowAlloc ?_ _) | (with_reducible refine Below.drew ?_) | (with_reducible refine below_drewN ?_ _) | (with_reducible refine Below.setCell ?_ ?_ _) | go_size | (with_reducible refine sizeOf' ?_) | (with_reducible refine sizeAdd ?_) | (dsimp only; first | (with_reducible refine sizeOf' ?_) | (with_reducible refine sizeAdd ?_))))

set_option maxHeartbeats 2000000 in
theorem idxCross (A : Option Addr) (len cap : Nat) (l : List Lf4) (a b c d : Int) (G : Nat) (w : World) (hr : LfRow w w.heap.size A l) (hl : l.length = len) (hm : len ≤ 1000000000000) (hA : allLf l = true)
    (hx : isLf a b c d = true) (hG : G < w.heap.size) (H : Cells4 w G 0 a b c d) :
    Calls Try.prog 193 #[.slice A len cap, .func (Fn.func 158) #[] #[.pointer (some ⟨G, 0, none⟩)]] w fun e w' => (∃ r : Int, e = .returned (.int .i64 r) ∧ -1 ≤ r ∧ r ≤ 1000000000000 ∧ Hid (0 ≤ r ↔ CrossOne (a, b, c, d) l)) ∧ Below w.heap.size w w' := by
  have HR := Lib.hid hr
  have HL := Lib.hid hl
  have HC : Hid (∀ (k : Nat) (n d' m c' : Int) (W : World), l[k]? = some (n, d', m, c') → Below w.heap.size w W → Calls Try.prog 158 #[leafV n d' m c', .pointer (some ⟨G, 0, none⟩)] W fun e' w' => e' = .returned (.bool (crossX (a, b, c, d) (n, d', m, c'))) ∧ Below W.heap.size W w') :=
    Lib.hid (fun k n d' m c' W hk hB => closCross a b c d n d' m c' G W hx (allLf_at hA hk) (Nat.lt_of_lt_of_le hG hB.size) (H.next hB hG))
  clear hr hl hA hx hG H
  go_enter Try.func193, Try.ntmps193
  go_wp2
  go_loopw [8] (fun i wr => ∃ k : Nat, k ≤ len ∧ i = .int .i64 k ∧ Hid (∀ (j : Nat) (y : Lf4), j < k → l[j]? = some y → crossX (a, b, c, d) y = false) ∧ Below w.heap.size w wr) (fun i _ => len - (intOf i).toNat)
  case atStart => exact ⟨0, by omega, rfl, Lib.hid (fun j y h => absurd h (by omega)), Below.refl _ _⟩
  case round =>
    obtain ⟨k, hk, rfl, HY, hbe⟩ := hrel
    by_cases hlt : k < len
    · obtain ⟨n, d', m, c', hx⟩ := lfAt (l := l) (k := k) (by have := HL.out; omega)
      have hne : l ≠ [] := by intro h; rw [h] at hx; simp at hx
      obtain ⟨b', off, rfl, hbb, hcells⟩ := row_at HR.out hne
      obtain ⟨x0, x1, x2, x3⟩ := (hcells k n d' m c' hx).next hbe hbb
      have HQ := Lib.hid (fun W hB => HC.out k n d' m c' W hx hB)
      have HX := Lib.hid hx
      clear hcells hne hx
      cases hq : crossX (a, b, c, d) (n, d', m, c')
      all_goals
        rw [hq] at HQ
        have HZ := Lib.hid hq
        clear hq
        go_wp2_with fail
        refine (HQ.out _ hbe).mono ?_
        rintro e w1 ⟨rfl, hb1⟩
        have hB : Below w.heap.size w w1 := belowNext hbe hb1
        clear x0 x1 x2 x3 hb1 hbe
        go_wp2
      · go_roundw
        case rel =>
          refine ⟨k + 1, by omega, by go_num, Lib.hid (fun j y hj hy => ?_), hB⟩
          by_cases hjk : j = k
          · subst hjk
            have p := HX.out
            rw [p] at hy
            injection hy with hy
            rw [← hy]
            exact HZ.out
          · exact HY.out j y (by omega) hy
        case measure => simp [intOf]; omega
      · have HN : Hid (CrossOne (a, b, c, d) l) := Lib.hid ⟨k, _, HX.out, HZ.out⟩
        go_ret
        exact ⟨⟨_, rfl, by omega, by omega, Lib.hid ⟨fun _ => HN.out, fun _ => by omega⟩⟩, hB⟩
    · have HN : Hid (¬ CrossOne (a, b, c, d) l) := Lib.hid (fun ⟨j, y, hy, hc⟩ => by
        have := HY.out j y (by
          rcases Nat.lt_or_ge j l.length with h1 | h1
          · have := HL.out; omega
          · rw [List.getElem?_eq_none h1] at hy; cases hy) hy
        rw [this] at hc; cases hc)
      go_wp2
      go_ret
      exact ⟨⟨_, rfl, by omega, by omega, Lib.hid ⟨fun h => absurd h (by omega), fun h => absurd h HN.out⟩⟩, hbe⟩

set_option maxHeartbeats 1000000 in
theorem crossOne (A : Option Addr) (len cap : Nat) (l : List Lf4) (a b c d : Int) (w : World) (hr : LfRow w w.heap.size A l) (hl : l.length = len) (hm : len ≤ 1000000000000) (hA : allLf l = true) (hx : isLf a b c d = true) :
    Calls Try.prog 118 #[leafV a b c d, .slice A len cap] w fun e w' => (∃ r : Bool, e = .returned (.bool r) ∧ Hid (r = true ↔ CrossOne (a, b, c, d) l)) ∧ Below w.heap.size w w' := by
  have HI : Hid (∀ (W : World) (G : Nat), Below w.heap.size w W → G < W.heap.size → Cells4 W G 0 a b c d → Calls Try.prog 157 #[.slice A len cap, .func (Fn.func 158) #[] #[.pointer (some ⟨G, 0, none⟩)]] W fun e w' => (∃ r : Bool, e = .returned (.bool r) ∧ Hid (r = true ↔ CrossOne (a, b, c, d) l)) ∧ Below W.heap.size W w') :=
    Lib.hid (fun W G hB hG HG => by
      have HJ := Lib.hid (idxCross A len cap l a b c d G W ((hr.below hB).more hB.size) hl hm hA hx hG HG)
      clear hr hl hA hx hG HG hB
      go_enter Try.func157, Try.ntmps157
      go_wp2_with fail
      refine HJ.out.mono ?_
      rintro e w1 ⟨⟨r, rfl, h1, h2, HR⟩, hb1⟩
      go_wp2
      go_ret
      refine ⟨⟨_, rfl, Lib.hid ?_⟩, ?_⟩
      · rw [decide_eq_true_eq]; exact HR.out
      · (repeat' (first | (with_reducible exact Below.refl _ _) | (with_reducible assumption) | (with_reducible refine belowNext ?_ (by with_reducible assumption)) | (with_reducible refine belowAlloc ?_ _) | (with_reducible refine Below.drew ?_) | (with_reducible refine below_drewN ?_ _) | (with_reducible refine Below.setCell ?_ ?_ _) | go_size | (with_reducible refine sizeOf' ?_) | (with_reducible refine sizeAdd ?_) | (dsimp only; first | (with_reducible refine sizeOf' ?_) | (with_reducible refine sizeAdd ?_)))))
  clear hr hl hA hx
  go_enter Try.func118, Try.ntmps118
  go_wp2_with fail
  refine (HI.out _ _ (by exact belowAlloc (Below.refl _ _) _) (by simp) ⟨by simp [go_sem], by simp [go_sem], by simp [go_sem], by simp [go_sem]⟩).mono ?_
  rintro e w1 ⟨⟨r, rfl, HR⟩, hb1⟩
  go_wp2
  go_ret
  refine ⟨⟨_, rfl, HR⟩, ?_⟩
  (repeat' (first | (with_reducible exact Below.refl _ _) | (with_reducible assumption) | (with_reducible refine belowNext ?_ (by with_reducible assumption)) | (with_reducible refine belowAlloc ?_ _) | (with_reducible refine Below.drew ?_) | (with_reducible refine below_drewN ?_ _) | (with_reducible refine Below.setCell ?_ ?_ _) | go_size | (with_reducible refine sizeOf' ?_) | (with_reducible refine sizeAdd ?_) | (dsimp only; first | (with_reducible refine sizeOf' ?_) | (with_reducible refine sizeAdd ?_))))

/-- No two leaves cross. -/
def NoCross (l : List Lf4) : Prop := ∀ (i k : Nat) (x y : Lf4), k < i → l[i]? = some x → l[k]? = some y → crossX x y = false
def Lam (l : List Lf4) : Prop := l.length ≤ 200 ∧ allLf l = true ∧ Asc l ∧ NoCross l
/-- The form of an answer yes or no that tells P. -/
def ResYes (w : World) (P : Prop) (e : Ending) (w' : World) : Prop := (∃ r : Bool, e = .returned (.bool r) ∧ Hid (r = true ↔ P)) ∧ Below w.heap.size w w'
theorem take_at {l : List Lf4} {i k : Nat} {y : Lf4} : (l.take i)[k]? = some y ↔ k < i ∧ l[k]? = some y := by
  by_cases h : k < i
  · rw [List.getElem?_take_of_lt h]; exact ⟨fun e => ⟨h, e⟩, fun e => e.2⟩
  · rw [List.getElem?_eq_none (by simp; omega)]; exact ⟨fun e => (by cases e), fun e => absurd e.1 h⟩
theorem LfRow.take {w : World} {B : Nat} {A : Option Addr} {l : List Lf4} (h : LfRow w B A l) (i : Nat) : LfRow w B A (l.take i) := by
  intro hn
  obtain ⟨b, off, e, hb, hc⟩ := h (fun h0 => hn (by rw [h0]; simp))
  exact ⟨b, off, e, hb, fun j n d m c hj => hc j n d m c (take_at.1 hj).2⟩
theorem allLf_take {l : List Lf4} (h : allLf l = true) (i : Nat) : allLf (l.take i) = true := by
  unfold allLf at *
  rw [List.all_eq_true] at *
  intro x hx
  exact h x (List.mem_of_mem_take hx)
theorem noCross_iff {l : List Lf4} : NoCross l ↔ ∀ (i : Nat) (x : Lf4), l[i]? = some x → ¬ CrossOne x (l.take i) := by
  constructor
  · intro h i x hx ⟨k, y, hk, hc⟩
    obtain ⟨h1, h2⟩ := take_at.1 hk
    rw [h i k x y h1 hx h2] at hc; cases hc
  · intro h i k x y hk hx hy
    cases hc : crossX x y
    · rfl
    · exact absurd ⟨k, y, take_at.2 ⟨hk, hy⟩, hc⟩ (h i x hx)

set_option maxHeartbeats 2000000 in
theorem implHC (A : Option Addr) (len cap : Nat) (l : List Lf4) (w : World) (hr : LfRow w w.heap.size A l) (hl : l.length = len) (hm : len ≤ 1000000000000) (hcap : len ≤ cap) (hA : allLf l = true) :
    Calls Try.prog 83 #[.slice A len cap] w (ResYes w (¬ NoCross l)) := by
  have HR := Lib.hid hr
  have HL := Lib.hid hl
  have HC : Hid (∀ (k : Nat) (n d' m c' : Int) (W : World) (cap' : Nat), k ≤ len → l[k]? = some (n, d', m, c') → Below w.heap.size w W → Calls Try.prog 118 #[leafV n d' m c', .slice A k cap'] W fun e w' => (∃ r : Bool, e = .returned (.bool r) ∧ Hid (r = true ↔ CrossOne (n, d', m, c') (l.take k))) ∧ Below W.heap.size W w') :=
    Lib.hid (fun k n d' m c' W cap' hk hx hB => crossOne A k cap' (l.take k) n d' m c' W (((hr.below hB).more hB.size).take k) (by rw [List.length_take]; omega) (by omega) (allLf_take hA k) (allLf_at hA hx))
  clear hr hl hA
  go_enter Try.func83, Try.ntmps83
  go_wp2
  go_loopw [7] (fun i wr => ∃ k : Nat, k ≤ len ∧ i = .int .i64 k ∧ Hid (∀ (j : Nat) (x : Lf4), j < k → l[j]? = some x → ¬ CrossOne x (l.take j)) ∧ Below w.heap.size w wr) (fun i _ => len - (intOf i).toNat)
  case atStart => exact ⟨0, by omega, rfl, Lib.hid (fun j y h => absurd h (by omega)), Below.refl _ _⟩
  case round =>
    obtain ⟨k, hk, rfl, HY, hbe⟩ := hrel
    by_cases hlt : k < len
    · obtain ⟨n, d', m, c', hx⟩ := lfAt (l := l) (k := k) (by have := HL.out; omega)
      have hne : l ≠ [] := by intro h; rw [h] at hx; simp at hx
      obtain ⟨b', off, rfl, hbb, hcells⟩ := row_at HR.out hne
      obtain ⟨x0, x1, x2, x3⟩ := (hcells k n d' m c' hx).next hbe hbb
      have hkc : k ≤ cap := by omega
      have HZ := Lib.hid (fun W cap' hB => HC.out k n d' m c' W cap' hk hx hB)
      have HX := Lib.hid hx
      clear hcells hne hx
      go_wp2_with fail
      go_region_with (first | (go_at_call 118; refine (HZ.out _ _ (by (repeat' (first | (with_reducible exact Below.refl _ _) | (with_reducible assumption) | (with_reducible refine belowNext ?_ (by with_reducible assumption)) | (with_reducible refine belowAlloc ?_ _) | (with_reducible refine Below.drew ?_) | (with_reducible refine below_drewN ?_ _) | (with_reducible refine Below.setCell ?_ ?_ _) | go_size | (with_reducible refine sizeOf' ?_) | (with_reducible refine sizeAdd ?_) | (dsimp only; first | (with_reducible refine sizeOf' ?_) | (with_reducible refine sizeAdd ?_)))))).mono ?_; rintro e w3 ⟨⟨r, rfl, HW⟩, hb3⟩))
      all_goals
        have B3 : Below w.heap.size w w3 := by
          (repeat' (first | (with_reducible exact Below.refl _ _) | (with_reducible assumption) | (with_reducible refine belowNext ?_ (by with_reducible assumption)) | (with_reducible refine belowAlloc ?_ _) | (with_reducible refine Below.drew ?_) | (with_reducible refine below_drewN ?_ _) | (with_reducible refine Below.setCell ?_ ?_ _) | go_size | (with_reducible refine sizeOf' ?_) | (with_reducible refine sizeAdd ?_) | (dsimp only; first | (with_reducible refine sizeOf' ?_) | (with_reducible refine sizeAdd ?_))))
        clear x0 x1 x2 x3 hb3 hbe
        cases r
        · go_wp2
          go_roundw
          case rel =>
            refine ⟨k + 1, by omega, by go_num, Lib.hid (fun j y hj hy => ?_), B3⟩
            by_cases hjk : j = k
            · subst hjk
              have p := HX.out
              rw [p] at hy
              injection hy with hy
              rw [← hy]
              exact fun h => by have := HW.out.2 h; cases this
            · exact HY.out j y (by omega) hy
          case measure => simp [intOf]; omega
        · have HN : Hid (¬ NoCross l) := Lib.hid (fun h => noCross_iff.1 h k _ HX.out (HW.out.1 rfl))
          go_wp2
          go_ret
          exact ⟨⟨true, rfl, Lib.hid ⟨fun _ => HN.out, fun _ => rfl⟩⟩, B3⟩
    · have HN : Hid (NoCross l) := Lib.hid (noCross_iff.2 (fun i x hx => HY.out i x (by
        rcases Nat.lt_or_ge i l.length with h1 | h1
        · have := HL.out; omega
        · rw [List.getElem?_eq_none h1] at hx; cases hx) hx))
      go_wp2
      go_ret
      exact ⟨⟨false, rfl, Lib.hid ⟨fun h => (by cases h), fun h => absurd HN.out h⟩⟩, hbe⟩

set_option maxHeartbeats 2000000 in
theorem implLam (A : Option Addr) (len cap : Nat) (l : List Lf4) (w : World) (hr : LfRow w w.heap.size A l) (hl : l.length = len) (hm : len ≤ 1000000000000) (hcap : len ≤ cap) :
    Calls Try.prog 41 #[.slice A len cap] w (ResYes w (Lam l)) := by
  by_cases h200 : 200 < len
  · have HN : Hid (¬ Lam l) := Lib.hid (fun h => by have := h.1; omega)
    have hI : ((200 : Int) < (len : Int)) := by omega
    clear hr hl hcap
    go_enter Try.func41, Try.ntmps41
    go_wp2
    go_ret
    exact ⟨⟨false, rfl, Lib.hid ⟨fun h => (by cases h), fun h => absurd h HN.out⟩⟩, Below.refl _ _⟩
  · have hI : ¬ ((200 : Int) < (len : Int)) := by omega
    have HS := Lib.hid (areLf A len cap l w hr hl (by omega))
    cases hA : allLf l
    · have HN : Hid (¬ Lam l) := Lib.hid (fun h => by have := h.2.1; rw [hA] at this; cases this)
      rw [hA] at HS
      clear hr hl hcap hA
      go_enter Try.func41, Try.ntmps41
      go_wp2_with fail
      refine HS.out.mono ?_
      rintro e w1 ⟨rfl, hb1⟩
      go_wp2
      go_ret
      refine ⟨⟨false, rfl, Lib.hid ⟨fun h => (by cases h), fun h => absurd h HN.out⟩⟩, hb1⟩
    · have HA := Lib.hid hA
      rw [hA] at HS
      have HT : Hid (∀ W, Below w.heap.size w W → Calls Try.prog 81 #[.slice A len cap, .func (Fn.func 82) #[] #[]] W fun e w' => (∃ r : Bool, e = .returned (.bool r) ∧ Hid (r = true ↔ Asc l)) ∧ Below W.heap.size W w') :=
        Lib.hid (fun W hB => ascLf A len cap l W ((hr.below hB).more hB.size) hl hm hA)
      have HL := Lib.hid hl
      have HC : Hid (∀ W, Below w.heap.size w W → Calls Try.prog 83 #[.slice A len cap] W (ResYes W (¬ NoCross l))) :=
        Lib.hid (fun W hB => implHC A len cap l W ((hr.below hB).more hB.size) hl hm hcap hA)
      clear hr hl hA
      go_enter Try.func41, Try.ntmps41
      go_wp2_with fail
      refine HS.out.mono ?_
      rintro e w1 ⟨rfl, hb1⟩
      go_wp2_with fail
      refine (HT.out _ hb1).mono ?_
      rintro e w2 ⟨⟨r, rfl, HQ⟩, hb2⟩
      have B2 : Below w.heap.size w w2 := belowNext hb1 hb2
      clear hb1 hb2
      cases r
      · have HN : Hid (¬ Lam l) := Lib.hid (fun h => by have := HQ.out.2 h.2.2.1; cases this)
        go_wp2
        go_ret
        exact ⟨⟨false, rfl, Lib.hid ⟨fun h => (by cases h), fun h => absurd h HN.out⟩⟩, B2⟩
      · have HQ2 := Lib.hid (HQ.out.1 rfl)
        go_wp2_with fail
        refine (HC.out _ B2).mono ?_
        rintro e w3 ⟨⟨r, rfl, HW⟩, hb3⟩
        have B3 : Below w.heap.size w w3 := belowNext B2 hb3
        clear hb3 B2
        cases r
        · have HN : Hid (Lam l) := Lib.hid ⟨by have := HL.out; omega, HA.out, HQ2.out, Classical.byContradiction fun h => by have := HW.out.2 h; cases this⟩
          go_wp2
          go_ret
          exact ⟨⟨true, rfl, Lib.hid ⟨fun _ => HN.out, fun _ => rfl⟩⟩, B3⟩
        · have HN : Hid (¬ Lam l) := Lib.hid (fun h => HW.out.1 rfl h.2.2.2)
          go_wp2
          go_ret
          exact ⟨⟨false, rfl, Lib.hid ⟨fun h => (by cases h), fun h => absurd h HN.out⟩⟩, B3⟩
end Go.Proofs.Ytdmppdfncbljoaa

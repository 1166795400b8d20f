/-
  Images of images, as plain mathematics; looking a leaf up in a list.
-/
import Derived.Test.YtdmppdfncbljoaaV9
import Derived.Test.YtdmppdfncbljoaaV6
import Derived.Deep.DeepCutAuto
import Derived.Deep.AppendLies
import Derived.RangeFuncBox
import Derived.WalkSmall
import Derived.OneCell
namespace Go.Proofs.Ytdmppdfncbljoaa
open Go.RowKit

/-- Two leaves are one. -/
def eqL (a b c d e f g h : Int) : Bool := eqA a b e f && eqA c d g h
theorem eqL_iff (a b c d e f g h : Int) : eqL a b c d e f g h = true ↔ a = e ∧ b = f ∧ c = g ∧ d = h := by
  unfold eqL; rw [Bool.and_eq_true, eqA_iff, eqA_iff]; exact ⟨fun ⟨⟨a, b⟩, c, d⟩ => ⟨a, b, c, d⟩, fun ⟨a, b, c, d⟩ => ⟨⟨a, b⟩, c, d⟩⟩
theorem eqL_comm (a b c d e f g h : Int) : eqL a b c d e f g h = eqL e f g h a b c d := by
  rw [Bool.eq_iff_iff, eqL_iff, eqL_iff]; omega
theorem eqlLf (a b c d e f g h : Int) (W : World) : (binOp .eql 31 (leafV a b c d) (leafV e f g h)).run Try.prog W = .ok (.bool (eqL a b c d e f g h)) W := by
  by_cases h1 : a = e
  · by_cases h2 : b = f
    · by_cases h3 : c = g
      · by_cases h4 : d = h
        · subst h1 h2 h3 h4; simp [go_sem, eqL, eqA]
        · subst h1 h2 h3; simp [go_sem, eqL, eqA, h4]
      · subst h1 h2; simp [go_sem, eqL, eqA, h3]
    · subst h1; simp [go_sem, eqL, eqA, h2]
  · simp [go_sem, eqL, eqA, h1]
/-- The leaf is in the list. -/
def hasL (l : List Lf4) (n d m c : Int) : Bool := l.any fun x => eqL n d m c x.1 x.2.1 x.2.2.1 x.2.2.2
theorem hasL_yes {l : List Lf4} {k : Nat} {n d m c a b e f : Int} (h : l[k]? = some (a, b, e, f)) (hq : eqL n d m c a b e f = true) : hasL l n d m c = true := by
  unfold hasL
  rw [List.any_eq_true]
  exact ⟨(a, b, e, f), List.mem_of_getElem? h, hq⟩
theorem hasL_no {l : List Lf4} {n d m c : Int} (h : ∀ (i : Nat) (a b e f : Int), l[i]? = some (a, b, e, f) → eqL n d m c a b e f = false) : hasL l n d m c = false := by
  unfold hasL
  rw [List.any_eq_false]
  intro x hx
  obtain ⟨i, hi, e⟩ := List.getElem_of_mem hx
  have := h i x.1 x.2.1 x.2.2.1 x.2.2.2 (by rw [List.getElem?_eq_getElem hi, e])
  simp [this]

/-- The image, as four numbers. -/
def imL (x : Lf4) : Lf4 := (imA x.1 x.2.1 x.2.2.1 x.2.2.2, imB x.1 x.2.1 x.2.2.1 x.2.2.2, imC x.1 x.2.1 x.2.2.1 x.2.2.2, imD x.1 x.2.1 x.2.2.1 x.2.2.2)
def hasX (l : List Lf4) (x : Lf4) : Bool := hasL l x.1 x.2.1 x.2.2.1 x.2.2.2
def diaX (x : Lf4) : Bool := diaB x.1 x.2.1 x.2.2.1 x.2.2.2
/-- The leaf, its image and so on, each once, up to a diameter; none if there are too many. -/
def imF : Nat → Lf4 → List Lf4 → Option (List Lf4)
  | 0, x, acc => if hasX acc x then some acc else none
  | f + 1, x, acc => if hasX acc x then some acc else if diaX x then some (acc ++ [x]) else imF f (imL x) (acc ++ [x])
theorem imF_len : ∀ (f : Nat) (x : Lf4) (acc r : List Lf4), imF f x acc = some r → r.length ≤ acc.length + f
  | 0, x, acc, r, h => by
    simp only [imF] at h
    split at h
    · injection h with h; subst h; omega
    · cases h
  | f + 1, x, acc, r, h => by
    simp only [imF] at h
    split at h
    · injection h with h; subst h; omega
    · split at h
      · injection h with h; subst h; simp
      · have := imF_len f _ _ r h; simp at this; omega
/-- What ImagesOfLeaf returns. -/
def isLfX (x : Lf4) : Bool := isLf x.1 x.2.1 x.2.2.1 x.2.2.2
def imgsL (x : Lf4) : List Lf4 := if isLfX x then (imF 64 x []).getD [] else []
def imgsC (x : Lf4) : Int := if isLfX x then (if (imF 64 x []).isSome then 0 else 3) else 1
theorem imgs_len (x : Lf4) : (imgsL x).length ≤ 1000000000000 := by
  unfold imgsL
  split
  · cases e : imF 64 x [] with
    | none => simp
    | some r => have := imF_len 64 x [] r e; simp at this; simp; omega
  · simp

/-- Both ends are reduced. -/
def RedX (x : Lf4) : Prop := Red (x.1, x.2.1) ∧ Red (x.2.2.1, x.2.2.2)
theorem redX_of {x : Lf4} (h : isLfX x = true) : RedX x := by
  obtain ⟨a, b, -⟩ := isLf_yes h
  exact ⟨a, b⟩
theorem lf_red {x y u v : Int} (h1 : Red (x, y)) (h2 : Red (u, v)) : Red (lfA x y u v, lfB x y u v) ∧ Red (lfC x y u v, lfD x y u v) := by
  cases h : ltA x y u v
  · obtain ⟨d1, d2, d3, d4⟩ := lf_no h
    rw [d1, d2, d3, d4]; exact ⟨h2, h1⟩
  · obtain ⟨d1, d2, d3, d4⟩ := lf_yes h
    rw [d1, d2, d3, d4]; exact ⟨h1, h2⟩
theorem imL_red {x : Lf4} (h : RedX x) : RedX (imL x) := lf_red (dbl_red h.1) (dbl_red h.2)

/-- The cells of a list of leaves. -/
def flat4 (l : List Lf4) : List Value := l.flatMap fun x => [.int .i64 x.1, .int .i64 x.2.1, .int .i64 x.2.2.1, .int .i64 x.2.2.2]
theorem flat4_app (l : List Lf4) (n d m c : Int) : flat4 (l ++ [(n, d, m, c)]) = flat4 l ++ [.int .i64 n, .int .i64 d, .int .i64 m, .int .i64 c] := by simp [flat4]
theorem flat4_len : ∀ l : List Lf4, (flat4 l).length = l.length * 4
  | [] => rfl
  | x :: l => by
    have : flat4 (x :: l) = [.int .i64 x.1, .int .i64 x.2.1, .int .i64 x.2.2.1, .int .i64 x.2.2.2] ++ flat4 l := rfl
    rw [this, List.length_append, flat4_len l]; simp; omega
theorem flat4_at : ∀ {l : List Lf4} {i : Nat} {n d m c : Int}, l[i]? = some (n, d, m, c) → (flat4 l)[i * 4]? = some (.int .i64 n) ∧ (flat4 l)[i * 4 + 1]? = some (.int .i64 d) ∧ (flat4 l)[i * 4 + 2]? = some (.int .i64 m) ∧ (flat4 l)[i * 4 + 3]? = some (.int .i64 c)
  | [], i, n, d, m, c, h => by simp at h
  | x :: l, 0, n, d, m, c, h => by
    simp at h; subst h
    exact ⟨rfl, rfl, rfl, rfl⟩
  | x :: l, i + 1, n, d, m, c, h => by
    have e : flat4 (x :: l) = [.int .i64 x.1, .int .i64 x.2.1, .int .i64 x.2.2.1, .int .i64 x.2.2.2] ++ flat4 l := rfl
    have ih := flat4_at (l := l) (i := i) (by simpa using h)
    have k : ∀ j, (flat4 (x :: l))[4 + j]? = (flat4 l)[j]? := fun j => by rw [e, List.getElem?_append_right (by simp)]; simp
    have e0 : (i + 1) * 4 = 4 + i * 4 := by omega
    have e1 : (i + 1) * 4 + 1 = 4 + (i * 4 + 1) := by omega
    have e2 : (i + 1) * 4 + 2 = 4 + (i * 4 + 2) := by omega
    have e3 : (i + 1) * 4 + 3 = 4 + (i * 4 + 3) := by omega
    rw [e1, e2, e3, e0, k, k, k, k]
    exact ih
theorem lfOwn_of_row {w : World} {lo : Nat} {l : List Lf4} {A : Option Addr} {cap k : Nat} (hk : l.length = k) (h : w.ownsRow lo 31 4 (.slice A k cap) k (flat4 l)) : LfOwn w lo A l := by
  intro hl
  have hk0 : 0 < k := by
    rw [← hk]; exact List.length_pos_iff.2 hl
  obtain ⟨g, c, hv, hlo, hg⟩ := h.form hk0
  obtain ⟨rfl, rfl⟩ : A = some ⟨g, 0, none⟩ ∧ cap = c := by injection hv with hA hn hc; exact ⟨hA, hc⟩
  refine ⟨g, 0, rfl, hlo, hg, fun i n d m c hi => ?_⟩
  obtain ⟨f0, f1, f2, f3⟩ := flat4_at hi
  have hik : i < k := by
    rcases Nat.lt_or_ge i l.length with h1 | h1
    · omega
    · rw [List.getElem?_eq_none h1] at hi; cases hi
  rw [show 0 + i * 4 = i * 4 by omega]
  exact ⟨⟨(h.cellAt _ (by omega)).trans f0, (h.cellAt _ (by omega)).trans f1, (h.cellAt _ (by omega)).trans f2, (h.cellAt _ (by omega)).trans f3⟩, ⟨h.frozenAt _, h.frozenAt _, h.frozenAt _, h.frozenAt _⟩⟩

set_option maxHeartbeats 1000000 in
theorem idxLf (A : Option Addr) (len cap : Nat) (l : List Lf4) (n d m c : Int) (w : World) (hr : LfRow w w.heap.size A l) (hl : l.length = len) (hm : len ≤ 1000000000000) :
    Calls Try.prog 212 #[.slice A len cap, leafV n d m c] w fun e w' => (∃ r : Int, e = .returned (.int .i64 r) ∧ -1 ≤ r ∧ r ≤ 1000000000000 ∧ Hid (hasL l n d m c = decide (0 ≤ r))) ∧ Below w.heap.size w w' := by
  have HR := Lib.hid hr
  have HL := Lib.hid hl
  clear hr hl
  go_enter Try.func212, Try.ntmps212
  go_wp2
  go_loopw [8] (fun i wr => ∃ k : Nat, k ≤ len ∧ i = .int .i64 k ∧ Hid (∀ j, j < k → ∀ a b e f, l[j]? = some (a, b, e, f) → eqL n d m c a b e f = false) ∧ ∃ q, wr = (w.alloc (.cells #[.int .i64 n, .int .i64 d, .int .i64 m, .int .i64 c] 31)).drewN q) (fun i _ => len - (intOf i).toNat)
  case atStart => exact ⟨0, by omega, rfl, Lib.hid (fun j h => absurd h (by omega)), 0, rfl⟩
  case round =>
    obtain ⟨k, hk, rfl, HY, q, rfl⟩ := hrel
    by_cases hlt : k < len
    · have hkl : k < l.length := by have := HL.out; omega
      obtain ⟨a, b, e, f, hnd⟩ : ∃ a b e f, l[k] = (a, b, e, f) := ⟨_, _, _, _, rfl⟩
      have hk2 : l[k]? = some (a, b, e, f) := by rw [List.getElem?_eq_getElem hkl, hnd]
      have hne : l ≠ [] := by intro h; rw [h] at hkl; simp at hkl
      obtain ⟨g, off, rfl, hbb, hcells⟩ := row_at HR.out hne
      obtain ⟨x0, x1, x2, x3⟩ := hcells k a b e f hk2
      have HK := Lib.hid hk2
      have Q1 := fun W => eqlLf n d m c a b e f W
      clear hnd hcells hk2 hne
      cases hq : eqL n d m c a b e f
      · rw [hq] at Q1
        have HQ := Lib.hid hq
        clear hq
        go_wp2_with fail
        go_quiet (fail)
        go_wp2
        go_roundw
        case rel =>
          refine ⟨k + 1, by omega, by go_num, Lib.hid (fun j hj a' b' e' f' h' => ?_), _, rfl⟩
          by_cases hjk : j = k
          · subst hjk
            rw [HK.out] at h'
            injection h' with h'
            simp only [Prod.mk.injEq] at h'
            obtain ⟨rfl, rfl, rfl, rfl⟩ := h'
            exact HQ.out
          · exact HY.out j (by omega) _ _ _ _ h'
        case measure => simp [intOf]; omega
      · rw [hq] at Q1
        have HQ := Lib.hid (hasL_yes HK.out hq)
        clear hq
        go_wp2_with fail
        go_quiet (fail)
        go_wp2
        go_ret
        refine ⟨⟨_, rfl, by omega, by omega, Lib.hid (by rw [HQ.out]; exact (decide_eq_true (by omega)).symm)⟩, ?_⟩
        (repeat' (first | (with_reducible exact Below.refl _ _) | (with_reducible assumption) | (with_reducible refine belowNext ?_ (by with_reducible assumption)) | (with_reducible refine belowAlloc ?_ _) | (with_reducible refine Below.drew ?_) | (with_reducible refine below_drewN ?_ _) | (with_reducible refine Below.setCell ?_ ?_ _) | go_size | (with_reducible refine sizeOf' ?_) | (with_reducible refine sizeAdd ?_) | (dsimp only; first | (with_reducible refine sizeOf' ?_) | (with_reducible refine sizeAdd ?_))))
    · obtain rfl : k = len := by omega
      have HQ : Hid (hasL l n d m c = false) := Lib.hid (hasL_no (fun i a b e f hi => HY.out i (by
        rcases Nat.lt_or_ge i l.length with h1 | h1
        · have := HL.out; omega
        · rw [List.getElem?_eq_none h1] at hi; cases hi) _ _ _ _ hi))
      go_wp2
      go_ret
      refine ⟨⟨_, rfl, by omega, by omega, Lib.hid (by rw [HQ.out]; rfl)⟩, ?_⟩
      (repeat' (first | (with_reducible exact Below.refl _ _) | (with_reducible assumption) | (with_reducible refine belowNext ?_ (by with_reducible assumption)) | (with_reducible refine belowAlloc ?_ _) | (with_reducible refine Below.drew ?_) | (with_reducible refine below_drewN ?_ _) | (with_reducible refine Below.setCell ?_ ?_ _) | go_size | (with_reducible refine sizeOf' ?_) | (with_reducible refine sizeAdd ?_) | (dsimp only; first | (with_reducible refine sizeOf' ?_) | (with_reducible refine sizeAdd ?_))))

set_option maxHeartbeats 1000000 in
theorem hasLf (A : Option Addr) (len cap : Nat) (l : List Lf4) (n d m c : Int) (w : World) (hr : LfRow w w.heap.size A l) (hl : l.length = len) (hm : len ≤ 1000000000000) :
    Calls Try.prog 192 #[.slice A len cap, leafV n d m c] w fun e w' => e = .returned (.bool (hasL l n d m c)) ∧ Below w.heap.size w w' := by
  have HI : Hid (∀ W : World, Below w.heap.size w W → Calls Try.prog 212 #[.slice A len cap, leafV n d m c] W fun e w' => (∃ r : Int, e = .returned (.int .i64 r) ∧ -1 ≤ r ∧ r ≤ 1000000000000 ∧ Hid (hasL l n d m c = decide (0 ≤ r))) ∧ Below W.heap.size W w') :=
    Lib.hid (fun W hB => idxLf A len cap l n d m c W ((hr.below hB).more hB.size) hl hm)
  clear hr hl
  generalize hasL l n d m c = R at *
  go_enter Try.func192, Try.ntmps192
  go_wp2_with fail
  refine (HI.out _ (by exact belowAlloc (Below.refl _ _) _)).mono ?_
  rintro e w1 ⟨⟨r, rfl, h1, h2, HR⟩, hb1⟩
  go_wp2
  go_ret
  refine ⟨retB (by rw [HR.out]), ?_⟩
  (repeat' (first | (with_reducible exact Below.refl _ _) | (with_reducible assumption) | (with_reducible refine belowNext ?_ (by with_reducible assumption)) | (with_reducible refine belowAlloc ?_ _) | (with_reducible refine Below.drew ?_) | (with_reducible refine below_drewN ?_ _) | (with_reducible refine Below.setCell ?_ ?_ _) | go_size | (with_reducible refine sizeOf' ?_) | (with_reducible refine sizeAdd ?_) | (dsimp only; first | (with_reducible refine sizeOf' ?_) | (with_reducible refine sizeAdd ?_))))
end Go.Proofs.Ytdmppdfncbljoaa

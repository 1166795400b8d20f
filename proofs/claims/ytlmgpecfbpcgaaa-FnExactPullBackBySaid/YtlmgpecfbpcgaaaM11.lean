/-
  Contracts: the conditions for a minor leaf, on the program's side.
-/
import Derived.Test.YtlmgpecfbpcgaaaM10
import Derived.Test.YtlmgpecfbpcgaaaVL13
namespace Go.Proofs.Ytlmgpecfbpcgaaa
open Go.RowKit

set_option maxRecDepth 4000 in
set_option maxHeartbeats 2000000 in
theorem idxAny (F : Nat) (caps : Array Value) (hcf : ∀ args W, (callFunc F args).run Try.prog W = .ok (.enter F args) W) (P : Lf4 → Prop) (A : Option Addr) (len cap : Nat) (l : List Lf4) (w : World) (hr : LfRow w w.heap.size A l) (hl : l.length = len) (hm : len ≤ 1000000000000)
    (HF : ∀ (k : Nat) (n d m c : Int) (W : World), l[k]? = some (n, d, m, c) → Below w.heap.size w W → Calls Try.prog F (#[leafV n d m c] ++ caps) W fun e w' => (∃ r : Bool, e = .returned (.bool r) ∧ Hid (r = true ↔ P (n, d, m, c))) ∧ Below W.heap.size W w') :
    Calls Try.prog 134 #[.slice A len cap, .func (Fn.func F) #[] caps] w fun e w' => (∃ r : Int, e = .returned (.int .i64 r) ∧ -1 ≤ r ∧ r ≤ 1000000000000 ∧ Hid (0 ≤ r ↔ AnyL l P)) ∧ Below w.heap.size w w' := by
  have HR := Lib.hid hr
  have HL := Lib.hid hl
  have HC := Lib.hid HF
  clear hr hl HF
  go_enter Try.func134, Try.ntmps134
  go_wp2
  go_loopw [8] (fun i wr => ∃ k : Nat, k ≤ len ∧ i = .int .i64 k ∧ Hid (∀ (j : Nat) (y : Lf4), j < k → l[j]? = some y → ¬ P y) ∧ Below w.heap.size w wr) (fun i _ => len - (intOf i).toNat)
  case atStart => exact ⟨0, by omega, rfl, Lib.hid (fun j y h => absurd h (by omega)), Below.refl _ _⟩
  case round =>
    obtain ⟨k, hk, rfl, HY, hbe⟩ := hrel
    by_cases hlt : k < len
    · obtain ⟨n, d', m, c', hx⟩ := lfAt (l := l) (k := k) (by have := HL.out; omega)
      have hne : l ≠ [] := by intro h; rw [h] at hx; simp at hx
      obtain ⟨b', off, rfl, hbb, hcells⟩ := row_at HR.out hne
      obtain ⟨x0, x1, x2, x3⟩ := (hcells k n d' m c' hx).next hbe hbb
      have HQ := Lib.hid (fun W hB => HC.out k n d' m c' W hx hB)
      have HX := Lib.hid hx
      clear hcells hne hx
      go_wp2_with fail
      refine (HQ.out _ hbe).mono ?_
      rintro e w1 ⟨⟨r, rfl, HW⟩, hb1⟩
      have hB : Below w.heap.size w w1 := belowNext hbe hb1
      clear x0 x1 x2 x3 hb1 hbe
      cases r
      · go_wp2
        go_roundw
        case rel =>
          refine ⟨k + 1, by omega, by go_num, Lib.hid (fun j y hj hy => ?_), hB⟩
          by_cases hjk : j = k
          · subst hjk
            have p := HX.out
            rw [p] at hy
            injection hy with hy
            rw [← hy]
            exact fun h => by have := HW.out.2 h; cases this
          · exact HY.out j y (by omega) hy
        case measure => simp [intOf]; omega
      · have HN : Hid (AnyL l P) := Lib.hid ⟨k, _, HX.out, HW.out.1 rfl⟩
        go_wp2
        go_ret
        exact ⟨⟨_, rfl, by omega, by omega, Lib.hid ⟨fun _ => HN.out, fun _ => by omega⟩⟩, hB⟩
    · have HN : Hid (¬ AnyL l P) := Lib.hid (fun ⟨j, y, hy, hc⟩ => HY.out j y (by
          rcases Nat.lt_or_ge j l.length with h1 | h1
          · have := HL.out; omega
          · rw [List.getElem?_eq_none h1] at hy; cases hy) hy hc)
      go_wp2
      go_ret
      exact ⟨⟨_, rfl, by omega, by omega, Lib.hid ⟨fun h => absurd h (by omega), fun h => absurd h HN.out⟩⟩, hbe⟩

theorem ctnAny (F : Nat) (caps : Array Value) (hcf : ∀ args W, (callFunc F args).run Try.prog W = .ok (.enter F args) W) (P : Lf4 → Prop) (A : Option Addr) (len cap : Nat) (l : List Lf4) (w : World) (hr : LfRow w w.heap.size A l) (hl : l.length = len) (hm : len ≤ 1000000000000)
    (HF : ∀ (k : Nat) (n d m c : Int) (W : World), l[k]? = some (n, d, m, c) → Below w.heap.size w W → Calls Try.prog F (#[leafV n d m c] ++ caps) W fun e w' => (∃ r : Bool, e = .returned (.bool r) ∧ Hid (r = true ↔ P (n, d, m, c))) ∧ Below W.heap.size W w') :
    Calls Try.prog 107 #[.slice A len cap, .func (Fn.func F) #[] caps] w (ResYes w (AnyL l P)) := by
  have HJ := Lib.hid (idxAny F caps hcf P A len cap l w hr hl hm HF)
  clear hr hl HF hcf
  go_enter Try.func107, Try.ntmps107
  go_wp2_with fail
  refine HJ.out.mono ?_
  rintro e w1 ⟨⟨r, rfl, h1, h2, HR⟩, hb1⟩
  go_wp2
  go_ret
  refine ⟨⟨_, rfl, Lib.hid ?_⟩, ?_⟩
  · rw [decide_eq_true_eq]; exact HR.out
  · (repeat' (first | (with_reducible exact Below.refl _ _) | (with_reducible assumption) | (with_reducible refine belowNext ?_ (by with_reducible assumption)) | (with_reducible refine belowAlloc ?_ _) | (with_reducible refine Below.drew ?_) | (with_reducible refine below_drewN ?_ _) | (with_reducible refine Below.setCell ?_ ?_ _) | go_size | (with_reducible refine sizeOf' ?_) | (with_reducible refine sizeAdd ?_) | (dsimp only; first | (with_reducible refine sizeOf' ?_) | (with_reducible refine sizeAdd ?_))))

set_option maxHeartbeats 1000000 in
theorem closShorter (y x : Lf4) (A : Option Addr) (len cap : Nat) (l : List Lf4) (G : Nat) (w : World) (hy : isLfX y = true) (hx : isLfX x = true) (hr : LfRow w w.heap.size A l) (hl : l.length = len) (h0 : l[0]? = some x) (hG : G < w.heap.size) (H : w.cell? ⟨G, 0, none⟩ = some (.slice A len cap)) :
    Calls Try.prog 104 #[leafV y.1 y.2.1 y.2.2.1 y.2.2.2, .pointer (some ⟨G, 0, none⟩)] w fun e' w' => (∃ r : Bool, e' = .returned (.bool r) ∧ Hid (r = true ↔ lngB y x = true)) ∧ Below w.heap.size w w' := by
  obtain ⟨a, b, c, d⟩ := x
  obtain ⟨e, f, g, h⟩ := y
  obtain ⟨r1, r2, -⟩ := isLf_yes hx
  obtain ⟨r3, r4, -⟩ := isLf_yes hy
  have HC := Lib.hid (fun w => implCmpLen e f g h a b c d w (okOf r3) (okOf r4) (okOf r1) (okOf r2))
  have HD : Hid (lngB (e, f, g, h) (a, b, c, d) = decide (cmpI (dsN e f g h * dsD a b c d) (dsN a b c d * dsD e f g h) < 0)) := Lib.hid (by rw [cmpI_lt]; rfl)
  have hp : 0 < len := by
    rcases Nat.lt_or_ge 0 l.length with h1 | h1
    · omega
    · rw [List.getElem?_eq_none h1] at h0; cases h0
  have hne : l ≠ [] := by intro h; rw [h] at h0; simp at h0
  obtain ⟨b', off, rfl, hbb, hcells⟩ := row_at hr hne
  obtain ⟨x0, x1, x2, x3⟩ := hcells 0 a b c d h0
  simp only [Nat.zero_mul, Nat.add_zero] at x0 x1 x2 x3
  clear hr hl hcells h0 hne hx hy r1 r2 r3 r4
  generalize cmpI (dsN e f g h * dsD a b c d) (dsN a b c d * dsD e f g h) = C at *
  dsimp only
  go_enter Try.func104, Try.ntmps104
  go_wp2_with fail
  go_region_with (first | (go_at_call 56; (with_reducible refine (HC.out _).mono ?_); rintro e' w3 ⟨rfl, hb3⟩))
  all_goals
    go_wp2
    go_ret
    refine ⟨⟨_, rfl, Lib.hid (by rw [HD.out])⟩, ?_⟩
    (repeat' (first | (with_reducible exact Below.refl _ _) | (with_reducible assumption) | (with_reducible refine belowNext ?_ (by with_reducible assumption)) | (with_reducible refine belowAlloc ?_ _) | (with_reducible refine Below.drew ?_) | (with_reducible refine below_drewN ?_ _) | (with_reducible refine Below.setCell ?_ ?_ _) | go_size | (with_reducible refine sizeOf' ?_) | (with_reducible refine sizeAdd ?_) | (dsimp only; first | (with_reducible refine sizeOf' ?_) | (with_reducible refine sizeAdd ?_))))

set_option maxHeartbeats 1000000 in
theorem closMajor (y : Lf4) (A : Option Addr) (len cap : Nat) (l : List Lf4) (G : Nat) (w : World) (hy : isLfX y = true) (hr : LfRow w w.heap.size A l) (hl : l.length = len) (hm : len ≤ 1000000000000) (ha : allLf l = true) (hG : G < w.heap.size) (H : w.cell? ⟨G, 1, none⟩ = some (.slice A len cap)) :
    Calls Try.prog 105 #[leafV y.1 y.2.1 y.2.2.1 y.2.2.2, .pointer (some ⟨G, 0, none⟩)] w fun e' w' => (∃ r : Bool, e' = .returned (.bool r) ∧ Hid (r = true ↔ CrossOne y l)) ∧ Below w.heap.size w w' := by
  obtain ⟨e, f, g, h⟩ := y
  have HC := Lib.hid (fun W (hB : Below w.heap.size w W) => crossOne A len cap l e f g h W ((hr.below hB).more hB.size) hl hm ha hy)
  clear hr hl ha hy
  dsimp only
  go_enter Try.func105, Try.ntmps105
  go_wp2_with fail
  refine (HC.out _ (by exact belowAlloc (Below.refl _ _) _)).mono ?_
  rintro e' w1 ⟨⟨r, rfl, HW⟩, hb1⟩
  go_wp2
  go_ret
  refine ⟨⟨_, rfl, HW⟩, ?_⟩
  (repeat' (first | (with_reducible exact Below.refl _ _) | (with_reducible assumption) | (with_reducible refine belowNext ?_ (by with_reducible assumption)) | (with_reducible refine belowAlloc ?_ _) | (with_reducible refine Below.drew ?_) | (with_reducible refine below_drewN ?_ _) | (with_reducible refine Below.setCell ?_ ?_ _) | go_size | (with_reducible refine sizeOf' ?_) | (with_reducible refine sizeAdd ?_) | (dsimp only; first | (with_reducible refine sizeOf' ?_) | (with_reducible refine sizeAdd ?_))))
end Go.Proofs.Ytlmgpecfbpcgaaa

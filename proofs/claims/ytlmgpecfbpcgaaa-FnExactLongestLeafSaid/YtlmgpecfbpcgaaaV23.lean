/-
  Contracts: what is a lamination, on the model's side.
-/
import Derived.Test.YtlmgpecfbpcgaaaV22
import Derived.Test.YtlmgpecfbpcgaaaV13
import Derived.Test.YtlmgpecfbpcgaaaV5
namespace Go.Proofs.Ytlmgpecfbpcgaaa
open Go.RowKit

/-- The leaf number j is one, comes behind the one before it, and crosses none ahead of it. -/
def GoodAt (l : List Lf4) (j : Nat) : Prop := ∀ x, l[j]? = some x → isLf x.1 x.2.1 x.2.2.1 x.2.2.2 = true ∧ (∀ (t : Nat) (y : Lf4), t + 1 = j → l[t]? = some y → lessX y x = true) ∧ ∀ (t : Nat) (y : Lf4), t < j → l[t]? = some y → crossX x y = false
/-- What the region behind the cut tells. -/
def RegRes (w : World) (P N : Prop) (v : Value) (W : World) : Prop := ∃ r : Bool, v = .bool r ∧ Hid ((r = false → P) ∧ (r = true → N)) ∧ Below w.heap.size w W
theorem lam_iff (l : List Lf4) : Lam l ↔ l.length ≤ 200 ∧ ∀ j, GoodAt l j := by
  constructor
  · rintro ⟨h1, h2, h3, h4⟩
    refine ⟨h1, fun j x hx => ⟨allLf_at (n := x.1) (d := x.2.1) (m := x.2.2.1) (c := x.2.2.2) h2 hx, fun t y ht hy => h3 t y x hy (by rw [ht]; exact hx), fun t y ht hy => h4 j t x y ht hx hy⟩⟩
  · rintro ⟨h1, h2⟩
    refine ⟨h1, allLf_yes (fun i hi => ?_), fun i x y hx hy => (h2 (i + 1) y hy).2.1 i x rfl hx, fun i k x y hk hx hy => (h2 i x hx).2.2 k y hk hy⟩
    obtain ⟨a, b, e, f, hx⟩ := lfAt hi
    exact ⟨a, b, e, f, hx, (h2 i _ hx).1⟩

set_option maxHeartbeats 8000000 in
theorem specLam1 (A : Option Addr) (len cap : Nat) (l : List Lf4) (w : World) (hr : LfRow w w.heap.size A l) (hl : l.length = len) (hm : len ≤ 1000000000000) :
    Calls Try.prog 52 #[.slice A len cap] w (ResYes w (Lam l)) := by
  by_cases h200 : 200 < len
  · have HN : Hid (¬ Lam l) := Lib.hid (fun h => by have := h.1; omega)
    have hI : ((200 : Int) < (len : Int)) := by omega
    clear hr hl
    go_enter Try.func52, Try.ntmps52
    go_wp2
    go_ret
    exact ⟨⟨false, rfl, Lib.hid ⟨fun h => (by cases h), fun h => absurd h HN.out⟩⟩, Below.refl _ _⟩
  · have hI : ¬ ((200 : Int) < (len : Int)) := by omega
    have HR := Lib.hid hr
    have HL := Lib.hid hl
    clear hr hl
    go_enter Try.func52, Try.ntmps52
    go_wp2
    go_loopw [3] (fun i wr => ∃ k : Nat, k ≤ len ∧ i = .int .i64 k ∧ Hid (∀ j, j < k → GoodAt l j) ∧ Below w.heap.size w wr) (fun i _ => len - (intOf i).toNat)
    case atStart => exact ⟨0, by omega, rfl, Lib.hid (fun j h => absurd h (by omega)), Below.refl _ _⟩
    case round =>
      obtain ⟨k, hk, rfl, HY, hbe⟩ := hrel
      by_cases hlt : k < len
      · obtain ⟨n, d', m, c', hx⟩ := lfAt (l := l) (k := k) (by have := HL.out; omega)
        have hne : l ≠ [] := by intro h; rw [h] at hx; simp at hx
        obtain ⟨b', off, rfl, hbb, hcells⟩ := row_at HR.out hne
        have HCe := Lib.hid hcells
        obtain ⟨x0, x1, x2, x3⟩ := (hcells k n d' m c' hx).next hbe hbb
        have HX := Lib.hid hx
        have HF := Lib.hid (fun w => specLf1 n d' m c' w)
        clear hcells hne hx
        have HN0 : Hid (Lam l → isLf n d' m c' = true) := Lib.hid (fun h => (((lam_iff l).1 h).2 k _ HX.out).1)
        have HN1 : Hid (Lam l → ∀ (t : Nat) (y : Lf4), t + 1 = k → l[t]? = some y → lessX y (n, d', m, c') = true) := Lib.hid (fun h => (((lam_iff l).1 h).2 k _ HX.out).2.1)
        go_upto_region 6 with fail
        go_cut [36] (fun s36 wx => RegRes w (isLf n d' m c' = true ∧ ∀ (t : Nat) (y : Lf4), t + 1 = k → l[t]? = some y → lessX y (n, d', m, c') = true) (¬ Lam l) s36 wx)
        case first =>
          cases hi : isLf n d' m c'
          · have HG : Hid ((true = false → isLf n d' m c' = true ∧ ∀ (t : Nat) (y : Lf4), t + 1 = k → l[t]? = some y → lessX y (n, d', m, c') = true) ∧ (true = true → ¬ Lam l)) := Lib.hid ⟨fun h => (by cases h), fun _ h => by have := HN0.out h; rw [hi] at this; cases this⟩
            rw [hi] at HF
            clear hi
            refine wp_region_any (by kernel_rfl) ?_
            try (change wpAny _ _ _ _ _ _ _ (World.drew _))
            refine wpAny_take (i := 0) (v := ?_) rfl (by kernel_rfl) (by kernel_rfl) (by kernel_rfl) (fun _ _ _ h => h) (Or.inl ⟨by kernel_rfl, ?_⟩) ?_
            rotate_left
            · intro w; first | (go_simp; done) | (go_simp; with_reducible rfl)
            refine wpAny_take (i := 1) (v := ?_) rfl (by kernel_rfl) (by kernel_rfl) (by kernel_rfl) (fun _ _ _ h => h) (Or.inl ⟨by kernel_rfl, ?_⟩) ?_
            rotate_left
            · intro w; first | (go_simp; done) | (go_simp; with_reducible rfl)
            refine wpAny_take (i := 2) (v := ?_) rfl (by kernel_rfl) (by kernel_rfl) (by kernel_rfl) (fun _ _ _ h => h) (Or.inl ⟨by kernel_rfl, ?_⟩) ?_
            rotate_left
            · intro w; first | (go_simp; done) | (go_simp; with_reducible rfl)
            refine wpAny_ready (rs := [3]) (by kernel_rfl) (by simp) ?_
            refine AllReady.cons rfl (fun K hK => ?_) AllReady.nil
            go_simp
            refine hK _ _ ?_
            clear hK K
            refine wpAny_ready (rs := [4]) (by kernel_rfl) (by simp) ?_
            refine AllReady.cons rfl (fun K hK => ?_) AllReady.nil
            go_simp
            go_wp2_with (go_at_call 50; (with_reducible refine (HF.out _).mono ?_); rintro e w1 ⟨rfl, hb1⟩)
            refine wpAny_take (i := 5) (v := ?_) rfl (by kernel_rfl) (by kernel_rfl) (by kernel_rfl) (fun _ _ _ h => h) (Or.inl ⟨by kernel_rfl, ?_⟩) ?_
            rotate_left
            · intro w; first | (go_simp; done) | (go_simp; with_reducible rfl)
            refine wpAny_take (i := 6) (v := ?_) rfl (by kernel_rfl) (by kernel_rfl) (by kernel_rfl) (fun _ _ _ h => h) (Or.inl ⟨by kernel_rfl, ?_⟩) ?_
            rotate_left
            · intro w; first | (go_simp; done) | (go_simp; with_reducible rfl)
            refine wpAny_take (i := 7) (v := undef) rfl (by kernel_rfl) (by kernel_rfl) (by kernel_rfl) (fun _ _ _ h => h) (Or.inr ⟨by kernel_rfl, rfl⟩) ?_
            go_simp
            refine wpAny_take (i := 8) (v := undef) rfl (by kernel_rfl) (by kernel_rfl) (by kernel_rfl) (fun _ _ _ h => h) (Or.inr ⟨by kernel_rfl, rfl⟩) ?_
            go_simp
            refine wpAny_take (i := 9) (v := undef) rfl (by kernel_rfl) (by kernel_rfl) (by kernel_rfl) (fun _ _ _ h => h) (Or.inr ⟨by kernel_rfl, rfl⟩) ?_
            go_simp
            refine wpAny_take (i := 10) (v := undef) rfl (by kernel_rfl) (by kernel_rfl) (by kernel_rfl) (fun _ _ _ h => h) (Or.inr ⟨by kernel_rfl, rfl⟩) ?_
            go_simp
            refine wpAny_take (i := 11) (v := undef) rfl (by kernel_rfl) (by kernel_rfl) (by kernel_rfl) (fun _ _ _ h => h) (Or.inr ⟨by kernel_rfl, rfl⟩) ?_
            go_simp
            refine wpAny_take (i := 12) (v := undef) rfl (by kernel_rfl) (by kernel_rfl) (by kernel_rfl) (fun _ _ _ h => h) (Or.inr ⟨by kernel_rfl, rfl⟩) ?_
            go_simp
            refine wpAny_take (i := 13) (v := undef) rfl (by kernel_rfl) (by kernel_rfl) (by kernel_rfl) (fun _ _ _ h => h) (Or.inr ⟨by kernel_rfl, rfl⟩) ?_
            go_simp
            refine wpAny_take (i := 14) (v := undef) rfl (by kernel_rfl) (by kernel_rfl) (by kernel_rfl) (fun _ _ _ h => h) (Or.inr ⟨by kernel_rfl, rfl⟩) ?_
            go_simp
            refine wpAny_take (i := 15) (v := undef) rfl (by kernel_rfl) (by kernel_rfl) (by kernel_rfl) (fun _ _ _ h => h) (Or.inr ⟨by kernel_rfl, rfl⟩) ?_
            go_simp
            refine wpAny_take (i := 16) (v := undef) rfl (by kernel_rfl) (by kernel_rfl) (by kernel_rfl) (fun _ _ _ h => h) (Or.inr ⟨by kernel_rfl, rfl⟩) ?_
            go_simp
            refine wpAny_take (i := 17) (v := undef) rfl (by kernel_rfl) (by kernel_rfl) (by kernel_rfl) (fun _ _ _ h => h) (Or.inr ⟨by kernel_rfl, rfl⟩) ?_
            go_simp
            refine wpAny_take (i := 18) (v := undef) rfl (by kernel_rfl) (by kernel_rfl) (by kernel_rfl) (fun _ _ _ h => h) (Or.inr ⟨by kernel_rfl, rfl⟩) ?_
            go_simp
            refine wpAny_take (i := 19) (v := undef) rfl (by kernel_rfl) (by kernel_rfl) (by kernel_rfl) (fun _ _ _ h => h) (Or.inr ⟨by kernel_rfl, rfl⟩) ?_
            go_simp
            refine wpAny_take (i := 20) (v := undef) rfl (by kernel_rfl) (by kernel_rfl) (by kernel_rfl) (fun _ _ _ h => h) (Or.inr ⟨by kernel_rfl, rfl⟩) ?_
            go_simp
            refine wpAny_take (i := 21) (v := undef) rfl (by kernel_rfl) (by kernel_rfl) (by kernel_rfl) (fun _ _ _ h => h) (Or.inr ⟨by kernel_rfl, rfl⟩) ?_
            go_simp
            refine wpAny_take (i := 22) (v := ?_) rfl (by kernel_rfl) (by kernel_rfl) (by kernel_rfl) (fun _ _ _ h => h) (Or.inl ⟨by kernel_rfl, ?_⟩) ?_
            rotate_left
            · intro w; first | (go_simp; done) | (go_simp; with_reducible rfl)
            refine wpAny_done (by kernel_rfl) ?_ _
            have B1 : Below w.heap.size w w1 := by
              (repeat' (first | (with_reducible exact Below.refl _ _) | (with_reducible assumption) | (with_reducible refine belowNext ?_ (by with_reducible assumption)) | (with_reducible refine belowAlloc ?_ _) | (with_reducible refine Below.drew ?_) | (with_reducible refine below_drewN ?_ _) | (with_reducible refine Below.setCell ?_ ?_ _) | go_size | (with_reducible refine sizeOf' ?_) | (with_reducible refine sizeAdd ?_) | (dsimp only; first | (with_reducible refine sizeOf' ?_) | (with_reducible refine sizeAdd ?_))))
            go_wp2_with fail
            go_meet
            exact ⟨true, rfl, Lib.hid ⟨fun h => (by cases h), fun _ => (by first | exact HG.out.2 trivial | exact HG.out.2 rfl)⟩, B1⟩
          · rw [hi] at HF
            by_cases hk0 : k = 0
            · have HG : Hid ((false = false → isLf n d' m c' = true ∧ ∀ (t : Nat) (y : Lf4), t + 1 = k → l[t]? = some y → lessX y (n, d', m, c') = true) ∧ (false = true → ¬ Lam l)) := Lib.hid ⟨fun _ => ⟨hi, fun t y ht _ => by omega⟩, fun h => (by cases h)⟩
              have hk0'' : ¬ ((0 : Int) < (k : Int)) := by omega
              have hk1'' : ((0 : Int) < (k : Int)) = False := by simp; omega
              have hk2'' : ¬ (0 < k) := by omega
              clear hi
              subst hk0
              simp only [Nat.zero_mul, Nat.add_zero] at x0 x1 x2 x3
              refine wp_region_any (by kernel_rfl) ?_
              try (change wpAny _ _ _ _ _ _ _ (World.drew _))
              refine wpAny_take (i := 0) (v := ?_) rfl (by kernel_rfl) (by kernel_rfl) (by kernel_rfl) (fun _ _ _ h => h) (Or.inl ⟨by kernel_rfl, ?_⟩) ?_
              rotate_left
              · intro w; first | (go_simp; done) | (go_simp; with_reducible rfl)
              refine wpAny_take (i := 1) (v := ?_) rfl (by kernel_rfl) (by kernel_rfl) (by kernel_rfl) (fun _ _ _ h => h) (Or.inl ⟨by kernel_rfl, ?_⟩) ?_
              rotate_left
              · intro w; first | (go_simp; done) | (go_simp; with_reducible rfl)
              refine wpAny_take (i := 2) (v := ?_) rfl (by kernel_rfl) (by kernel_rfl) (by kernel_rfl) (fun _ _ _ h => h) (Or.inl ⟨by kernel_rfl, ?_⟩) ?_
              rotate_left
              · intro w; first | (go_simp; done) | (go_simp; with_reducible rfl)
              refine wpAny_ready (rs := [3]) (by kernel_rfl) (by simp) ?_
              refine AllReady.cons rfl (fun K hK => ?_) AllReady.nil
              go_simp
              refine hK _ _ ?_
              clear hK K
              refine wpAny_ready (rs := [4]) (by kernel_rfl) (by simp) ?_
              refine AllReady.cons rfl (fun K hK => ?_) AllReady.nil
              go_simp
              go_wp2_with (go_at_call 50; (with_reducible refine (HF.out _).mono ?_); rintro e w1 ⟨rfl, hb1⟩)
              refine wpAny_take (i := 5) (v := ?_) rfl (by kernel_rfl) (by kernel_rfl) (by kernel_rfl) (fun _ _ _ h => h) (Or.inl ⟨by kernel_rfl, ?_⟩) ?_
              rotate_left
              · intro w; first | (go_simp; done) | (go_simp; with_reducible rfl)
              refine wpAny_take (i := 6) (v := ?_) rfl (by kernel_rfl) (by kernel_rfl) (by kernel_rfl) (fun _ _ _ h => h) (Or.inl ⟨by kernel_rfl, ?_⟩) ?_
              rotate_left
              · intro w; first | (go_simp; done) | (go_simp; with_reducible rfl)
              refine wpAny_take (i := 7) (v := ?_) rfl (by kernel_rfl) (by kernel_rfl) (by kernel_rfl) (fun _ _ _ h => h) (Or.inl ⟨by kernel_rfl, ?_⟩) ?_
              rotate_left
              · intro w; first | (go_simp; done) | (go_simp; with_reducible rfl)
              refine wpAny_take (i := 8) (v := ?_) rfl (by kernel_rfl) (by kernel_rfl) (by kernel_rfl) (fun _ _ _ h => h) (Or.inl ⟨by kernel_rfl, ?_⟩) ?_
              rotate_left
              · intro w; first | (go_simp; done) | (go_simp; with_reducible rfl)
              refine wpAny_take (i := 9) (v := ?_) rfl (by kernel_rfl) (by kernel_rfl) (by kernel_rfl) (fun _ _ _ h => h) (Or.inl ⟨by kernel_rfl, ?_⟩) ?_
              rotate_left
              · intro w; first | (go_simp; done) | (go_simp; with_reducible rfl)
              refine wpAny_take (i := 10) (v := undef) rfl (by kernel_rfl) (by kernel_rfl) (by kernel_rfl) (fun _ _ _ h => h) (Or.inr ⟨by kernel_rfl, rfl⟩) ?_
              go_simp
              refine wpAny_take (i := 11) (v := undef) rfl (by kernel_rfl) (by kernel_rfl) (by kernel_rfl) (fun _ _ _ h => h) (Or.inr ⟨by kernel_rfl, rfl⟩) ?_
              go_simp
              refine wpAny_take (i := 12) (v := undef) rfl (by kernel_rfl) (by kernel_rfl) (by kernel_rfl) (fun _ _ _ h => h) (Or.inr ⟨by kernel_rfl, rfl⟩) ?_
              go_simp
              refine wpAny_take (i := 13) (v := undef) rfl (by kernel_rfl) (by kernel_rfl) (by kernel_rfl) (fun _ _ _ h => h) (Or.inr ⟨by kernel_rfl, rfl⟩) ?_
              go_simp
              refine wpAny_take (i := 14) (v := undef) rfl (by kernel_rfl) (by kernel_rfl) (by kernel_rfl) (fun _ _ _ h => h) (Or.inr ⟨by kernel_rfl, rfl⟩) ?_
              go_simp
              refine wpAny_take (i := 15) (v := undef) rfl (by kernel_rfl) (by kernel_rfl) (by kernel_rfl) (fun _ _ _ h => h) (Or.inr ⟨by kernel_rfl, rfl⟩) ?_
              go_simp
              refine wpAny_take (i := 16) (v := undef) rfl (by kernel_rfl) (by kernel_rfl) (by kernel_rfl) (fun _ _ _ h => h) (Or.inr ⟨by kernel_rfl, rfl⟩) ?_
              go_simp
              refine wpAny_take (i := 17) (v := undef) rfl (by kernel_rfl) (by kernel_rfl) (by kernel_rfl) (fun _ _ _ h => h) (Or.inr ⟨by kernel_rfl, rfl⟩) ?_
              go_simp
              refine wpAny_take (i := 18) (v := undef) rfl (by kernel_rfl) (by kernel_rfl) (by kernel_rfl) (fun _ _ _ h => h) (Or.inr ⟨by kernel_rfl, rfl⟩) ?_
              go_simp
              refine wpAny_take (i := 19) (v := undef) rfl (by kernel_rfl) (by kernel_rfl) (by kernel_rfl) (fun _ _ _ h => h) (Or.inr ⟨by kernel_rfl, rfl⟩) ?_
              go_simp
              refine wpAny_take (i := 20) (v := undef) rfl (by kernel_rfl) (by kernel_rfl) (by kernel_rfl) (fun _ _ _ h => h) (Or.inr ⟨by kernel_rfl, rfl⟩) ?_
              go_simp
              refine wpAny_take (i := 21) (v := ?_) rfl (by kernel_rfl) (by kernel_rfl) (by kernel_rfl) (fun _ _ _ h => h) (Or.inl ⟨by kernel_rfl, ?_⟩) ?_
              rotate_left
              · intro w; first | (go_simp; done) | (go_simp; with_reducible rfl)
              refine wpAny_take (i := 22) (v := ?_) rfl (by kernel_rfl) (by kernel_rfl) (by kernel_rfl) (fun _ _ _ h => h) (Or.inl ⟨by kernel_rfl, ?_⟩) ?_
              rotate_left
              · intro w; first | (go_simp; done) | (go_simp; with_reducible rfl)
              refine wpAny_done (by kernel_rfl) ?_ _
              have B1 : Below w.heap.size w w1 := by
                (repeat' (first | (with_reducible exact Below.refl _ _) | (with_reducible assumption) | (with_reducible refine belowNext ?_ (by with_reducible assumption)) | (with_reducible refine belowAlloc ?_ _) | (with_reducible refine Below.drew ?_) | (with_reducible refine below_drewN ?_ _) | (with_reducible refine Below.setCell ?_ ?_ _) | go_size | (with_reducible refine sizeOf' ?_) | (with_reducible refine sizeAdd ?_) | (dsimp only; first | (with_reducible refine sizeOf' ?_) | (with_reducible refine sizeAdd ?_))))
              go_wp2_with fail
              go_meet
              exact ⟨false, rfl, Lib.hid ⟨fun _ => (by first | exact HG.out.1 trivial | exact HG.out.1 rfl), fun h => (by cases h)⟩, B1⟩
            · obtain ⟨q, hq⟩ : ∃ q : Nat, k = q + 1 := ⟨k - 1, by omega⟩
              have hk2 : ((k : Int) - 1) = (q : Int) := by omega
              have hw : IntKind.i64.wrap (q : Int) = (q : Int) := IntWalk.i64_in _ (by omega)
              have hql : q < len := by omega
              have hk0'' : ((0 : Int) < (k : Int)) := by omega
              have hk2'' : 0 < k := by omega
              obtain ⟨p, p', o, o', hy⟩ := lfAt (l := l) (k := q) (by have := HL.out; omega)
              obtain ⟨y0, y1, y2, y3⟩ := (HCe.out q p p' o o' hy).next hbe hbb
              obtain ⟨r1, r2, -⟩ := isLf_yes ((HY.out q (by omega)) _ hy).1
              obtain ⟨r3, r4, -⟩ := isLf_yes hi
              have HLe := Lib.hid (fun w => specLessL p p' o o' n d' m c' w (okOf r1) (okOf r2) (okOf r3) (okOf r4))
              have HG : Hid ((lessX (p, p', o, o') (n, d', m, c') = true → isLf n d' m c' = true ∧ ∀ (t : Nat) (y : Lf4), t + 1 = k → l[t]? = some y → lessX y (n, d', m, c') = true) ∧ (lessX (p, p', o, o') (n, d', m, c') = false → ¬ Lam l)) := Lib.hid ⟨fun hle => ⟨hi, fun t y ht hyt => by
                obtain rfl : t = q := by omega
                rw [hy] at hyt
                injection hyt with hyt
                rw [← hyt]; exact hle⟩, fun hle h => by
                have := HN1.out h q _ hq.symm hy
                rw [hle] at this; cases this⟩
              have HEq : Hid (lessL p p' o o' n d' m c' = lessX (p, p', o, o') (n, d', m, c')) := Lib.hid rfl
              clear hi hk0 hq hy r1 r2 r3 r4 HCe
              have hbd : b' < wr.drew.heap.size := Nat.lt_of_lt_of_le hbb hbe.size
              cases hle : lessX (p, p', o, o') (n, d', m, c')
              · have HG2 := Lib.hid (And.intro (HG.out.1) (HG.out.2))
                rw [HEq.out, hle] at HLe
                rw [hle] at HG2
                clear hle HG HEq
                refine wp_region_any (by kernel_rfl) ?_
                try (change wpAny _ _ _ _ _ _ _ (World.drew _))
                refine wpAny_take (i := 0) (v := ?_) rfl (by kernel_rfl) (by kernel_rfl) (by kernel_rfl) (fun _ _ _ h => h) (Or.inl ⟨by kernel_rfl, ?_⟩) ?_
                rotate_left
                · intro w; first | (go_simp; done) | (go_simp; with_reducible rfl)
                refine wpAny_take (i := 1) (v := ?_) rfl (by kernel_rfl) (by kernel_rfl) (by kernel_rfl) (fun _ _ _ h => h) (Or.inl ⟨by kernel_rfl, ?_⟩) ?_
                rotate_left
                · intro w; first | (go_simp; done) | (go_simp; with_reducible rfl)
                refine wpAny_take (i := 2) (v := ?_) rfl (by kernel_rfl) (by kernel_rfl) (by kernel_rfl) (fun _ _ _ h => h) (Or.inl ⟨by kernel_rfl, ?_⟩) ?_
                rotate_left
                · intro w; first | (go_simp; done) | (go_simp; with_reducible rfl)
                refine wpAny_ready (rs := [3]) (by kernel_rfl) (by simp) ?_
                refine AllReady.cons rfl (fun K hK => ?_) AllReady.nil
                go_simp
                refine hK _ _ ?_
                clear hK K
                refine wpAny_ready (rs := [4]) (by kernel_rfl) (by simp) ?_
                refine AllReady.cons rfl (fun K hK => ?_) AllReady.nil
                go_simp
                go_wp2_with (go_at_call 50; (with_reducible refine (HF.out _).mono ?_); rintro e w1 ⟨rfl, hb1⟩)
                refine wpAny_take (i := 5) (v := ?_) rfl (by kernel_rfl) (by kernel_rfl) (by kernel_rfl) (fun _ _ _ h => h) (Or.inl ⟨by kernel_rfl, ?_⟩) ?_
                rotate_left
                · intro w; first | (go_simp; done) | (go_simp; with_reducible rfl)
                refine wpAny_take (i := 6) (v := ?_) rfl (by kernel_rfl) (by kernel_rfl) (by kernel_rfl) (fun _ _ _ h => h) (Or.inl ⟨by kernel_rfl, ?_⟩) ?_
                rotate_left
                · intro w; first | (go_simp; done) | (go_simp; with_reducible rfl)
                have hx1 := cellThru hb1 hbd x0
                have hx2 := cellThru hb1 hbd x1
                have hx3 := cellThru hb1 hbd x2
                have hx4 := cellThru hb1 hbd x3
                have hy1 := cellThru hb1 hbd y0
                have hy2 := cellThru hb1 hbd y1
                have hy3 := cellThru hb1 hbd y2
                have hy4 := cellThru hb1 hbd y3
                refine wpAny_take (i := 7) (v := ?_) rfl (by kernel_rfl) (by kernel_rfl) (by kernel_rfl) (fun _ _ _ h => h) (Or.inl ⟨by kernel_rfl, ?_⟩) ?_
                rotate_left
                · intro w; first | (go_simp; done) | (go_simp; with_reducible rfl)
                refine wpAny_take (i := 8) (v := ?_) rfl (by kernel_rfl) (by kernel_rfl) (by kernel_rfl) (fun _ _ _ h => h) (Or.inl ⟨by kernel_rfl, ?_⟩) ?_
                rotate_left
                · intro w; first | (go_simp; done) | (go_simp; with_reducible rfl)
                refine wpAny_take (i := 9) (v := ?_) rfl (by kernel_rfl) (by kernel_rfl) (by kernel_rfl) (fun _ _ _ h => h) (Or.inl ⟨by kernel_rfl, ?_⟩) ?_
                rotate_left
                · intro w; first | (go_simp; done) | (go_simp; with_reducible rfl)
                refine wpAny_take (i := 10) (v := ?_) rfl (by kernel_rfl) (by kernel_rfl) (by kernel_rfl) (fun _ _ _ h => h) (Or.inl ⟨by kernel_rfl, ?_⟩) ?_
                rotate_left
                · intro w; first | (go_simp; done) | (go_simp; with_reducible rfl)
                refine wpAny_take (i := 11) (v := ?_) rfl (by kernel_rfl) (by kernel_rfl) (by kernel_rfl) (fun _ _ _ h => h) (Or.inl ⟨by kernel_rfl, ?_⟩) ?_
                rotate_left
                · intro w; first | (go_simp; done) | (go_simp; with_reducible rfl)
                refine wpAny_take (i := 12) (v := ?_) rfl (by kernel_rfl) (by kernel_rfl) (by kernel_rfl) (fun _ _ _ h => h) (Or.inl ⟨by kernel_rfl, ?_⟩) ?_
                rotate_left
                · intro w; first | (go_simp; done) | (go_simp; with_reducible rfl)
                refine wpAny_take (i := 13) (v := ?_) rfl (by kernel_rfl) (by kernel_rfl) (by kernel_rfl) (fun _ _ _ h => h) (Or.inl ⟨by kernel_rfl, ?_⟩) ?_
                rotate_left
                · intro w; first | (go_simp; done) | (go_simp; with_reducible rfl)
                refine wpAny_take (i := 15) (v := ?_) rfl (by kernel_rfl) (by kernel_rfl) (by kernel_rfl) (fun _ _ _ h => h) (Or.inl ⟨by kernel_rfl, ?_⟩) ?_
                rotate_left
                · intro w; first | (go_simp; done) | (go_simp; with_reducible rfl)
                refine wpAny_take (i := 16) (v := ?_) rfl (by kernel_rfl) (by kernel_rfl) (by kernel_rfl) (fun _ _ _ h => h) (Or.inl ⟨by kernel_rfl, ?_⟩) ?_
                rotate_left
                · intro w; first | (go_simp; done) | (go_simp; with_reducible rfl)
                refine wpAny_take (i := 17) (v := ?_) rfl (by kernel_rfl) (by kernel_rfl) (by kernel_rfl) (fun _ _ _ h => h) (Or.inl ⟨by kernel_rfl, ?_⟩) ?_
                rotate_left
                · intro w; first | (go_simp; done) | (go_simp; with_reducible rfl)
                refine wpAny_ready (rs := [14, 18]) (by kernel_rfl) (by simp) ?_
                refine AllReady.cons rfl (fun K hK => ?_) (AllReady.cons rfl (fun K hK => ?_) AllReady.nil)
                · go_simp
                  refine hK _ _ ?_
                  clear hK K
                  refine wpAny_ready (rs := [18]) (by kernel_rfl) (by simp) ?_
                  refine AllReady.cons rfl (fun K hK => ?_) AllReady.nil
                  go_simp
                  refine hK _ _ ?_
                  clear hK K
                  refine wpAny_ready (rs := [19]) (by kernel_rfl) (by simp) ?_
                  refine AllReady.cons rfl (fun K hK => ?_) AllReady.nil
                  go_simp
                  go_wp2_with (go_at_call 91; (with_reducible refine (HLe.out _).mono ?_); rintro e w2 ⟨rfl, hb2⟩)
                  refine wpAny_take (i := 20) (v := ?_) rfl (by kernel_rfl) (by kernel_rfl) (by kernel_rfl) (fun _ _ _ h => h) (Or.inl ⟨by kernel_rfl, ?_⟩) ?_
                  rotate_left
                  · intro w; first | (go_simp; done) | (go_simp; with_reducible rfl)
                  refine wpAny_take (i := 21) (v := ?_) rfl (by kernel_rfl) (by kernel_rfl) (by kernel_rfl) (fun _ _ _ h => h) (Or.inl ⟨by kernel_rfl, ?_⟩) ?_
                  rotate_left
                  · intro w; first | (go_simp; done) | (go_simp; with_reducible rfl)
                  refine wpAny_take (i := 22) (v := ?_) rfl (by kernel_rfl) (by kernel_rfl) (by kernel_rfl) (fun _ _ _ h => h) (Or.inl ⟨by kernel_rfl, ?_⟩) ?_
                  rotate_left
                  · intro w; first | (go_simp; done) | (go_simp; with_reducible rfl)
                  refine wpAny_done (by kernel_rfl) ?_ _
                  have B1 : Below w.heap.size w w2 := by
                    (repeat' (first | (with_reducible exact Below.refl _ _) | (with_reducible assumption) | (with_reducible refine belowNext ?_ (by with_reducible assumption)) | (with_reducible refine belowAlloc ?_ _) | (with_reducible refine Below.drew ?_) | (with_reducible refine below_drewN ?_ _) | (with_reducible refine Below.setCell ?_ ?_ _) | go_size | (with_reducible refine sizeOf' ?_) | (with_reducible refine sizeAdd ?_) | (dsimp only; first | (with_reducible refine sizeOf' ?_) | (with_reducible refine sizeAdd ?_))))
                  go_wp2_with fail
                  go_meet
                  exact ⟨true, rfl, Lib.hid ⟨fun h => (by cases h), fun _ => (by first | exact HG2.out.2 trivial | exact HG2.out.2 rfl)⟩, B1⟩
                · go_simp
                  refine hK _ _ ?_
                  clear hK K
                  refine wpAny_ready (rs := [14]) (by kernel_rfl) (by simp) ?_
                  refine AllReady.cons rfl (fun K hK => ?_) AllReady.nil
                  go_simp
                  refine hK _ _ ?_
                  clear hK K
                  refine wpAny_ready (rs := [19]) (by kernel_rfl) (by simp) ?_
                  refine AllReady.cons rfl (fun K hK => ?_) AllReady.nil
                  go_simp
                  go_wp2_with (go_at_call 91; (with_reducible refine (HLe.out _).mono ?_); rintro e w2 ⟨rfl, hb2⟩)
                  refine wpAny_take (i := 20) (v := ?_) rfl (by kernel_rfl) (by kernel_rfl) (by kernel_rfl) (fun _ _ _ h => h) (Or.inl ⟨by kernel_rfl, ?_⟩) ?_
                  rotate_left
                  · intro w; first | (go_simp; done) | (go_simp; with_reducible rfl)
                  refine wpAny_take (i := 21) (v := ?_) rfl (by kernel_rfl) (by kernel_rfl) (by kernel_rfl) (fun _ _ _ h => h) (Or.inl ⟨by kernel_rfl, ?_⟩) ?_
                  rotate_left
                  · intro w; first | (go_simp; done) | (go_simp; with_reducible rfl)
                  refine wpAny_take (i := 22) (v := ?_) rfl (by kernel_rfl) (by kernel_rfl) (by kernel_rfl) (fun _ _ _ h => h) (Or.inl ⟨by kernel_rfl, ?_⟩) ?_
                  rotate_left
                  · intro w; first | (go_simp; done) | (go_simp; with_reducible rfl)
                  refine wpAny_done (by kernel_rfl) ?_ _
                  have B1 : Below w.heap.size w w2 := by
                    (repeat' (first | (with_reducible exact Below.refl _ _) | (with_reducible assumption) | (with_reducible refine belowNext ?_ (by with_reducible assumption)) | (with_reducible refine belowAlloc ?_ _) | (with_reducible refine Below.drew ?_) | (with_reducible refine below_drewN ?_ _) | (with_reducible refine Below.setCell ?_ ?_ _) | go_size | (with_reducible refine sizeOf' ?_) | (with_reducible refine sizeAdd ?_) | (dsimp only; first | (with_reducible refine sizeOf' ?_) | (with_reducible refine sizeAdd ?_))))
                  go_wp2_with fail
                  go_meet
                  exact ⟨true, rfl, Lib.hid ⟨fun h => (by cases h), fun _ => (by first | exact HG2.out.2 trivial | exact HG2.out.2 rfl)⟩, B1⟩
              · have HG2 := Lib.hid (And.intro (HG.out.1) (HG.out.2))
                rw [HEq.out, hle] at HLe
                rw [hle] at HG2
                clear hle HG HEq
                refine wp_region_any (by kernel_rfl) ?_
                try (change wpAny _ _ _ _ _ _ _ (World.drew _))
                refine wpAny_take (i := 0) (v := ?_) rfl (by kernel_rfl) (by kernel_rfl) (by kernel_rfl) (fun _ _ _ h => h) (Or.inl ⟨by kernel_rfl, ?_⟩) ?_
                rotate_left
                · intro w; first | (go_simp; done) | (go_simp; with_reducible rfl)
                refine wpAny_take (i := 1) (v := ?_) rfl (by kernel_rfl) (by kernel_rfl) (by kernel_rfl) (fun _ _ _ h => h) (Or.inl ⟨by kernel_rfl, ?_⟩) ?_
                rotate_left
                · intro w; first | (go_simp; done) | (go_simp; with_reducible rfl)
                refine wpAny_take (i := 2) (v := ?_) rfl (by kernel_rfl) (by kernel_rfl) (by kernel_rfl) (fun _ _ _ h => h) (Or.inl ⟨by kernel_rfl, ?_⟩) ?_
                rotate_left
                · intro w; first | (go_simp; done) | (go_simp; with_reducible rfl)
                refine wpAny_ready (rs := [3]) (by kernel_rfl) (by simp) ?_
                refine AllReady.cons rfl (fun K hK => ?_) AllReady.nil
                go_simp
                refine hK _ _ ?_
                clear hK K
                refine wpAny_ready (rs := [4]) (by kernel_rfl) (by simp) ?_
                refine AllReady.cons rfl (fun K hK => ?_) AllReady.nil
                go_simp
                go_wp2_with (go_at_call 50; (with_reducible refine (HF.out _).mono ?_); rintro e w1 ⟨rfl, hb1⟩)
                refine wpAny_take (i := 5) (v := ?_) rfl (by kernel_rfl) (by kernel_rfl) (by kernel_rfl) (fun _ _ _ h => h) (Or.inl ⟨by kernel_rfl, ?_⟩) ?_
                rotate_left
                · intro w; first | (go_simp; done) | (go_simp; with_reducible rfl)
                refine wpAny_take (i := 6) (v := ?_) rfl (by kernel_rfl) (by kernel_rfl) (by kernel_rfl) (fun _ _ _ h => h) (Or.inl ⟨by kernel_rfl, ?_⟩) ?_
                rotate_left
                · intro w; first | (go_simp; done) | (go_simp; with_reducible rfl)
                have hx1 := cellThru hb1 hbd x0
                have hx2 := cellThru hb1 hbd x1
                have hx3 := cellThru hb1 hbd x2
                have hx4 := cellThru hb1 hbd x3
                have hy1 := cellThru hb1 hbd y0
                have hy2 := cellThru hb1 hbd y1
                have hy3 := cellThru hb1 hbd y2
                have hy4 := cellThru hb1 hbd y3
                refine wpAny_take (i := 7) (v := ?_) rfl (by kernel_rfl) (by kernel_rfl) (by kernel_rfl) (fun _ _ _ h => h) (Or.inl ⟨by kernel_rfl, ?_⟩) ?_
                rotate_left
                · intro w; first | (go_simp; done) | (go_simp; with_reducible rfl)
                refine wpAny_take (i := 8) (v := ?_) rfl (by kernel_rfl) (by kernel_rfl) (by kernel_rfl) (fun _ _ _ h => h) (Or.inl ⟨by kernel_rfl, ?_⟩) ?_
                rotate_left
                · intro w; first | (go_simp; done) | (go_simp; with_reducible rfl)
                refine wpAny_take (i := 9) (v := ?_) rfl (by kernel_rfl) (by kernel_rfl) (by kernel_rfl) (fun _ _ _ h => h) (Or.inl ⟨by kernel_rfl, ?_⟩) ?_
                rotate_left
                · intro w; first | (go_simp; done) | (go_simp; with_reducible rfl)
                refine wpAny_take (i := 10) (v := ?_) rfl (by kernel_rfl) (by kernel_rfl) (by kernel_rfl) (fun _ _ _ h => h) (Or.inl ⟨by kernel_rfl, ?_⟩) ?_
                rotate_left
                · intro w; first | (go_simp; done) | (go_simp; with_reducible rfl)
                refine wpAny_take (i := 11) (v := ?_) rfl (by kernel_rfl) (by kernel_rfl) (by kernel_rfl) (fun _ _ _ h => h) (Or.inl ⟨by kernel_rfl, ?_⟩) ?_
                rotate_left
                · intro w; first | (go_simp; done) | (go_simp; with_reducible rfl)
                refine wpAny_take (i := 12) (v := ?_) rfl (by kernel_rfl) (by kernel_rfl) (by kernel_rfl) (fun _ _ _ h => h) (Or.inl ⟨by kernel_rfl, ?_⟩) ?_
                rotate_left
                · intro w; first | (go_simp; done) | (go_simp; with_reducible rfl)
                refine wpAny_take (i := 13) (v := ?_) rfl (by kernel_rfl) (by kernel_rfl) (by kernel_rfl) (fun _ _ _ h => h) (Or.inl ⟨by kernel_rfl, ?_⟩) ?_
                rotate_left
                · intro w; first | (go_simp; done) | (go_simp; with_reducible rfl)
                refine wpAny_take (i := 15) (v := ?_) rfl (by kernel_rfl) (by kernel_rfl) (by kernel_rfl) (fun _ _ _ h => h) (Or.inl ⟨by kernel_rfl, ?_⟩) ?_
                rotate_left
                · intro w; first | (go_simp; done) | (go_simp; with_reducible rfl)
                refine wpAny_take (i := 16) (v := ?_) rfl (by kernel_rfl) (by kernel_rfl) (by kernel_rfl) (fun _ _ _ h => h) (Or.inl ⟨by kernel_rfl, ?_⟩) ?_
                rotate_left
                · intro w; first | (go_simp; done) | (go_simp; with_reducible rfl)
                refine wpAny_take (i := 17) (v := ?_) rfl (by kernel_rfl) (by kernel_rfl) (by kernel_rfl) (fun _ _ _ h => h) (Or.inl ⟨by kernel_rfl, ?_⟩) ?_
                rotate_left
                · intro w; first | (go_simp; done) | (go_simp; with_reducible rfl)
                refine wpAny_ready (rs := [14, 18]) (by kernel_rfl) (by simp) ?_
                refine AllReady.cons rfl (fun K hK => ?_) (AllReady.cons rfl (fun K hK => ?_) AllReady.nil)
                · go_simp
                  refine hK _ _ ?_
                  clear hK K
                  refine wpAny_ready (rs := [18]) (by kernel_rfl) (by simp) ?_
                  refine AllReady.cons rfl (fun K hK => ?_) AllReady.nil
                  go_simp
                  refine hK _ _ ?_
                  clear hK K
                  refine wpAny_ready (rs := [19]) (by kernel_rfl) (by simp) ?_
                  refine AllReady.cons rfl (fun K hK => ?_) AllReady.nil
                  go_simp
                  go_wp2_with (go_at_call 91; (with_reducible refine (HLe.out _).mono ?_); rintro e w2 ⟨rfl, hb2⟩)
                  refine wpAny_take (i := 20) (v := ?_) rfl (by kernel_rfl) (by kernel_rfl) (by kernel_rfl) (fun _ _ _ h => h) (Or.inl ⟨by kernel_rfl, ?_⟩) ?_
                  rotate_left
                  · intro w; first | (go_simp; done) | (go_simp; with_reducible rfl)
                  refine wpAny_take (i := 21) (v := ?_) rfl (by kernel_rfl) (by kernel_rfl) (by kernel_rfl) (fun _ _ _ h => h) (Or.inl ⟨by kernel_rfl, ?_⟩) ?_
                  rotate_left
                  · intro w; first | (go_simp; done) | (go_simp; with_reducible rfl)
                  refine wpAny_take (i := 22) (v := ?_) rfl (by kernel_rfl) (by kernel_rfl) (by kernel_rfl) (fun _ _ _ h => h) (Or.inl ⟨by kernel_rfl, ?_⟩) ?_
                  rotate_left
                  · intro w; first | (go_simp; done) | (go_simp; with_reducible rfl)
                  refine wpAny_done (by kernel_rfl) ?_ _
                  have B1 : Below w.heap.size w w2 := by
                    (repeat' (first | (with_reducible exact Below.refl _ _) | (with_reducible assumption) | (with_reducible refine belowNext ?_ (by with_reducible assumption)) | (with_reducible refine belowAlloc ?_ _) | (with_reducible refine Below.drew ?_) | (with_reducible refine below_drewN ?_ _) | (with_reducible refine Below.setCell ?_ ?_ _) | go_size | (with_reducible refine sizeOf' ?_) | (with_reducible refine sizeAdd ?_) | (dsimp only; first | (with_reducible refine sizeOf' ?_) | (with_reducible refine sizeAdd ?_))))
                  go_wp2_with fail
                  go_meet
                  exact ⟨false, rfl, Lib.hid ⟨fun _ => (by first | exact HG2.out.1 trivial | exact HG2.out.1 rfl), fun h => (by cases h)⟩, B1⟩
                · go_simp
                  refine hK _ _ ?_
                  clear hK K
                  refine wpAny_ready (rs := [14]) (by kernel_rfl) (by simp) ?_
                  refine AllReady.cons rfl (fun K hK => ?_) AllReady.nil
                  go_simp
                  refine hK _ _ ?_
                  clear hK K
                  refine wpAny_ready (rs := [19]) (by kernel_rfl) (by simp) ?_
                  refine AllReady.cons rfl (fun K hK => ?_) AllReady.nil
                  go_simp
                  go_wp2_with (go_at_call 91; (with_reducible refine (HLe.out _).mono ?_); rintro e w2 ⟨rfl, hb2⟩)
                  refine wpAny_take (i := 20) (v := ?_) rfl (by kernel_rfl) (by kernel_rfl) (by kernel_rfl) (fun _ _ _ h => h) (Or.inl ⟨by kernel_rfl, ?_⟩) ?_
                  rotate_left
                  · intro w; first | (go_simp; done) | (go_simp; with_reducible rfl)
                  refine wpAny_take (i := 21) (v := ?_) rfl (by kernel_rfl) (by kernel_rfl) (by kernel_rfl) (fun _ _ _ h => h) (Or.inl ⟨by kernel_rfl, ?_⟩) ?_
                  rotate_left
                  · intro w; first | (go_simp; done) | (go_simp; with_reducible rfl)
                  refine wpAny_take (i := 22) (v := ?_) rfl (by kernel_rfl) (by kernel_rfl) (by kernel_rfl) (fun _ _ _ h => h) (Or.inl ⟨by kernel_rfl, ?_⟩) ?_
                  rotate_left
                  · intro w; first | (go_simp; done) | (go_simp; with_reducible rfl)
                  refine wpAny_done (by kernel_rfl) ?_ _
                  have B1 : Below w.heap.size w w2 := by
                    (repeat' (first | (with_reducible exact Below.refl _ _) | (with_reducible assumption) | (with_reducible refine belowNext ?_ (by with_reducible assumption)) | (with_reducible refine belowAlloc ?_ _) | (with_reducible refine Below.drew ?_) | (with_reducible refine below_drewN ?_ _) | (with_reducible refine Below.setCell ?_ ?_ _) | go_size | (with_reducible refine sizeOf' ?_) | (with_reducible refine sizeAdd ?_) | (dsimp only; first | (with_reducible refine sizeOf' ?_) | (with_reducible refine sizeAdd ?_))))
                  go_wp2_with fail
                  go_meet
                  exact ⟨false, rfl, Lib.hid ⟨fun _ => (by first | exact HG2.out.1 trivial | exact HG2.out.1 rfl), fun h => (by cases h)⟩, B1⟩
        case rest =>
          obtain ⟨r, hr, HQ, B1⟩ := hcut
          subst hr
          cases r
          · have HQ2 := Lib.hid (HQ.out.1 rfl)
            clear HQ x0 x1 x2 x3 hbe
            go_wp2
            go_loopw [4] (fun i wi => ∃ t : Nat, t ≤ k ∧ i = .int .i64 t ∧ Hid (∀ (u : Nat) (y : Lf4), u < t → l[u]? = some y → crossX (n, d', m, c') y = false) ∧ Below w.heap.size w wi) (fun i _ => k - (intOf i).toNat)
            case atStart => exact ⟨0, by omega, rfl, Lib.hid (fun u y h => absurd h (by omega)), B1⟩
            case round =>
              obtain ⟨t, ht, rfl, HT, hbi⟩ := hrel
              by_cases htk : t < k
              · obtain ⟨p, p', o, o', hy⟩ := lfAt (l := l) (k := t) (by have := HL.out; omega)
                have htl : t < len := by omega
                obtain ⟨x0, x1, x2, x3⟩ := (HCe.out k n d' m c' HX.out).next hbi hbb
                obtain ⟨y0, y1, y2, y3⟩ := (HCe.out t p p' o o' hy).next hbi hbb
                have HCr := Lib.hid (fun w => specCross n d' m c' p p' o o' w HQ2.out.1 ((HY.out t htk) _ hy).1)
                have HW := Lib.hid hy
                have HE : Hid (crossB n d' m c' p p' o o' = crossX (n, d', m, c') (p, p', o, o')) := Lib.hid rfl
                clear hy
                cases hq : crossB n d' m c' p p' o o'
                · rw [hq] at HCr
                  have HZ := Lib.hid (HE.out.symm.trans hq)
                  clear hq HE
                  go_wp2_with fail
                  go_region_with (first | (go_at_call 92; (with_reducible refine (HCr.out _).mono ?_); rintro e w2 ⟨rfl, hb2⟩))
                  all_goals
                    have B2 : Below w.heap.size w w2 := by
                      (repeat' (first | (with_reducible exact Below.refl _ _) | (with_reducible assumption) | (with_reducible refine belowNext ?_ (by with_reducible assumption)) | (with_reducible refine belowAlloc ?_ _) | (with_reducible refine Below.drew ?_) | (with_reducible refine below_drewN ?_ _) | (with_reducible refine Below.setCell ?_ ?_ _) | go_size | (with_reducible refine sizeOf' ?_) | (with_reducible refine sizeAdd ?_) | (dsimp only; first | (with_reducible refine sizeOf' ?_) | (with_reducible refine sizeAdd ?_))))
                    clear x0 x1 x2 x3 y0 y1 y2 y3 hb2 hbi
                    go_wp2
                    go_roundw
                    case rel =>
                      refine ⟨t + 1, by omega, by go_num, Lib.hid (fun u y hu hyu => ?_), B2⟩
                      by_cases hut : u = t
                      · subst hut
                        have := HW.out
                        rw [this] at hyu
                        injection hyu with hyu
                        rw [← hyu]; exact HZ.out
                      · exact HT.out u y (by omega) hyu
                    case measure => simp [intOf]; omega
                · rw [hq] at HCr
                  have HN : Hid (¬ Lam l) := Lib.hid (fun h => by
                    have := (((lam_iff l).1 h).2 k _ HX.out).2.2 t _ htk HW.out
                    rw [← HE.out, hq] at this; cases this)
                  clear hq HE
                  go_wp2_with fail
                  go_region_with (first | (go_at_call 92; (with_reducible refine (HCr.out _).mono ?_); rintro e w2 ⟨rfl, hb2⟩))
                  all_goals
                    have B2 : Below w.heap.size w w2 := by
                      (repeat' (first | (with_reducible exact Below.refl _ _) | (with_reducible assumption) | (with_reducible refine belowNext ?_ (by with_reducible assumption)) | (with_reducible refine belowAlloc ?_ _) | (with_reducible refine Below.drew ?_) | (with_reducible refine below_drewN ?_ _) | (with_reducible refine Below.setCell ?_ ?_ _) | go_size | (with_reducible refine sizeOf' ?_) | (with_reducible refine sizeAdd ?_) | (dsimp only; first | (with_reducible refine sizeOf' ?_) | (with_reducible refine sizeAdd ?_))))
                    go_wp2
                    go_ret
                    exact ⟨⟨false, rfl, Lib.hid ⟨fun h => (by cases h), fun h => absurd h HN.out⟩⟩, B2⟩
              · obtain rfl : t = k := by omega
                have HG : Hid (GoodAt l t) := Lib.hid (fun x hx => by
                  rw [HX.out] at hx
                  injection hx with hx
                  subst hx
                  exact ⟨HQ2.out.1, HQ2.out.2, fun u y hu hy => HT.out u y hu hy⟩)
                go_wp2
                go_roundw
                case rel =>
                  refine ⟨t + 1, by omega, by go_num, Lib.hid (fun j hj => ?_), hbi⟩
                  by_cases hjt : j = t
                  · subst hjt; exact HG.out
                  · exact HY.out j (by omega)
                case measure => simp [intOf]; omega
          · have HN := Lib.hid (HQ.out.2 rfl)
            go_wp2
            go_ret
            exact ⟨⟨false, rfl, Lib.hid ⟨fun h => (by cases h), fun h => absurd h HN.out⟩⟩, B1⟩
      · have HN : Hid (Lam l) := Lib.hid ((lam_iff l).2 ⟨by have := HL.out; omega, fun j => by
          rcases Nat.lt_or_ge j l.length with h1 | h1
          · exact HY.out j (by have := HL.out; omega)
          · intro x hx; rw [List.getElem?_eq_none h1] at hx; cases hx⟩)
        go_wp2
        go_ret
        exact ⟨⟨true, rfl, Lib.hid ⟨fun _ => HN.out, fun _ => rfl⟩⟩, hbe⟩

end Go.Proofs.Ytlmgpecfbpcgaaa

/-
  Contracts: IsPointOf, on both sides; the walk of its law; written by genE4.py.
-/
import Derived.Test.YtomcmjnhfloeeaaDoorE3
import Derived.Test.YtomcmjnhfloeeaaDoorD10
namespace Go.Proofs.YtomcmjnhfloeeaaDoor
open Go.RowKit

def ipB (a b x y : Wd) : Bool := isSeq a b && (isSeq x y && (starQ a b && ptB a b x y))
def ipC (a b x y : Wd) : Int := if isSeq a b && isSeq x y then (if starQ a b then 0 else 5) else 1
theorem ip_no {a b x y : Wd} (h : isSeq a b = false ∨ isSeq x y = false) : ipB a b x y = false ∧ ipC a b x y = 1 := by
  unfold ipB ipC
  rcases h with h | h <;> simp [h]
theorem ip_st {a b x y : Wd} (h1 : isSeq a b = true) (h2 : isSeq x y = true) (h3 : starQ a b = false) : ipB a b x y = false ∧ ipC a b x y = 5 := by
  unfold ipB ipC; simp [h1, h2, h3]
theorem ip_yes {a b x y : Wd} (h1 : isSeq a b = true) (h2 : isSeq x y = true) (h3 : starQ a b = true) : ipB a b x y = ptB a b x y ∧ ipC a b x y = 0 := by
  unfold ipB ipC; simp [h1, h2, h3]

theorem szQ_le (x y : Wd) : szQ x y ≤ 1048576 := by unfold szQ; split <;> omega
/-- What is left of L when a sequence is counted. -/
def szG (x y : Wd) (L : Int) : Int := if (x.length : Int) + (y.length : Int) ≤ L then L - (x.length : Int) - (y.length : Int) else -1
theorem szG_cases (x y : Wd) (L : Int) (hL : L ≤ 1048576) : (szG x y L = -1) ∨ (0 ≤ szG x y L ∧ x.length + y.length ≤ 1048576) := by
  unfold szG
  split
  · exact .inr ⟨by omega, by omega⟩
  · exact .inl rfl
theorem szSeqG (x y : Wd) (L : Int) (w : World) (hL : 0 ≤ L) (hL2 : L ≤ 1048576) (hx : x.length ≤ 9223372036854775807) (hy : y.length ≤ 9223372036854775807) :
    Calls Tryd.prog 11 #[sqV x y, .int .i64 L] w fun e w' => e = .returned (.int .i64 (szG x y L)) ∧ Below w.heap.size w w' := by
  have hlx := fun W => lenS 9 3 x Tryd.underlying9 W
  have hly := fun W => lenS 9 3 y Tryd.underlying9 W
  have w1 : IntKind.i64.wrap (L - (x.length : Int)) = L - (x.length : Int) := IntWalk.i64_in _ (by omega)
  by_cases h1 : L - (x.length : Int) < 0
  · have e : szG x y L = -1 := by unfold szG; rw [if_neg (by omega)]
    have d1 : decide (L - (x.length : Int) < 0) = true := by simp [h1]
    rw [e]
    generalize (x.length : Int) = a at *
    generalize (y.length : Int) = b at *
    go_enter Tryd.func11, Tryd.ntmps11
    go_wp2
    go_ret
    refine ⟨rfl, ?_⟩
    (repeat' (first | (with_reducible exact Below.refl _ _) | (with_reducible assumption) | (with_reducible refine belowNext ?_ (by with_reducible assumption)) | (with_reducible refine belowAlloc ?_ _) | (with_reducible refine Below.drew ?_) | (with_reducible refine below_drewN ?_ _) | (with_reducible refine Below.setCell ?_ ?_ _) | go_size | (with_reducible refine sizeOf' ?_) | (with_reducible refine sizeAdd ?_) | (dsimp only; first | (with_reducible refine sizeOf' ?_) | (with_reducible refine sizeAdd ?_))))
  · have d1 : decide (L - (x.length : Int) < 0) = false := decide_eq_false h1
    have w2 : IntKind.i64.wrap (L - (x.length : Int) - (y.length : Int)) = L - (x.length : Int) - (y.length : Int) := IntWalk.i64_in _ (by omega)
    by_cases h2 : L - (x.length : Int) - (y.length : Int) < 0
    · have e : szG x y L = -1 := by unfold szG; rw [if_neg (by omega)]
      have d2 : decide (L - (x.length : Int) - (y.length : Int) < 0) = true := decide_eq_true h2
      rw [e]
      generalize (x.length : Int) = a at *
      generalize (y.length : Int) = b at *
      go_enter Tryd.func11, Tryd.ntmps11
      go_wp2
      go_ret
      refine ⟨rfl, ?_⟩
      (repeat' (first | (with_reducible exact Below.refl _ _) | (with_reducible assumption) | (with_reducible refine belowNext ?_ (by with_reducible assumption)) | (with_reducible refine belowAlloc ?_ _) | (with_reducible refine Below.drew ?_) | (with_reducible refine below_drewN ?_ _) | (with_reducible refine Below.setCell ?_ ?_ _) | go_size | (with_reducible refine sizeOf' ?_) | (with_reducible refine sizeAdd ?_) | (dsimp only; first | (with_reducible refine sizeOf' ?_) | (with_reducible refine sizeAdd ?_))))
    · have e : szG x y L = L - (x.length : Int) - (y.length : Int) := by unfold szG; rw [if_pos (by omega)]
      have d2 : decide (L - (x.length : Int) - (y.length : Int) < 0) = false := decide_eq_false h2
      rw [e]
      generalize (x.length : Int) = a at *
      generalize (y.length : Int) = b at *
      go_enter Tryd.func11, Tryd.ntmps11
      go_wp2
      go_ret
      refine ⟨rfl, ?_⟩
      (repeat' (first | (with_reducible exact Below.refl _ _) | (with_reducible assumption) | (with_reducible refine belowNext ?_ (by with_reducible assumption)) | (with_reducible refine belowAlloc ?_ _) | (with_reducible refine Below.drew ?_) | (with_reducible refine below_drewN ?_ _) | (with_reducible refine Below.setCell ?_ ?_ _) | go_size | (with_reducible refine sizeOf' ?_) | (with_reducible refine sizeAdd ?_) | (dsimp only; first | (with_reducible refine sizeOf' ?_) | (with_reducible refine sizeAdd ?_))))

set_option maxHeartbeats 2000000 in
theorem implIsPt (a b x y : Wd) (w : World) (hab : a.length + b.length ≤ 1048576) (hxy : x.length + y.length ≤ 1048576) :
    Calls Tryd.prog 30 #[sqV a b, sqV x y] w fun e w' => e = .returned (.tuple #[.bool (ipB a b x y), .int .i64 (ipC a b x y)]) ∧ Below w.heap.size w w' := by
  have H1 := Lib.hid (fun w => implIsSeq a b w hab)
  have H2 := Lib.hid (fun w => implIsSeq x y w hxy)
  have H3 := Lib.hid (fun (h : isSeq a b = true) w => (implStar a b w (isSeq_yes h).2.1 (isSeq_yes h).2.2.1 (isSeq_yes h).2.2.2.1 : _))
  have H4 := Lib.hid (fun (h : isSeq x y = true) w => implPoint a b x y w (isSeq_yes h).2.2.1 (isSeq_yes h).2.2.2.1)
  have K0 := pq0 w a b x y 25 25
  clear hab hxy
  cases h1 : isSeq a b
  · obtain ⟨E1, E2⟩ := ip_no (x := x) (y := y) (.inl h1)
    rw [E1, E2]
    rw [h1] at H1
    clear h1 E1 E2 H2 H3 H4
    go_enter Tryd.func30, Tryd.ntmps30
    obtain ⟨B, z, v0, v1, s0, s1⟩ := id K0
    go_wp2_with fail
    refine (H1.out _).mono ?_
    rintro e w1 ⟨rfl, hb1⟩
    have K1 := K0.on hb1
    go_wp2
    go_ret2
    exact ⟨rfl, K1.B⟩
  · cases h2 : isSeq x y
    · obtain ⟨E1, E2⟩ := ip_no (a := a) (b := b) (.inr h2)
      rw [E1, E2]
      rw [h1] at H1
      rw [h2] at H2
      clear h1 h2 E1 E2 H3 H4
      go_enter Tryd.func30, Tryd.ntmps30
      obtain ⟨B, z, v0, v1, s0, s1⟩ := id K0
      go_wp2_with fail
      refine (H1.out _).mono ?_
      rintro e w1 ⟨rfl, hb1⟩
      have K1 := K0.on hb1
      clear v0 v1 s0 s1 B z
      obtain ⟨B, z, v0, v1, s0, s1⟩ := id K1
      go_wp2_with fail
      refine (H2.out _).mono ?_
      rintro e w2 ⟨rfl, hb2⟩
      have K2 := K1.on hb2
      go_wp2
      go_ret2
      exact ⟨rfl, K2.B⟩
    · have H3' := Lib.hid (H3.out h1)
      have H4' := Lib.hid (H4.out h2)
      cases h3 : starQ a b
      · obtain ⟨E1, E2⟩ := ip_st h1 h2 h3
        rw [E1, E2]
        rw [h1] at H1
        rw [h2] at H2
        rw [h3] at H3'
        clear h1 h2 h3 E1 E2 H3 H4 H4'
        go_enter Tryd.func30, Tryd.ntmps30
        obtain ⟨B, z, v0, v1, s0, s1⟩ := id K0
        go_wp2_with fail
        refine (H1.out _).mono ?_
        rintro e w1 ⟨rfl, hb1⟩
        have K1 := K0.on hb1
        clear v0 v1 s0 s1 B z
        obtain ⟨B, z, v0, v1, s0, s1⟩ := id K1
        go_wp2_with fail
        refine (H2.out _).mono ?_
        rintro e w2 ⟨rfl, hb2⟩
        have K2 := K1.on hb2
        clear v0 v1 s0 s1 B z
        obtain ⟨B, z, v0, v1, s0, s1⟩ := id K2
        go_wp2_with fail
        refine (H3'.out _).mono ?_
        rintro e w3 ⟨rfl, hb3⟩
        have K3 := K2.on hb3
        go_wp2
        go_ret2
        exact ⟨rfl, K3.B⟩
      · obtain ⟨E1, E2⟩ := ip_yes h1 h2 h3
        rw [E1, E2]
        rw [h1] at H1
        rw [h2] at H2
        rw [h3] at H3'
        clear h1 h2 h3 E1 E2 H3 H4
        generalize ptB a b x y = R at *
        go_enter Tryd.func30, Tryd.ntmps30
        obtain ⟨B, z, v0, v1, s0, s1⟩ := id K0
        go_wp2_with fail
        refine (H1.out _).mono ?_
        rintro e w1 ⟨rfl, hb1⟩
        have K1 := K0.on hb1
        clear v0 v1 s0 s1 B z
        obtain ⟨B, z, v0, v1, s0, s1⟩ := id K1
        go_wp2_with fail
        refine (H2.out _).mono ?_
        rintro e w2 ⟨rfl, hb2⟩
        have K2 := K1.on hb2
        clear v0 v1 s0 s1 B z
        obtain ⟨B, z, v0, v1, s0, s1⟩ := id K2
        go_wp2_with fail
        refine (H3'.out _).mono ?_
        rintro e w3 ⟨rfl, hb3⟩
        have K3 := K2.on hb3
        clear v0 v1 s0 s1 B z
        obtain ⟨B, z, v0, v1, s0, s1⟩ := id K3
        go_wp2_with fail
        refine (H4'.out _).mono ?_
        rintro e w4 ⟨rfl, hb4⟩
        have K4 := K3.on hb4
        go_wp2
        go_ret2
        exact ⟨rfl, K4.B⟩

set_option maxHeartbeats 2000000 in
theorem specIsPt (a b x y : Wd) (w : World) (hab : a.length + b.length ≤ 1048576) (hxy : x.length + y.length ≤ 1048576) :
    Calls Tryd.prog 29 #[sqV a b, sqV x y] w fun e w' => e = .returned (.tuple #[.bool (ipB a b x y), .int .i64 (ipC a b x y)]) ∧ Below w.heap.size w w' := by
  have H1 := Lib.hid (fun w => specL01Seq a b w hab)
  have H2 := Lib.hid (fun w => specL01Seq x y w hxy)
  have H3 := Lib.hid (fun (h : isSeq a b = true) w => (specStar a b w (isSeq_yes h).2.2.1 (isSeq_yes h).2.2.2.1 : _))
  have H4 := Lib.hid (fun (h : isSeq x y = true) w => specPoint a b x y w (isSeq_yes h).2.2.1 (isSeq_yes h).2.2.2.1)
  have K0 := pq0 w a b x y 25 25
  clear hab hxy
  cases h1 : isSeq a b
  · obtain ⟨E1, E2⟩ := ip_no (x := x) (y := y) (.inl h1)
    rw [E1, E2]
    rw [h1] at H1
    clear h1 E1 E2 H2 H3 H4
    go_enter Tryd.func29, Tryd.ntmps29
    obtain ⟨B, z, v0, v1, s0, s1⟩ := id K0
    go_wp2_with fail
    refine (H1.out _).mono ?_
    rintro e w1 ⟨rfl, hb1⟩
    have K1 := K0.on hb1
    go_wp2
    go_ret2
    exact ⟨rfl, K1.B⟩
  · cases h2 : isSeq x y
    · obtain ⟨E1, E2⟩ := ip_no (a := a) (b := b) (.inr h2)
      rw [E1, E2]
      rw [h1] at H1
      rw [h2] at H2
      clear h1 h2 E1 E2 H3 H4
      go_enter Tryd.func29, Tryd.ntmps29
      obtain ⟨B, z, v0, v1, s0, s1⟩ := id K0
      go_wp2_with fail
      refine (H1.out _).mono ?_
      rintro e w1 ⟨rfl, hb1⟩
      have K1 := K0.on hb1
      clear v0 v1 s0 s1 B z
      obtain ⟨B, z, v0, v1, s0, s1⟩ := id K1
      go_wp2_with fail
      refine (H2.out _).mono ?_
      rintro e w2 ⟨rfl, hb2⟩
      have K2 := K1.on hb2
      go_wp2
      go_ret2
      exact ⟨rfl, K2.B⟩
    · have H3' := Lib.hid (H3.out h1)
      have H4' := Lib.hid (H4.out h2)
      cases h3 : starQ a b
      · obtain ⟨E1, E2⟩ := ip_st h1 h2 h3
        rw [E1, E2]
        rw [h1] at H1
        rw [h2] at H2
        rw [h3] at H3'
        clear h1 h2 h3 E1 E2 H3 H4 H4'
        go_enter Tryd.func29, Tryd.ntmps29
        obtain ⟨B, z, v0, v1, s0, s1⟩ := id K0
        go_wp2_with fail
        refine (H1.out _).mono ?_
        rintro e w1 ⟨rfl, hb1⟩
        have K1 := K0.on hb1
        clear v0 v1 s0 s1 B z
        obtain ⟨B, z, v0, v1, s0, s1⟩ := id K1
        go_wp2_with fail
        refine (H2.out _).mono ?_
        rintro e w2 ⟨rfl, hb2⟩
        have K2 := K1.on hb2
        clear v0 v1 s0 s1 B z
        obtain ⟨B, z, v0, v1, s0, s1⟩ := id K2
        go_wp2_with fail
        refine (H3'.out _).mono ?_
        rintro e w3 ⟨rfl, hb3⟩
        have K3 := K2.on hb3
        go_wp2
        go_ret2
        exact ⟨rfl, K3.B⟩
      · obtain ⟨E1, E2⟩ := ip_yes h1 h2 h3
        rw [E1, E2]
        rw [h1] at H1
        rw [h2] at H2
        rw [h3] at H3'
        clear h1 h2 h3 E1 E2 H3 H4
        generalize ptB a b x y = R at *
        go_enter Tryd.func29, Tryd.ntmps29
        obtain ⟨B, z, v0, v1, s0, s1⟩ := id K0
        go_wp2_with fail
        refine (H1.out _).mono ?_
        rintro e w1 ⟨rfl, hb1⟩
        have K1 := K0.on hb1
        clear v0 v1 s0 s1 B z
        obtain ⟨B, z, v0, v1, s0, s1⟩ := id K1
        go_wp2_with fail
        refine (H2.out _).mono ?_
        rintro e w2 ⟨rfl, hb2⟩
        have K2 := K1.on hb2
        clear v0 v1 s0 s1 B z
        obtain ⟨B, z, v0, v1, s0, s1⟩ := id K2
        go_wp2_with fail
        refine (H3'.out _).mono ?_
        rintro e w3 ⟨rfl, hb3⟩
        have K3 := K2.on hb3
        clear v0 v1 s0 s1 B z
        obtain ⟨B, z, v0, v1, s0, s1⟩ := id K3
        go_wp2_with fail
        refine (H4'.out _).mono ?_
        rintro e w4 ⟨rfl, hb4⟩
        have K4 := K3.on hb4
        go_wp2
        go_ret2
        exact ⟨rfl, K4.B⟩

set_option maxRecDepth 8000 in
set_option maxHeartbeats 4000000 in
theorem lawIsPointOf (a b : Wd) (ha : a.length ≤ maxLen) (hb : b.length ≤ maxLen) (x y : Wd) (hx : x.length ≤ maxLen) (hy : y.length ≤ maxLen) (w : World) :
    Calls Tryd.prog 9 #[sqV a b, sqV x y] w fun e w' => e = .returned (.bool true) ∧ Below w.heap.size w w' := by
  have HZ := Lib.hid (fun w => szSeq a b w (by unfold maxLen at ha; omega) (by unfold maxLen at hb; omega))
  have K0 := pq0 w a b x y 23 23
  rcases szQ_cases a b with h | ⟨h, hab⟩
  · rw [h] at HZ
    clear h ha hb hx hy
    obtain ⟨B, z, v0, v1, s0, s1⟩ := id K0
    go_enter Tryd.func9, Tryd.ntmps9
    go_wp2_with fail
    refine (HZ.out _).mono ?_
    rintro e w1 ⟨rfl, hb1⟩
    have K1 := K0.on hb1
    go_wp2
    go_ret
    exact ⟨rfl, K1.B⟩
  · have HZ2 := Lib.hid (fun w => szSeqG x y (szQ a b) w h (szQ_le a b) (by unfold maxLen at hx; omega) (by unfold maxLen at hy; omega))
    have hlt : decide (szQ a b < 0) = false := decide_eq_false (by omega)
    rcases szG_cases x y (szQ a b) (szQ_le a b) with h2 | ⟨h2, hxy⟩
    · rw [h2] at HZ2
      generalize szQ a b = L at *
      clear h h2 ha hb hx hy hab
      obtain ⟨B, z, v0, v1, s0, s1⟩ := id K0
      go_enter Tryd.func9, Tryd.ntmps9
      go_wp2_with fail
      refine (HZ.out _).mono ?_
      rintro e w1 ⟨rfl, hb1⟩
      have K1 := K0.on hb1
      clear v0 v1 s0 s1 B z
      obtain ⟨B, z, v0, v1, s0, s1⟩ := id K1
      go_wp2_with fail
      refine (HZ2.out _).mono ?_
      rintro e w2 ⟨rfl, hb2⟩
      have K2 := K1.on hb2
      go_wp2
      go_ret
      exact ⟨rfl, K2.B⟩
    · have hlt2 : decide (szG x y (szQ a b) < 0) = false := decide_eq_false (by omega)
      have HT1 := Lib.hid (fun w => toSeq a b w)
      have HT2 := Lib.hid (fun w => toSeq x y w)
      have HA := Lib.hid (fun w => specIsPt a b x y w hab hxy)
      have HB := Lib.hid (fun w => implIsPt a b x y w hab hxy)
      generalize ipB a b x y = R at *
      generalize ipC a b x y = C at *
      generalize szG x y (szQ a b) = L2 at *
      generalize szQ a b = L at *
      clear h h2 ha hb hx hy hab hxy
      obtain ⟨B, z, v0, v1, s0, s1⟩ := id K0
      go_enter Tryd.func9, Tryd.ntmps9
      go_wp2_with fail
      refine (HZ.out _).mono ?_
      rintro e w1 ⟨rfl, hb1⟩
      have K1 := K0.on hb1
      clear v0 v1 s0 s1 B z hb1 HZ
      obtain ⟨B, z, v0, v1, s0, s1⟩ := id K1
      go_wp2_with fail
      refine (HZ2.out _).mono ?_
      rintro e w2 ⟨rfl, hb2⟩
      have K2 := K1.on hb2
      clear v0 v1 s0 s1 B z hb2 HZ2 K0 K1
      obtain ⟨B, z, v0, v1, s0, s1⟩ := id K2
      go_upto_region 8 with fail
      go_cut [6, 7] (fun s6 s7 wy => s6 = .bool R ∧ s7 = .int .i64 C ∧ PQ w wy a b x y)
      case first =>
        refine wp_region_any (by kernel_rfl) ?_
        try (change wpAny _ _ _ _ _ _ _ (World.drew _))
        refine wpAny_ready (rs := [0, 2]) (by kernel_rfl) (by simp) ?_
        refine AllReady.cons rfl (fun K hK => ?_) (AllReady.cons rfl (fun K hK => ?_) (AllReady.nil))
        · go_simp
          refine hK _ _ ?_
          clear hK K
          refine wpAny_ready (rs := [1, 2]) (by kernel_rfl) (by simp) ?_
          refine AllReady.cons rfl (fun K hK => ?_) (AllReady.cons rfl (fun K hK => ?_) (AllReady.nil))
          · go_simp
            go_wp2_with (go_at_call 13; (with_reducible refine (HT1.out _).mono ?_); rintro e w3 ⟨rfl, hb3⟩)
            have B3 : Below w2.heap.size w2 w3 := by
              (repeat' (first | (with_reducible exact Below.refl _ _) | (with_reducible assumption) | (with_reducible refine belowNext ?_ (by with_reducible assumption)) | (with_reducible refine belowAlloc ?_ _) | (with_reducible refine Below.drew ?_) | (with_reducible refine below_drewN ?_ _) | (with_reducible refine Below.setCell ?_ ?_ _) | go_size | (with_reducible refine sizeOf' ?_) | (with_reducible refine sizeAdd ?_) | (dsimp only; first | (with_reducible refine sizeOf' ?_) | (with_reducible refine sizeAdd ?_))))
            have K3 := K2.on B3
            clear v0 v1 s0 s1 B z hb3
            obtain ⟨B, z, v0, v1, s0, s1⟩ := id K3
            refine wpAny_ready (rs := [2]) (by kernel_rfl) (by simp) ?_
            refine AllReady.cons rfl (fun K hK => ?_) (AllReady.nil)
            go_simp
            refine hK _ _ ?_
            clear hK K
            refine wpAny_ready (rs := [3]) (by kernel_rfl) (by simp) ?_
            refine AllReady.cons rfl (fun K hK => ?_) (AllReady.nil)
            go_simp
            go_wp2_with (go_at_call 13; (with_reducible refine (HT2.out _).mono ?_); rintro e w4 ⟨rfl, hb4⟩)
            have B4 : Below w3.heap.size w3 w4 := by
              (repeat' (first | (with_reducible exact Below.refl _ _) | (with_reducible assumption) | (with_reducible refine belowNext ?_ (by with_reducible assumption)) | (with_reducible refine belowAlloc ?_ _) | (with_reducible refine Below.drew ?_) | (with_reducible refine below_drewN ?_ _) | (with_reducible refine Below.setCell ?_ ?_ _) | go_size | (with_reducible refine sizeOf' ?_) | (with_reducible refine sizeAdd ?_) | (dsimp only; first | (with_reducible refine sizeOf' ?_) | (with_reducible refine sizeAdd ?_))))
            have K4 := K3.on B4
            clear v0 v1 s0 s1 B z hb4
            obtain ⟨B, z, v0, v1, s0, s1⟩ := id K4
            refine wpAny_ready (rs := [4]) (by kernel_rfl) (by simp) ?_
            refine AllReady.cons rfl (fun K hK => ?_) (AllReady.nil)
            go_simp
            go_wp2_with (go_at_call 29; (with_reducible refine (HA.out _).mono ?_); rintro e w5 ⟨rfl, hb5⟩)
            have B5 : Below w4.heap.size w4 w5 := by
              (repeat' (first | (with_reducible exact Below.refl _ _) | (with_reducible assumption) | (with_reducible refine belowNext ?_ (by with_reducible assumption)) | (with_reducible refine belowAlloc ?_ _) | (with_reducible refine Below.drew ?_) | (with_reducible refine below_drewN ?_ _) | (with_reducible refine Below.setCell ?_ ?_ _) | go_size | (with_reducible refine sizeOf' ?_) | (with_reducible refine sizeAdd ?_) | (dsimp only; first | (with_reducible refine sizeOf' ?_) | (with_reducible refine sizeAdd ?_))))
            have K5 := K4.on B5
            clear v0 v1 s0 s1 B z hb5
            obtain ⟨B, z, v0, v1, s0, s1⟩ := id K5
            refine wpAny_take (i := 5) (v := ?_) rfl (by kernel_rfl) (by kernel_rfl) (by kernel_rfl) (fun _ _ _ h => h) (Or.inl ⟨by kernel_rfl, ?_⟩) ?_
            rotate_left
            · intro w; first | (go_simp; done) | (go_simp; with_reducible rfl)
            refine wpAny_take (i := 6) (v := ?_) rfl (by kernel_rfl) (by kernel_rfl) (by kernel_rfl) (fun _ _ _ h => h) (Or.inl ⟨by kernel_rfl, ?_⟩) ?_
            rotate_left
            · intro w; first | (go_simp; done) | (go_simp; with_reducible rfl)
            refine wpAny_take (i := 7) (v := ?_) rfl (by kernel_rfl) (by kernel_rfl) (by kernel_rfl) (fun _ _ _ h => h) (Or.inl ⟨by kernel_rfl, ?_⟩) ?_
            rotate_left
            · intro w; first | (go_simp; done) | (go_simp; with_reducible rfl)
            refine wpAny_take (i := 8) (v := ?_) rfl (by kernel_rfl) (by kernel_rfl) (by kernel_rfl) (fun _ _ _ h => h) (Or.inl ⟨by kernel_rfl, ?_⟩) ?_
            rotate_left
            · intro w; first | (go_simp; done) | (go_simp; with_reducible rfl)
            refine wpAny_take (i := 9) (v := ?_) rfl (by kernel_rfl) (by kernel_rfl) (by kernel_rfl) (fun _ _ _ h => h) (Or.inl ⟨by kernel_rfl, ?_⟩) ?_
            rotate_left
            · intro w; first | (go_simp; done) | (go_simp; with_reducible rfl)
            refine wpAny_done (by kernel_rfl) ?_ _
            go_wp2
            go_meet
            case rel => exact ⟨rfl, rfl, K5⟩
          · go_simp
            refine hK _ _ ?_
            clear hK K
            refine wpAny_ready (rs := [1]) (by kernel_rfl) (by simp) ?_
            refine AllReady.cons rfl (fun K hK => ?_) (AllReady.nil)
            go_simp
            go_wp2_with (go_at_call 13; (with_reducible refine (HT1.out _).mono ?_); rintro e w3 ⟨rfl, hb3⟩)
            have B3 : Below w2.heap.size w2 w3 := by
              (repeat' (first | (with_reducible exact Below.refl _ _) | (with_reducible assumption) | (with_reducible refine belowNext ?_ (by with_reducible assumption)) | (with_reducible refine belowAlloc ?_ _) | (with_reducible refine Below.drew ?_) | (with_reducible refine below_drewN ?_ _) | (with_reducible refine Below.setCell ?_ ?_ _) | go_size | (with_reducible refine sizeOf' ?_) | (with_reducible refine sizeAdd ?_) | (dsimp only; first | (with_reducible refine sizeOf' ?_) | (with_reducible refine sizeAdd ?_))))
            have K3 := K2.on B3
            clear v0 v1 s0 s1 B z hb3
            obtain ⟨B, z, v0, v1, s0, s1⟩ := id K3
            refine wpAny_ready (rs := [3]) (by kernel_rfl) (by simp) ?_
            refine AllReady.cons rfl (fun K hK => ?_) (AllReady.nil)
            go_simp
            go_wp2_with (go_at_call 13; (with_reducible refine (HT2.out _).mono ?_); rintro e w4 ⟨rfl, hb4⟩)
            have B4 : Below w3.heap.size w3 w4 := by
              (repeat' (first | (with_reducible exact Below.refl _ _) | (with_reducible assumption) | (with_reducible refine belowNext ?_ (by with_reducible assumption)) | (with_reducible refine belowAlloc ?_ _) | (with_reducible refine Below.drew ?_) | (with_reducible refine below_drewN ?_ _) | (with_reducible refine Below.setCell ?_ ?_ _) | go_size | (with_reducible refine sizeOf' ?_) | (with_reducible refine sizeAdd ?_) | (dsimp only; first | (with_reducible refine sizeOf' ?_) | (with_reducible refine sizeAdd ?_))))
            have K4 := K3.on B4
            clear v0 v1 s0 s1 B z hb4
            obtain ⟨B, z, v0, v1, s0, s1⟩ := id K4
            refine wpAny_ready (rs := [4]) (by kernel_rfl) (by simp) ?_
            refine AllReady.cons rfl (fun K hK => ?_) (AllReady.nil)
            go_simp
            go_wp2_with (go_at_call 29; (with_reducible refine (HA.out _).mono ?_); rintro e w5 ⟨rfl, hb5⟩)
            have B5 : Below w4.heap.size w4 w5 := by
              (repeat' (first | (with_reducible exact Below.refl _ _) | (with_reducible assumption) | (with_reducible refine belowNext ?_ (by with_reducible assumption)) | (with_reducible refine belowAlloc ?_ _) | (with_reducible refine Below.drew ?_) | (with_reducible refine below_drewN ?_ _) | (with_reducible refine Below.setCell ?_ ?_ _) | go_size | (with_reducible refine sizeOf' ?_) | (with_reducible refine sizeAdd ?_) | (dsimp only; first | (with_reducible refine sizeOf' ?_) | (with_reducible refine sizeAdd ?_))))
            have K5 := K4.on B5
            clear v0 v1 s0 s1 B z hb5
            obtain ⟨B, z, v0, v1, s0, s1⟩ := id K5
            refine wpAny_take (i := 5) (v := ?_) rfl (by kernel_rfl) (by kernel_rfl) (by kernel_rfl) (fun _ _ _ h => h) (Or.inl ⟨by kernel_rfl, ?_⟩) ?_
            rotate_left
            · intro w; first | (go_simp; done) | (go_simp; with_reducible rfl)
            refine wpAny_take (i := 6) (v := ?_) rfl (by kernel_rfl) (by kernel_rfl) (by kernel_rfl) (fun _ _ _ h => h) (Or.inl ⟨by kernel_rfl, ?_⟩) ?_
            rotate_left
            · intro w; first | (go_simp; done) | (go_simp; with_reducible rfl)
            refine wpAny_take (i := 7) (v := ?_) rfl (by kernel_rfl) (by kernel_rfl) (by kernel_rfl) (fun _ _ _ h => h) (Or.inl ⟨by kernel_rfl, ?_⟩) ?_
            rotate_left
            · intro w; first | (go_simp; done) | (go_simp; with_reducible rfl)
            refine wpAny_take (i := 8) (v := ?_) rfl (by kernel_rfl) (by kernel_rfl) (by kernel_rfl) (fun _ _ _ h => h) (Or.inl ⟨by kernel_rfl, ?_⟩) ?_
            rotate_left
            · intro w; first | (go_simp; done) | (go_simp; with_reducible rfl)
            refine wpAny_take (i := 9) (v := ?_) rfl (by kernel_rfl) (by kernel_rfl) (by kernel_rfl) (fun _ _ _ h => h) (Or.inl ⟨by kernel_rfl, ?_⟩) ?_
            rotate_left
            · intro w; first | (go_simp; done) | (go_simp; with_reducible rfl)
            refine wpAny_done (by kernel_rfl) ?_ _
            go_wp2
            go_meet
            case rel => exact ⟨rfl, rfl, K5⟩
        · go_simp
          refine hK _ _ ?_
          clear hK K
          refine wpAny_ready (rs := [0]) (by kernel_rfl) (by simp) ?_
          refine AllReady.cons rfl (fun K hK => ?_) (AllReady.nil)
          go_simp
          refine hK _ _ ?_
          clear hK K
          refine wpAny_ready (rs := [1]) (by kernel_rfl) (by simp) ?_
          refine AllReady.cons rfl (fun K hK => ?_) (AllReady.nil)
          go_simp
          go_wp2_with (go_at_call 13; (with_reducible refine (HT1.out _).mono ?_); rintro e w3 ⟨rfl, hb3⟩)
          have B3 : Below w2.heap.size w2 w3 := by
            (repeat' (first | (with_reducible exact Below.refl _ _) | (with_reducible assumption) | (with_reducible refine belowNext ?_ (by with_reducible assumption)) | (with_reducible refine belowAlloc ?_ _) | (with_reducible refine Below.drew ?_) | (with_reducible refine below_drewN ?_ _) | (with_reducible refine Below.setCell ?_ ?_ _) | go_size | (with_reducible refine sizeOf' ?_) | (with_reducible refine sizeAdd ?_) | (dsimp only; first | (with_reducible refine sizeOf' ?_) | (with_reducible refine sizeAdd ?_))))
          have K3 := K2.on B3
          clear v0 v1 s0 s1 B z hb3
          obtain ⟨B, z, v0, v1, s0, s1⟩ := id K3
          refine wpAny_ready (rs := [3]) (by kernel_rfl) (by simp) ?_
          refine AllReady.cons rfl (fun K hK => ?_) (AllReady.nil)
          go_simp
          go_wp2_with (go_at_call 13; (with_reducible refine (HT2.out _).mono ?_); rintro e w4 ⟨rfl, hb4⟩)
          have B4 : Below w3.heap.size w3 w4 := by
            (repeat' (first | (with_reducible exact Below.refl _ _) | (with_reducible assumption) | (with_reducible refine belowNext ?_ (by with_reducible assumption)) | (with_reducible refine belowAlloc ?_ _) | (with_reducible refine Below.drew ?_) | (with_reducible refine below_drewN ?_ _) | (with_reducible refine Below.setCell ?_ ?_ _) | go_size | (with_reducible refine sizeOf' ?_) | (with_reducible refine sizeAdd ?_) | (dsimp only; first | (with_reducible refine sizeOf' ?_) | (with_reducible refine sizeAdd ?_))))
          have K4 := K3.on B4
          clear v0 v1 s0 s1 B z hb4
          obtain ⟨B, z, v0, v1, s0, s1⟩ := id K4
          refine wpAny_ready (rs := [4]) (by kernel_rfl) (by simp) ?_
          refine AllReady.cons rfl (fun K hK => ?_) (AllReady.nil)
          go_simp
          go_wp2_with (go_at_call 29; (with_reducible refine (HA.out _).mono ?_); rintro e w5 ⟨rfl, hb5⟩)
          have B5 : Below w4.heap.size w4 w5 := by
            (repeat' (first | (with_reducible exact Below.refl _ _) | (with_reducible assumption) | (with_reducible refine belowNext ?_ (by with_reducible assumption)) | (with_reducible refine belowAlloc ?_ _) | (with_reducible refine Below.drew ?_) | (with_reducible refine below_drewN ?_ _) | (with_reducible refine Below.setCell ?_ ?_ _) | go_size | (with_reducible refine sizeOf' ?_) | (with_reducible refine sizeAdd ?_) | (dsimp only; first | (with_reducible refine sizeOf' ?_) | (with_reducible refine sizeAdd ?_))))
          have K5 := K4.on B5
          clear v0 v1 s0 s1 B z hb5
          obtain ⟨B, z, v0, v1, s0, s1⟩ := id K5
          refine wpAny_take (i := 5) (v := ?_) rfl (by kernel_rfl) (by kernel_rfl) (by kernel_rfl) (fun _ _ _ h => h) (Or.inl ⟨by kernel_rfl, ?_⟩) ?_
          rotate_left
          · intro w; first | (go_simp; done) | (go_simp; with_reducible rfl)
          refine wpAny_take (i := 6) (v := ?_) rfl (by kernel_rfl) (by kernel_rfl) (by kernel_rfl) (fun _ _ _ h => h) (Or.inl ⟨by kernel_rfl, ?_⟩) ?_
          rotate_left
          · intro w; first | (go_simp; done) | (go_simp; with_reducible rfl)
          refine wpAny_take (i := 7) (v := ?_) rfl (by kernel_rfl) (by kernel_rfl) (by kernel_rfl) (fun _ _ _ h => h) (Or.inl ⟨by kernel_rfl, ?_⟩) ?_
          rotate_left
          · intro w; first | (go_simp; done) | (go_simp; with_reducible rfl)
          refine wpAny_take (i := 8) (v := ?_) rfl (by kernel_rfl) (by kernel_rfl) (by kernel_rfl) (fun _ _ _ h => h) (Or.inl ⟨by kernel_rfl, ?_⟩) ?_
          rotate_left
          · intro w; first | (go_simp; done) | (go_simp; with_reducible rfl)
          refine wpAny_take (i := 9) (v := ?_) rfl (by kernel_rfl) (by kernel_rfl) (by kernel_rfl) (fun _ _ _ h => h) (Or.inl ⟨by kernel_rfl, ?_⟩) ?_
          rotate_left
          · intro w; first | (go_simp; done) | (go_simp; with_reducible rfl)
          refine wpAny_done (by kernel_rfl) ?_ _
          go_wp2
          go_meet
          case rel => exact ⟨rfl, rfl, K5⟩
      case rest =>
        obtain ⟨rfl, rfl, K3⟩ := hcut
        clear K2 v0 v1 s0 s1 B z
        obtain ⟨B, z, v0, v1, s0, s1⟩ := id K3
        go_upto_region 9 with fail
        go_cut [8, 9] (fun s8 s9 wy => s8 = .bool R ∧ s9 = .int .i64 C ∧ PQ w wy a b x y)
        case first =>
          refine wp_region_any (by kernel_rfl) ?_
          try (change wpAny _ _ _ _ _ _ _ (World.drew _))
          refine wpAny_ready (rs := [0, 2]) (by kernel_rfl) (by simp) ?_
          refine AllReady.cons rfl (fun K hK => ?_) (AllReady.cons rfl (fun K hK => ?_) (AllReady.nil))
          · go_simp
            refine hK _ _ ?_
            clear hK K
            refine wpAny_ready (rs := [1, 2]) (by kernel_rfl) (by simp) ?_
            refine AllReady.cons rfl (fun K hK => ?_) (AllReady.cons rfl (fun K hK => ?_) (AllReady.nil))
            · go_simp
              go_wp2_with (go_at_call 13; (with_reducible refine (HT1.out _).mono ?_); rintro e w4 ⟨rfl, hb4⟩)
              have B4 : Below wc.heap.size wc w4 := by
                (repeat' (first | (with_reducible exact Below.refl _ _) | (with_reducible assumption) | (with_reducible refine belowNext ?_ (by with_reducible assumption)) | (with_reducible refine belowAlloc ?_ _) | (with_reducible refine Below.drew ?_) | (with_reducible refine below_drewN ?_ _) | (with_reducible refine Below.setCell ?_ ?_ _) | go_size | (with_reducible refine sizeOf' ?_) | (with_reducible refine sizeAdd ?_) | (dsimp only; first | (with_reducible refine sizeOf' ?_) | (with_reducible refine sizeAdd ?_))))
              have K4 := K3.on B4
              clear v0 v1 s0 s1 B z hb4
              obtain ⟨B, z, v0, v1, s0, s1⟩ := id K4
              refine wpAny_ready (rs := [2]) (by kernel_rfl) (by simp) ?_
              refine AllReady.cons rfl (fun K hK => ?_) (AllReady.nil)
              go_simp
              refine hK _ _ ?_
              clear hK K
              refine wpAny_ready (rs := [3]) (by kernel_rfl) (by simp) ?_
              refine AllReady.cons rfl (fun K hK => ?_) (AllReady.nil)
              go_simp
              go_wp2_with (go_at_call 13; (with_reducible refine (HT2.out _).mono ?_); rintro e w5 ⟨rfl, hb5⟩)
              have B5 : Below w4.heap.size w4 w5 := by
                (repeat' (first | (with_reducible exact Below.refl _ _) | (with_reducible assumption) | (with_reducible refine belowNext ?_ (by with_reducible assumption)) | (with_reducible refine belowAlloc ?_ _) | (with_reducible refine Below.drew ?_) | (with_reducible refine below_drewN ?_ _) | (with_reducible refine Below.setCell ?_ ?_ _) | go_size | (with_reducible refine sizeOf' ?_) | (with_reducible refine sizeAdd ?_) | (dsimp only; first | (with_reducible refine sizeOf' ?_) | (with_reducible refine sizeAdd ?_))))
              have K5 := K4.on B5
              clear v0 v1 s0 s1 B z hb5
              obtain ⟨B, z, v0, v1, s0, s1⟩ := id K5
              refine wpAny_ready (rs := [4]) (by kernel_rfl) (by simp) ?_
              refine AllReady.cons rfl (fun K hK => ?_) (AllReady.nil)
              go_simp
              go_wp2_with (go_at_call 30; (with_reducible refine (HB.out _).mono ?_); rintro e w6 ⟨rfl, hb6⟩)
              have B6 : Below w5.heap.size w5 w6 := by
                (repeat' (first | (with_reducible exact Below.refl _ _) | (with_reducible assumption) | (with_reducible refine belowNext ?_ (by with_reducible assumption)) | (with_reducible refine belowAlloc ?_ _) | (with_reducible refine Below.drew ?_) | (with_reducible refine below_drewN ?_ _) | (with_reducible refine Below.setCell ?_ ?_ _) | go_size | (with_reducible refine sizeOf' ?_) | (with_reducible refine sizeAdd ?_) | (dsimp only; first | (with_reducible refine sizeOf' ?_) | (with_reducible refine sizeAdd ?_))))
              have K6 := K5.on B6
              clear v0 v1 s0 s1 B z hb6
              obtain ⟨B, z, v0, v1, s0, s1⟩ := id K6
              refine wpAny_take (i := 5) (v := ?_) rfl (by kernel_rfl) (by kernel_rfl) (by kernel_rfl) (fun _ _ _ h => h) (Or.inl ⟨by kernel_rfl, ?_⟩) ?_
              rotate_left
              · intro w; first | (go_simp; done) | (go_simp; with_reducible rfl)
              refine wpAny_take (i := 6) (v := ?_) rfl (by kernel_rfl) (by kernel_rfl) (by kernel_rfl) (fun _ _ _ h => h) (Or.inl ⟨by kernel_rfl, ?_⟩) ?_
              rotate_left
              · intro w; first | (go_simp; done) | (go_simp; with_reducible rfl)
              refine wpAny_take (i := 7) (v := ?_) rfl (by kernel_rfl) (by kernel_rfl) (by kernel_rfl) (fun _ _ _ h => h) (Or.inl ⟨by kernel_rfl, ?_⟩) ?_
              rotate_left
              · intro w; first | (go_simp; done) | (go_simp; with_reducible rfl)
              refine wpAny_take (i := 8) (v := ?_) rfl (by kernel_rfl) (by kernel_rfl) (by kernel_rfl) (fun _ _ _ h => h) (Or.inl ⟨by kernel_rfl, ?_⟩) ?_
              rotate_left
              · intro w; first | (go_simp; done) | (go_simp; with_reducible rfl)
              refine wpAny_take (i := 9) (v := ?_) rfl (by kernel_rfl) (by kernel_rfl) (by kernel_rfl) (fun _ _ _ h => h) (Or.inl ⟨by kernel_rfl, ?_⟩) ?_
              rotate_left
              · intro w; first | (go_simp; done) | (go_simp; with_reducible rfl)
              refine wpAny_done (by kernel_rfl) ?_ _
              go_wp2
              go_meet
              case rel => exact ⟨rfl, rfl, K6⟩
            · go_simp
              refine hK _ _ ?_
              clear hK K
              refine wpAny_ready (rs := [1]) (by kernel_rfl) (by simp) ?_
              refine AllReady.cons rfl (fun K hK => ?_) (AllReady.nil)
              go_simp
              go_wp2_with (go_at_call 13; (with_reducible refine (HT1.out _).mono ?_); rintro e w4 ⟨rfl, hb4⟩)
              have B4 : Below wc.heap.size wc w4 := by
                (repeat' (first | (with_reducible exact Below.refl _ _) | (with_reducible assumption) | (with_reducible refine belowNext ?_ (by with_reducible assumption)) | (with_reducible refine belowAlloc ?_ _) | (with_reducible refine Below.drew ?_) | (with_reducible refine below_drewN ?_ _) | (with_reducible refine Below.setCell ?_ ?_ _) | go_size | (with_reducible refine sizeOf' ?_) | (with_reducible refine sizeAdd ?_) | (dsimp only; first | (with_reducible refine sizeOf' ?_) | (with_reducible refine sizeAdd ?_))))
              have K4 := K3.on B4
              clear v0 v1 s0 s1 B z hb4
              obtain ⟨B, z, v0, v1, s0, s1⟩ := id K4
              refine wpAny_ready (rs := [3]) (by kernel_rfl) (by simp) ?_
              refine AllReady.cons rfl (fun K hK => ?_) (AllReady.nil)
              go_simp
              go_wp2_with (go_at_call 13; (with_reducible refine (HT2.out _).mono ?_); rintro e w5 ⟨rfl, hb5⟩)
              have B5 : Below w4.heap.size w4 w5 := by
                (repeat' (first | (with_reducible exact Below.refl _ _) | (with_reducible assumption) | (with_reducible refine belowNext ?_ (by with_reducible assumption)) | (with_reducible refine belowAlloc ?_ _) | (with_reducible refine Below.drew ?_) | (with_reducible refine below_drewN ?_ _) | (with_reducible refine Below.setCell ?_ ?_ _) | go_size | (with_reducible refine sizeOf' ?_) | (with_reducible refine sizeAdd ?_) | (dsimp only; first | (with_reducible refine sizeOf' ?_) | (with_reducible refine sizeAdd ?_))))
              have K5 := K4.on B5
              clear v0 v1 s0 s1 B z hb5
              obtain ⟨B, z, v0, v1, s0, s1⟩ := id K5
              refine wpAny_ready (rs := [4]) (by kernel_rfl) (by simp) ?_
              refine AllReady.cons rfl (fun K hK => ?_) (AllReady.nil)
              go_simp
              go_wp2_with (go_at_call 30; (with_reducible refine (HB.out _).mono ?_); rintro e w6 ⟨rfl, hb6⟩)
              have B6 : Below w5.heap.size w5 w6 := by
                (repeat' (first | (with_reducible exact Below.refl _ _) | (with_reducible assumption) | (with_reducible refine belowNext ?_ (by with_reducible assumption)) | (with_reducible refine belowAlloc ?_ _) | (with_reducible refine Below.drew ?_) | (with_reducible refine below_drewN ?_ _) | (with_reducible refine Below.setCell ?_ ?_ _) | go_size | (with_reducible refine sizeOf' ?_) | (with_reducible refine sizeAdd ?_) | (dsimp only; first | (with_reducible refine sizeOf' ?_) | (with_reducible refine sizeAdd ?_))))
              have K6 := K5.on B6
              clear v0 v1 s0 s1 B z hb6
              obtain ⟨B, z, v0, v1, s0, s1⟩ := id K6
              refine wpAny_take (i := 5) (v := ?_) rfl (by kernel_rfl) (by kernel_rfl) (by kernel_rfl) (fun _ _ _ h => h) (Or.inl ⟨by kernel_rfl, ?_⟩) ?_
              rotate_left
              · intro w; first | (go_simp; done) | (go_simp; with_reducible rfl)
              refine wpAny_take (i := 6) (v := ?_) rfl (by kernel_rfl) (by kernel_rfl) (by kernel_rfl) (fun _ _ _ h => h) (Or.inl ⟨by kernel_rfl, ?_⟩) ?_
              rotate_left
              · intro w; first | (go_simp; done) | (go_simp; with_reducible rfl)
              refine wpAny_take (i := 7) (v := ?_) rfl (by kernel_rfl) (by kernel_rfl) (by kernel_rfl) (fun _ _ _ h => h) (Or.inl ⟨by kernel_rfl, ?_⟩) ?_
              rotate_left
              · intro w; first | (go_simp; done) | (go_simp; with_reducible rfl)
              refine wpAny_take (i := 8) (v := ?_) rfl (by kernel_rfl) (by kernel_rfl) (by kernel_rfl) (fun _ _ _ h => h) (Or.inl ⟨by kernel_rfl, ?_⟩) ?_
              rotate_left
              · intro w; first | (go_simp; done) | (go_simp; with_reducible rfl)
              refine wpAny_take (i := 9) (v := ?_) rfl (by kernel_rfl) (by kernel_rfl) (by kernel_rfl) (fun _ _ _ h => h) (Or.inl ⟨by kernel_rfl, ?_⟩) ?_
              rotate_left
              · intro w; first | (go_simp; done) | (go_simp; with_reducible rfl)
              refine wpAny_done (by kernel_rfl) ?_ _
              go_wp2
              go_meet
              case rel => exact ⟨rfl, rfl, K6⟩
          · go_simp
            refine hK _ _ ?_
            clear hK K
            refine wpAny_ready (rs := [0]) (by kernel_rfl) (by simp) ?_
            refine AllReady.cons rfl (fun K hK => ?_) (AllReady.nil)
            go_simp
            refine hK _ _ ?_
            clear hK K
            refine wpAny_ready (rs := [1]) (by kernel_rfl) (by simp) ?_
            refine AllReady.cons rfl (fun K hK => ?_) (AllReady.nil)
            go_simp
            go_wp2_with (go_at_call 13; (with_reducible refine (HT1.out _).mono ?_); rintro e w4 ⟨rfl, hb4⟩)
            have B4 : Below wc.heap.size wc w4 := by
              (repeat' (first | (with_reducible exact Below.refl _ _) | (with_reducible assumption) | (with_reducible refine belowNext ?_ (by with_reducible assumption)) | (with_reducible refine belowAlloc ?_ _) | (with_reducible refine Below.drew ?_) | (with_reducible refine below_drewN ?_ _) | (with_reducible refine Below.setCell ?_ ?_ _) | go_size | (with_reducible refine sizeOf' ?_) | (with_reducible refine sizeAdd ?_) | (dsimp only; first | (with_reducible refine sizeOf' ?_) | (with_reducible refine sizeAdd ?_))))
            have K4 := K3.on B4
            clear v0 v1 s0 s1 B z hb4
            obtain ⟨B, z, v0, v1, s0, s1⟩ := id K4
            refine wpAny_ready (rs := [3]) (by kernel_rfl) (by simp) ?_
            refine AllReady.cons rfl (fun K hK => ?_) (AllReady.nil)
            go_simp
            go_wp2_with (go_at_call 13; (with_reducible refine (HT2.out _).mono ?_); rintro e w5 ⟨rfl, hb5⟩)
            have B5 : Below w4.heap.size w4 w5 := by
              (repeat' (first | (with_reducible exact Below.refl _ _) | (with_reducible assumption) | (with_reducible refine belowNext ?_ (by with_reducible assumption)) | (with_reducible refine belowAlloc ?_ _) | (with_reducible refine Below.drew ?_) | (with_reducible refine below_drewN ?_ _) | (with_reducible refine Below.setCell ?_ ?_ _) | go_size | (with_reducible refine sizeOf' ?_) | (with_reducible refine sizeAdd ?_) | (dsimp only; first | (with_reducible refine sizeOf' ?_) | (with_reducible refine sizeAdd ?_))))
            have K5 := K4.on B5
            clear v0 v1 s0 s1 B z hb5
            obtain ⟨B, z, v0, v1, s0, s1⟩ := id K5
            refine wpAny_ready (rs := [4]) (by kernel_rfl) (by simp) ?_
            refine AllReady.cons rfl (fun K hK => ?_) (AllReady.nil)
            go_simp
            go_wp2_with (go_at_call 30; (with_reducible refine (HB.out _).mono ?_); rintro e w6 ⟨rfl, hb6⟩)
            have B6 : Below w5.heap.size w5 w6 := by
              (repeat' (first | (with_reducible exact Below.refl _ _) | (with_reducible assumption) | (with_reducible refine belowNext ?_ (by with_reducible assumption)) | (with_reducible refine belowAlloc ?_ _) | (with_reducible refine Below.drew ?_) | (with_reducible refine below_drewN ?_ _) | (with_reducible refine Below.setCell ?_ ?_ _) | go_size | (with_reducible refine sizeOf' ?_) | (with_reducible refine sizeAdd ?_) | (dsimp only; first | (with_reducible refine sizeOf' ?_) | (with_reducible refine sizeAdd ?_))))
            have K6 := K5.on B6
            clear v0 v1 s0 s1 B z hb6
            obtain ⟨B, z, v0, v1, s0, s1⟩ := id K6
            refine wpAny_take (i := 5) (v := ?_) rfl (by kernel_rfl) (by kernel_rfl) (by kernel_rfl) (fun _ _ _ h => h) (Or.inl ⟨by kernel_rfl, ?_⟩) ?_
            rotate_left
            · intro w; first | (go_simp; done) | (go_simp; with_reducible rfl)
            refine wpAny_take (i := 6) (v := ?_) rfl (by kernel_rfl) (by kernel_rfl) (by kernel_rfl) (fun _ _ _ h => h) (Or.inl ⟨by kernel_rfl, ?_⟩) ?_
            rotate_left
            · intro w; first | (go_simp; done) | (go_simp; with_reducible rfl)
            refine wpAny_take (i := 7) (v := ?_) rfl (by kernel_rfl) (by kernel_rfl) (by kernel_rfl) (fun _ _ _ h => h) (Or.inl ⟨by kernel_rfl, ?_⟩) ?_
            rotate_left
            · intro w; first | (go_simp; done) | (go_simp; with_reducible rfl)
            refine wpAny_take (i := 8) (v := ?_) rfl (by kernel_rfl) (by kernel_rfl) (by kernel_rfl) (fun _ _ _ h => h) (Or.inl ⟨by kernel_rfl, ?_⟩) ?_
            rotate_left
            · intro w; first | (go_simp; done) | (go_simp; with_reducible rfl)
            refine wpAny_take (i := 9) (v := ?_) rfl (by kernel_rfl) (by kernel_rfl) (by kernel_rfl) (fun _ _ _ h => h) (Or.inl ⟨by kernel_rfl, ?_⟩) ?_
            rotate_left
            · intro w; first | (go_simp; done) | (go_simp; with_reducible rfl)
            refine wpAny_done (by kernel_rfl) ?_ _
            go_wp2
            go_meet
            case rel => exact ⟨rfl, rfl, K6⟩
        case rest =>
          obtain ⟨rfl, rfl, K4⟩ := hcut
          go_wp2
          go_ret
          exact ⟨rfl, K4.B⟩
end Go.Proofs.YtomcmjnhfloeeaaDoor

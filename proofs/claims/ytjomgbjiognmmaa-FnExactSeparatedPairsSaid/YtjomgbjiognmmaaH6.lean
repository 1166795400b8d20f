/-
  Separated pairs, as the program and as the model find them.
-/
import Derived.Test.YtjomgbjiognmmaaH5
import Derived.Test.YtjomgbjiognmmaaW25
namespace Go.Proofs.Ytjomgbjiognmmaa
open Go.RowKit

/-- Two angles with the letters 0 and 1 in any order. -/
def sepB (x y t : Int × Int) : Bool := decide (ltrI x.1 x.2 t.1 t.2 ≠ ltrI y.1 y.2 t.1 t.2) && decide (ltrI x.1 x.2 t.1 t.2 ≠ 42) && decide (ltrI y.1 y.2 t.1 t.2 ≠ 42)
/-- The table of an orbit, as a value. -/
def tabV (A : Option Addr) (m cap : Nat) (A2 : Option Addr) (N cap2 : Nat) : Value := .agg #[.slice A m cap, .slice A2 N cap2]
/-- Cells that a region reads. -/
structure H6 (w : World) (p1 p2 p3 p4 p5 p6 : Addr) (v1 v2 v3 v4 v5 v6 : Value) (W : World) : Prop where
  B : Below w.heap.size w W
  z1 : p1.block < W.heap.size
  z2 : p2.block < W.heap.size
  z3 : p3.block < W.heap.size
  z4 : p4.block < W.heap.size
  z5 : p5.block < W.heap.size
  z6 : p6.block < W.heap.size
  x1 : W.cell? p1 = some v1
  x2 : W.cell? p2 = some v2
  x3 : W.cell? p3 = some v3
  x4 : W.cell? p4 = some v4
  x5 : W.cell? p5 = some v5
  x6 : W.cell? p6 = some v6
theorem H6.on {w W W1 : World} {p1 p2 p3 p4 p5 p6 : Addr} {v1 v2 v3 v4 v5 v6 : Value} (H : H6 w p1 p2 p3 p4 p5 p6 v1 v2 v3 v4 v5 v6 W) (hb : Below W.heap.size W W1) : H6 w p1 p2 p3 p4 p5 p6 v1 v2 v3 v4 v5 v6 W1 := by
  have hs := hb.size
  have := H.z1
  have := H.z2
  have := H.z3
  have := H.z4
  have := H.z5
  have := H.z6
  exact ⟨belowNext H.B hb, by omega, by omega, by omega, by omega, by omega, by omega, (hb.cell H.z1).trans H.x1, (hb.cell H.z2).trans H.x2, (hb.cell H.z3).trans H.x3, (hb.cell H.z4).trans H.x4, (hb.cell H.z5).trans H.x5, (hb.cell H.z6).trans H.x6⟩
/-- Cells that a region reads. -/
structure H9 (w : World) (p1 p2 p3 p4 p5 p6 p7 p8 p9 : Addr) (v1 v2 v3 v4 v5 v6 v7 v8 v9 : Value) (W : World) : Prop where
  B : Below w.heap.size w W
  z1 : p1.block < W.heap.size
  z2 : p2.block < W.heap.size
  z3 : p3.block < W.heap.size
  z4 : p4.block < W.heap.size
  z5 : p5.block < W.heap.size
  z6 : p6.block < W.heap.size
  z7 : p7.block < W.heap.size
  z8 : p8.block < W.heap.size
  z9 : p9.block < W.heap.size
  x1 : W.cell? p1 = some v1
  x2 : W.cell? p2 = some v2
  x3 : W.cell? p3 = some v3
  x4 : W.cell? p4 = some v4
  x5 : W.cell? p5 = some v5
  x6 : W.cell? p6 = some v6
  x7 : W.cell? p7 = some v7
  x8 : W.cell? p8 = some v8
  x9 : W.cell? p9 = some v9
theorem H9.on {w W W1 : World} {p1 p2 p3 p4 p5 p6 p7 p8 p9 : Addr} {v1 v2 v3 v4 v5 v6 v7 v8 v9 : Value} (H : H9 w p1 p2 p3 p4 p5 p6 p7 p8 p9 v1 v2 v3 v4 v5 v6 v7 v8 v9 W) (hb : Below W.heap.size W W1) : H9 w p1 p2 p3 p4 p5 p6 p7 p8 p9 v1 v2 v3 v4 v5 v6 v7 v8 v9 W1 := by
  have hs := hb.size
  have := H.z1
  have := H.z2
  have := H.z3
  have := H.z4
  have := H.z5
  have := H.z6
  have := H.z7
  have := H.z8
  have := H.z9
  exact ⟨belowNext H.B hb, by omega, by omega, by omega, by omega, by omega, by omega, by omega, by omega, by omega, (hb.cell H.z1).trans H.x1, (hb.cell H.z2).trans H.x2, (hb.cell H.z3).trans H.x3, (hb.cell H.z4).trans H.x4, (hb.cell H.z5).trans H.x5, (hb.cell H.z6).trans H.x6, (hb.cell H.z7).trans H.x7, (hb.cell H.z8).trans H.x8, (hb.cell H.z9).trans H.x9⟩

set_option maxRecDepth 8000 in
set_option maxHeartbeats 1000000 in
theorem implPoint (A : Option Addr) (m cap : Nat) (A2 : Option Addr) (N cap2 : Nat) (L : List (Int × Int)) (i : Int) (k : Nat) (w : World) (hr : AngRow w w.heap.size A L) (hl : L.length = m) (hm : m ≤ 7) (hk : k < m) (hi : i = (k : Int) + 1) :
    Calls Try.prog 71 #[.agg #[.slice A m cap, .slice A2 N cap2], .int .i64 i] w fun e w' => e = .returned (ang (cA L k).1 (cA L k).2) ∧ Below w.heap.size w w' := by
  obtain ⟨b, off, rfl, hb, hc⟩ := hr (by intro h; rw [h] at hl; simp at hl; omega)
  obtain ⟨y0, y1⟩ := hc k _ _ (cA_some (by omega))
  have hw : IntKind.i64.wrap (i - 1) = (k : Int) := (IntWalk.i64_in _ (by omega)).trans (by omega)
  have hkI : (k : Int) < (m : Int) := by omega
  have hb1 : b < w.heap.size + 1 := by omega
  have hb2 : b < w.heap.size + 1 + 1 := by omega
  generalize (cA L k).1 = p at *
  generalize (cA L k).2 = q at *
  clear hc hr
  go_enter Try.func71, Try.ntmps71
  go_wp2
  refine bodyPost_ret (v := ang p q) (by simp [results, Try.results71, go_sem]) rfl ⟨rfl, ?_⟩
  (repeat' (first | (with_reducible exact Below.refl _ _) | (with_reducible assumption) | (with_reducible refine belowNext ?_ (by with_reducible assumption)) | (with_reducible refine belowAlloc ?_ _) | (with_reducible refine Below.drew ?_) | (with_reducible refine below_drewN ?_ _) | (with_reducible refine Below.setCell ?_ ?_ _) | go_size | (with_reducible refine sizeOf' ?_) | (with_reducible refine sizeAdd ?_) | (dsimp only; first | (with_reducible refine sizeOf' ?_) | (with_reducible refine sizeAdd ?_))))

set_option maxRecDepth 8000 in
set_option maxHeartbeats 4000000 in
theorem implSep (A : Option Addr) (m cap : Nat) (A2 : Option Addr) (N cap2 : Nat) (L : List (Int × Int)) (Ap : Option Addr) (cp : Nat) (i j : Int) (k l : Nat) (w : World) (hr : AngRow w w.heap.size A L) (hl : L.length = m) (hm : m ≤ 7) (ha : allAng L = true)
    (hp : ∃ b o, Ap = some ⟨b, o, none⟩ ∧ b < w.heap.size ∧ w.cell? ⟨b, o, none⟩ = some (.int .i64 i) ∧ w.cell? ⟨b, o + 1, none⟩ = some (.int .i64 j)) (hk : k < m) (hi : i = (k : Int) + 1) (hkl : l < m) (hj : j = (l : Int) + 1) :
    Calls Try.prog 43 #[.agg #[.slice A m cap, .slice A2 N cap2], .slice Ap 2 cp] w fun e w' => e = .returned (.bool (sepB (cA L k) (cA L l) (cA L 0))) ∧ Below w.heap.size w w' := by
  obtain ⟨b, o, rfl, hb, y0, y1⟩ := hp
  have HP0 := Lib.hid (fun W (hB : Below w.heap.size w W) => implPoint A m cap A2 N cap2 L 1 0 W ((hr.below hB).more hB.size) hl hm (by omega) rfl)
  have HP1 := Lib.hid (fun W (hB : Below w.heap.size w W) => implPoint A m cap A2 N cap2 L i k W ((hr.below hB).more hB.size) hl hm hk hi)
  have HP2 := Lib.hid (fun W (hB : Below w.heap.size w W) => implPoint A m cap A2 N cap2 L j l W ((hr.below hB).more hB.size) hl hm hkl hj)
  have ok0 := isAng_ok (cA_ang ha (i := 0) (by omega))
  have HL1 := Lib.hid (fun W => implLet (cA L k).1 (cA L k).2 (cA L 0).1 (cA L 0).2 W (isAng_ok (cA_ang ha (by omega))) ok0)
  have HL2 := Lib.hid (fun W => implLet (cA L l).1 (cA L l).2 (cA L 0).1 (cA L 0).2 W (isAng_ok (cA_ang ha (by omega))) ok0)
  have HE : Hid (∀ r : Bool, r = (decide (ltrI (cA L k).1 (cA L k).2 (cA L 0).1 (cA L 0).2 ≠ ltrI (cA L l).1 (cA L l).2 (cA L 0).1 (cA L 0).2) && decide (ltrI (cA L k).1 (cA L k).2 (cA L 0).1 (cA L 0).2 ≠ 42) && decide (ltrI (cA L l).1 (cA L l).2 (cA L 0).1 (cA L 0).2 ≠ 42)) → r = sepB (cA L k) (cA L l) (cA L 0)) := Lib.hid (fun r h => h)
  generalize sepB (cA L k) (cA L l) (cA L 0) = R at *
  generalize ltrI (cA L k).1 (cA L k).2 (cA L 0).1 (cA L 0).2 = u at *
  generalize ltrI (cA L l).1 (cA L l).2 (cA L 0).1 (cA L 0).2 = v at *
  generalize (cA L k).1 = k1 at *
  generalize (cA L k).2 = k2 at *
  generalize (cA L l).1 = l1 at *
  generalize (cA L l).2 = l2 at *
  generalize (cA L 0).1 = t1 at *
  generalize (cA L 0).2 = t2 at *
  clear hr ok0 hi hj hk hkl hl ha
  go_enter Try.func43, Try.ntmps43
  go_wp2_with fail
  refine (HP0.out _ (belowAlloc (Below.refl _ _) _)).mono ?_
  rintro e w1 ⟨rfl, hb1⟩
  have hs := hb1.size
  simp at hs
  have q0 : w1.cell? ⟨w.heap.size, 0, none⟩ = some (.slice A m cap) := cellThru hb1 (by simp) (by simp [go_sem])
  have q1 : w1.cell? ⟨w.heap.size, 1, none⟩ = some (.slice A2 N cap2) := cellThru hb1 (by simp) (by simp [go_sem])
  have B1 : Below w.heap.size w w1 := by
    (repeat' (first | (with_reducible exact Below.refl _ _) | (with_reducible assumption) | (with_reducible refine belowNext ?_ (by with_reducible assumption)) | (with_reducible refine belowAlloc ?_ _) | (with_reducible refine Below.drew ?_) | (with_reducible refine below_drewN ?_ _) | (with_reducible refine Below.setCell ?_ ?_ _) | go_size | (with_reducible refine sizeOf' ?_) | (with_reducible refine sizeAdd ?_) | (dsimp only; first | (with_reducible refine sizeOf' ?_) | (with_reducible refine sizeAdd ?_))))
  have y0 : w1.cell? ⟨b, o, none⟩ = some (.int .i64 i) := cellThru B1 hb y0
  have y1 : w1.cell? ⟨b, o + 1, none⟩ = some (.int .i64 j) := cellThru B1 hb y1
  have hbw : b < w1.heap.size := by omega
  have hzw : w.heap.size < w1.heap.size := by omega
  obtain ⟨G, hG⟩ : ∃ G, w1.heap.size = G := ⟨_, rfl⟩
  have HG := Lib.hid hG
  clear hb1 hs hG HP0
  go_wp2_with fail
  rw [HG.out]
  have S0 : (H6 w ⟨w.heap.size, 0, none⟩ ⟨w.heap.size, 1, none⟩ ⟨G, 0, none⟩ ⟨G, 1, none⟩ ⟨b, o, none⟩ ⟨b, o + 1, none⟩ (.slice A m cap) (.slice A2 N cap2) (.int .i64 t1) (.int .i64 t2) (.int .i64 i) (.int .i64 j)) (w1.alloc (.cells #[.int .i64 t1, .int .i64 t2] 27)) := by
    have hG := HG.out
    subst hG
    refine ⟨?_, by simp; omega, by simp; omega, by simp, by simp, by simp; omega, by simp; omega, ?_, ?_, ?_, ?_, ?_, ?_⟩
    · (repeat' (first | (with_reducible exact Below.refl _ _) | (with_reducible assumption) | (with_reducible refine belowNext ?_ (by with_reducible assumption)) | (with_reducible refine belowAlloc ?_ _) | (with_reducible refine Below.drew ?_) | (with_reducible refine below_drewN ?_ _) | (with_reducible refine Below.setCell ?_ ?_ _) | go_size | (with_reducible refine sizeOf' ?_) | (with_reducible refine sizeAdd ?_) | (dsimp only; first | (with_reducible refine sizeOf' ?_) | (with_reducible refine sizeAdd ?_))))
    all_goals first | (simp [go_sem]; done) | exact cellThru (belowAlloc (Below.refl _ _) _) (by omega) (by assumption)
  refine wp_region_held_drew (S := (H6 w ⟨w.heap.size, 0, none⟩ ⟨w.heap.size, 1, none⟩ ⟨G, 0, none⟩ ⟨G, 1, none⟩ ⟨b, o, none⟩ ⟨b, o + 1, none⟩ (.slice A m cap) (.slice A2 N cap2) (.int .i64 t1) (.int .i64 t2) (.int .i64 i) (.int .i64 j))) (by kernel_rfl) ?_ (fun hHeld => ?_)
  · exact S0.on (Below.refl _ _).drew
  refine wpAnyH_take (i := 0) (v := ?_) rfl (by kernel_rfl) (by kernel_rfl) (by kernel_rfl) (fun _ _ _ h => h) (Or.inl ⟨by kernel_rfl, ?_⟩) hHeld ?_
  rotate_left
  · intro w hSw; obtain ⟨B, z1, z2, z3, z4, z5, z6, x1, x2, x3, x4, x5, x6⟩ := hSw; first | (go_simp; done) | (go_simp; with_reducible rfl)
  refine wpAnyH_take (i := 1) (v := ?_) rfl (by kernel_rfl) (by kernel_rfl) (by kernel_rfl) (fun _ _ _ h => h) (Or.inl ⟨by kernel_rfl, ?_⟩) hHeld ?_
  rotate_left
  · intro w hSw; obtain ⟨B, z1, z2, z3, z4, z5, z6, x1, x2, x3, x4, x5, x6⟩ := hSw; first | (go_simp; done) | (go_simp; with_reducible rfl)
  refine wpAnyH_take (i := 2) (v := ?_) rfl (by kernel_rfl) (by kernel_rfl) (by kernel_rfl) (fun _ _ _ h => h) (Or.inl ⟨by kernel_rfl, ?_⟩) hHeld ?_
  rotate_left
  · intro w hSw; obtain ⟨B, z1, z2, z3, z4, z5, z6, x1, x2, x3, x4, x5, x6⟩ := hSw; first | (go_simp; done) | (go_simp; with_reducible rfl)
  refine wpAnyH_take (i := 3) (v := ?_) rfl (by kernel_rfl) (by kernel_rfl) (by kernel_rfl) (fun _ _ _ h => h) (Or.inl ⟨by kernel_rfl, ?_⟩) hHeld ?_
  rotate_left
  · intro w hSw; obtain ⟨B, z1, z2, z3, z4, z5, z6, x1, x2, x3, x4, x5, x6⟩ := hSw; first | (go_simp; done) | (go_simp; with_reducible rfl)
  refine wpAnyH_take (i := 5) (v := ?_) rfl (by kernel_rfl) (by kernel_rfl) (by kernel_rfl) (fun _ _ _ h => h) (Or.inl ⟨by kernel_rfl, ?_⟩) hHeld ?_
  rotate_left
  · intro w hSw; obtain ⟨B, z1, z2, z3, z4, z5, z6, x1, x2, x3, x4, x5, x6⟩ := hSw; first | (go_simp; done) | (go_simp; with_reducible rfl)
  refine wpAnyH_take (i := 7) (v := ?_) rfl (by kernel_rfl) (by kernel_rfl) (by kernel_rfl) (fun _ _ _ h => h) (Or.inl ⟨by kernel_rfl, ?_⟩) hHeld ?_
  rotate_left
  · intro w hSw; obtain ⟨B, z1, z2, z3, z4, z5, z6, x1, x2, x3, x4, x5, x6⟩ := hSw; first | (go_simp; done) | (go_simp; with_reducible rfl)
  refine wpAnyH_take (i := 8) (v := ?_) rfl (by kernel_rfl) (by kernel_rfl) (by kernel_rfl) (fun _ _ _ h => h) (Or.inl ⟨by kernel_rfl, ?_⟩) hHeld ?_
  rotate_left
  · intro w hSw; obtain ⟨B, z1, z2, z3, z4, z5, z6, x1, x2, x3, x4, x5, x6⟩ := hSw; first | (go_simp; done) | (go_simp; with_reducible rfl)
  refine wpAnyH_take (i := 9) (v := ?_) rfl (by kernel_rfl) (by kernel_rfl) (by kernel_rfl) (fun _ _ _ h => h) (Or.inl ⟨by kernel_rfl, ?_⟩) hHeld ?_
  rotate_left
  · intro w hSw; obtain ⟨B, z1, z2, z3, z4, z5, z6, x1, x2, x3, x4, x5, x6⟩ := hSw; first | (go_simp; done) | (go_simp; with_reducible rfl)
  refine wpAnyH_take (i := 10) (v := ?_) rfl (by kernel_rfl) (by kernel_rfl) (by kernel_rfl) (fun _ _ _ h => h) (Or.inl ⟨by kernel_rfl, ?_⟩) hHeld ?_
  rotate_left
  · intro w hSw; obtain ⟨B, z1, z2, z3, z4, z5, z6, x1, x2, x3, x4, x5, x6⟩ := hSw; first | (go_simp; done) | (go_simp; with_reducible rfl)
  refine wpAnyH_take (i := 12) (v := ?_) rfl (by kernel_rfl) (by kernel_rfl) (by kernel_rfl) (fun _ _ _ h => h) (Or.inl ⟨by kernel_rfl, ?_⟩) hHeld ?_
  rotate_left
  · intro w hSw; obtain ⟨B, z1, z2, z3, z4, z5, z6, x1, x2, x3, x4, x5, x6⟩ := hSw; first | (go_simp; done) | (go_simp; with_reducible rfl)
  refine wpAnyH_ready (rs := [4]) (by kernel_rfl) (by simp) ?_
  refine AllReadyH.cons rfl (fun K hK => ?_) AllReadyH.nil
  go_simp
  go_wp2_with (go_at_call 71; (with_reducible refine (HP1.out _ hHeld.B).mono ?_); rintro e w11 ⟨rfl, hb11⟩)
  have S11 := hHeld.on hb11
  refine hK.out _ _ ?_ (fun hHeld => ?_)
  · exact S11
  clear hK K
  refine wpAnyH_ready (rs := [6]) (by kernel_rfl) (by simp) ?_
  refine AllReadyH.cons rfl (fun K hK => ?_) AllReadyH.nil
  go_simp
  go_wp2_with (go_at_call 72; (with_reducible refine (HL1.out _).mono ?_); rintro e w12 ⟨rfl, hb12⟩)
  have S12 := hHeld.on hb12
  refine hK.out _ _ ?_ (fun hHeld => ?_)
  · exact S12
  clear hK K
  refine wpAnyH_ready (rs := [11]) (by kernel_rfl) (by simp) ?_
  refine AllReadyH.cons rfl (fun K hK => ?_) AllReadyH.nil
  go_simp
  go_wp2_with (go_at_call 71; (with_reducible refine (HP2.out _ hHeld.B).mono ?_); rintro e w13 ⟨rfl, hb13⟩)
  have S13 := hHeld.on hb13
  refine hK.out _ _ ?_ (fun hHeld => ?_)
  · exact S13
  clear hK K
  refine wpAnyH_ready (rs := [13]) (by kernel_rfl) (by simp) ?_
  refine AllReadyH.cons rfl (fun K hK => ?_) AllReadyH.nil
  go_simp
  go_wp2_with (go_at_call 72; (with_reducible refine (HL2.out _).mono ?_); rintro e w14 ⟨rfl, hb14⟩)
  have S14 := hHeld.on hb14
  refine hK.out _ _ ?_ (fun hHeld => ?_)
  · exact S14
  clear hK K
  refine wpAnyH_take (i := 14) (v := ?_) rfl (by kernel_rfl) (by kernel_rfl) (by kernel_rfl) (fun _ _ _ h => h) (Or.inl ⟨by kernel_rfl, ?_⟩) hHeld ?_
  rotate_left
  · intro w hSw; obtain ⟨B, z1, z2, z3, z4, z5, z6, x1, x2, x3, x4, x5, x6⟩ := hSw; first | (go_simp; done) | (go_simp; with_reducible rfl)
  refine wpAnyH_take (i := 15) (v := ?_) rfl (by kernel_rfl) (by kernel_rfl) (by kernel_rfl) (fun _ _ _ h => h) (Or.inl ⟨by kernel_rfl, ?_⟩) hHeld ?_
  rotate_left
  · intro w hSw; obtain ⟨B, z1, z2, z3, z4, z5, z6, x1, x2, x3, x4, x5, x6⟩ := hSw; first | (go_simp; done) | (go_simp; with_reducible rfl)
  refine wpAnyH_done (by kernel_rfl) ?_ _
  clear hHeld S0
  go_wp2
  all_goals
    go_ret
    refine ⟨?_, S14.B⟩
    rw [← HE.out _ rfl]
    refine congrArg (fun b => Ending.returned (.bool b)) ?_
    first
    | (simp [*]; done)
    | (by_cases h1 : u = v <;> by_cases h2 : u = 42 <;> by_cases h3 : v = 42 <;> simp_all; done)

set_option maxRecDepth 8000 in
set_option maxHeartbeats 4000000 in
theorem specApart (x1 x2 y1 y2 t1 t2 : Int) (w : World) (hx : angOk x1 x2) (hy : angOk y1 y2) (ht : angOk t1 t2) :
    Calls Try.prog 42 #[ang x1 x2, ang y1 y2, ang t1 t2] w fun e w' => e = .returned (.bool (sepB (x1, x2) (y1, y2) (t1, t2))) ∧ Below w.heap.size w w' := by
  have HL1 := Lib.hid (fun W => specLet x1 x2 t1 t2 W hx ht)
  have HL2 := Lib.hid (fun W => specLet y1 y2 t1 t2 W hy ht)
  have HE : Hid (∀ r : Bool, r = (decide (ltrI x1 x2 t1 t2 ≠ ltrI y1 y2 t1 t2) && decide (ltrI x1 x2 t1 t2 ≠ 42) && decide (ltrI y1 y2 t1 t2 ≠ 42)) → r = sepB (x1, x2) (y1, y2) (t1, t2)) := Lib.hid (fun r h => h)
  have HU := Lib.hid (ltr_three x1 x2 t1 t2)
  have HV := Lib.hid (ltr_three y1 y2 t1 t2)
  generalize sepB (x1, x2) (y1, y2) (t1, t2) = R at *
  generalize ltrI x1 x2 t1 t2 = u at *
  generalize ltrI y1 y2 t1 t2 = v at *
  clear hx hy ht
  go_enter Try.func42, Try.ntmps42
  go_wp2_with fail
  have S0 : (H6 w ⟨w.heap.size, 0, none⟩ ⟨w.heap.size, 1, none⟩ ⟨w.heap.size + 1, 0, none⟩ ⟨w.heap.size + 1, 1, none⟩ ⟨w.heap.size + 1 + 1, 0, none⟩ ⟨w.heap.size + 1 + 1, 1, none⟩ (.int .i64 x1) (.int .i64 x2) (.int .i64 y1) (.int .i64 y2) (.int .i64 t1) (.int .i64 t2)) (((w.alloc (.cells #[.int .i64 x1, .int .i64 x2] 27)).alloc (.cells #[.int .i64 y1, .int .i64 y2] 27)).alloc (.cells #[.int .i64 t1, .int .i64 t2] 27)) := by
    refine ⟨?_, by simp <;> omega, by simp <;> omega, by simp <;> omega, by simp <;> omega, by simp <;> omega, by simp <;> omega, ?_, ?_, ?_, ?_, ?_, ?_⟩
    · (repeat' (first | (with_reducible exact Below.refl _ _) | (with_reducible assumption) | (with_reducible refine belowNext ?_ (by with_reducible assumption)) | (with_reducible refine belowAlloc ?_ _) | (with_reducible refine Below.drew ?_) | (with_reducible refine below_drewN ?_ _) | (with_reducible refine Below.setCell ?_ ?_ _) | go_size | (with_reducible refine sizeOf' ?_) | (with_reducible refine sizeAdd ?_) | (dsimp only; first | (with_reducible refine sizeOf' ?_) | (with_reducible refine sizeAdd ?_))))
    all_goals simp [go_sem]
  refine wp_region_held_drew (S := (H6 w ⟨w.heap.size, 0, none⟩ ⟨w.heap.size, 1, none⟩ ⟨w.heap.size + 1, 0, none⟩ ⟨w.heap.size + 1, 1, none⟩ ⟨w.heap.size + 1 + 1, 0, none⟩ ⟨w.heap.size + 1 + 1, 1, none⟩ (.int .i64 x1) (.int .i64 x2) (.int .i64 y1) (.int .i64 y2) (.int .i64 t1) (.int .i64 t2))) (by kernel_rfl) ?_ (fun hHeld => ?_)
  · exact S0.on (Below.refl _ _).drew
  refine wpAnyH_take (i := 0) (v := ?_) rfl (by kernel_rfl) (by kernel_rfl) (by kernel_rfl) (fun _ _ _ h => h) (Or.inl ⟨by kernel_rfl, ?_⟩) hHeld ?_
  rotate_left
  · intro w hSw; obtain ⟨B, z1, z2, z3, z4, z5, z6, k1, k2, k3, k4, k5, k6⟩ := hSw; first | (go_simp; done) | (go_simp; with_reducible rfl)
  refine wpAnyH_take (i := 1) (v := ?_) rfl (by kernel_rfl) (by kernel_rfl) (by kernel_rfl) (fun _ _ _ h => h) (Or.inl ⟨by kernel_rfl, ?_⟩) hHeld ?_
  rotate_left
  · intro w hSw; obtain ⟨B, z1, z2, z3, z4, z5, z6, k1, k2, k3, k4, k5, k6⟩ := hSw; first | (go_simp; done) | (go_simp; with_reducible rfl)
  refine wpAnyH_take (i := 3) (v := ?_) rfl (by kernel_rfl) (by kernel_rfl) (by kernel_rfl) (fun _ _ _ h => h) (Or.inl ⟨by kernel_rfl, ?_⟩) hHeld ?_
  rotate_left
  · intro w hSw; obtain ⟨B, z1, z2, z3, z4, z5, z6, k1, k2, k3, k4, k5, k6⟩ := hSw; first | (go_simp; done) | (go_simp; with_reducible rfl)
  refine wpAnyH_take (i := 4) (v := ?_) rfl (by kernel_rfl) (by kernel_rfl) (by kernel_rfl) (fun _ _ _ h => h) (Or.inl ⟨by kernel_rfl, ?_⟩) hHeld ?_
  rotate_left
  · intro w hSw; obtain ⟨B, z1, z2, z3, z4, z5, z6, k1, k2, k3, k4, k5, k6⟩ := hSw; first | (go_simp; done) | (go_simp; with_reducible rfl)
  refine wpAnyH_ready (rs := [2]) (by kernel_rfl) (by simp) ?_
  refine AllReadyH.cons rfl (fun K hK => ?_) AllReadyH.nil
  go_simp
  go_wp2_with (go_at_call 70; (with_reducible refine (HL1.out _).mono ?_); rintro e w11 ⟨rfl, hb11⟩)
  have S11 := hHeld.on hb11
  refine hK.out _ _ ?_ (fun hHeld => ?_)
  · exact S11
  clear hK K
  refine wpAnyH_ready (rs := [5]) (by kernel_rfl) (by simp) ?_
  refine AllReadyH.cons rfl (fun K hK => ?_) AllReadyH.nil
  go_simp
  go_wp2_with (go_at_call 70; (with_reducible refine (HL2.out _).mono ?_); rintro e w12 ⟨rfl, hb12⟩)
  have S12 := hHeld.on hb12
  refine hK.out _ _ ?_ (fun hHeld => ?_)
  · exact S12
  clear hK K
  refine wpAnyH_take (i := 6) (v := ?_) rfl (by kernel_rfl) (by kernel_rfl) (by kernel_rfl) (fun _ _ _ h => h) (Or.inl ⟨by kernel_rfl, ?_⟩) hHeld ?_
  rotate_left
  · intro w hSw; obtain ⟨B, z1, z2, z3, z4, z5, z6, k1, k2, k3, k4, k5, k6⟩ := hSw; first | (go_simp; done) | (go_simp; with_reducible rfl)
  refine wpAnyH_take (i := 7) (v := ?_) rfl (by kernel_rfl) (by kernel_rfl) (by kernel_rfl) (fun _ _ _ h => h) (Or.inl ⟨by kernel_rfl, ?_⟩) hHeld ?_
  rotate_left
  · intro w hSw; obtain ⟨B, z1, z2, z3, z4, z5, z6, k1, k2, k3, k4, k5, k6⟩ := hSw; first | (go_simp; done) | (go_simp; with_reducible rfl)
  refine wpAnyH_done (by kernel_rfl) ?_ _
  clear hHeld S0
  go_wp2
  all_goals
    go_ret
    refine ⟨?_, S12.B⟩
    rw [← HE.out _ rfl]
    refine congrArg (fun b => Ending.returned (.bool b)) ?_
    rcases HU.out with h | h | h <;> rcases HV.out with h' | h' | h' <;> simp_all
end Go.Proofs.Ytjomgbjiognmmaa

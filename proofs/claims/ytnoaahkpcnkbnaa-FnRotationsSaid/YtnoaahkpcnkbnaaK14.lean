/-
  Contracts: RotationNumber, on both sides; the walk of its law; written by genK14.py.
-/
import Derived.Test.YtnoaahkpcnkbnaaKE
namespace Go.Proofs.Ytnoaahkpcnkbnaa
open Go.RowKit

/-- What RotationNumber answers. -/
def rnP (ls : List (List (Int × Int))) : Int := plcI (gA ls 0) (orb (cA (gA ls 0) 0) ls.length)
def RnIs (ls : List (List (Int × Int))) (N D C : Int) : Prop := CoIs ls C ∧ ((C ≠ 0 ∧ N = 0 ∧ D = 0) ∨ (C = 0 ∧ N = redN (rnP ls) ((gA ls 0).length : Int) ∧ D = redD (rnP ls) ((gA ls 0).length : Int)))
theorem rn_ex (ls : List (List (Int × Int))) : ∃ N D C, RnIs ls N D C := by
  obtain ⟨C, hC⟩ := co_ex ls
  by_cases h : C = 0
  · exact ⟨_, _, C, hC, .inr ⟨h, rfl, rfl⟩⟩
  · exact ⟨0, 0, C, hC, .inl ⟨h, rfl, rfl⟩⟩
theorem orbRedQ {p : Int × Int} (h : Red p) : ∀ k, Red (orb p k)
  | 0 => h
  | k + 1 => dbl_red (orbRedQ h k)
theorem plcI_in (l : List (Int × Int)) (p : Int × Int) : -1 ≤ plcI l p ∧ plcI l p ≤ (l.length : Int) := by
  have := plc_le l p
  unfold plcI
  split <;> omega
/-- The boxes: R holds the result, G the angle that is doubled. -/
structure RnS (w : World) (R G b off : Nat) (v : Value) (p : Int × Int) (W : World) : Prop where
  B : Below w.heap.size w W
  lR : w.heap.size ≤ R
  lG : w.heap.size ≤ G
  zR : R < W.heap.size
  zG : G < W.heap.size
  zb : b < w.heap.size
  ne : R ≠ G
  o : W.cell? ⟨b, off, none⟩ = some v
  x0 : W.cell? ⟨G, 0, none⟩ = some (.int .i64 p.1)
  x1 : W.cell? ⟨G, 1, none⟩ = some (.int .i64 p.2)
  g0 : W.frozen? ⟨G, 0, none⟩ = false
  g1 : W.frozen? ⟨G, 1, none⟩ = false
  r0 : ∃ u, W.cell? ⟨R, 0, none⟩ = some u
  r1 : ∃ u, W.cell? ⟨R, 1, none⟩ = some u
  f0 : W.frozen? ⟨R, 0, none⟩ = false
  f1 : W.frozen? ⟨R, 1, none⟩ = false
theorem RnS.on {w W W1 : World} {R G b off : Nat} {v : Value} {p : Int × Int} (H : RnS w R G b off v p W) (hb : Below W.heap.size W W1) : RnS w R G b off v p W1 := by
  have hs := hb.size
  have h1 := H.zR; have h2 := H.zG; have h3 := H.zb; have h4 := H.B.size
  exact ⟨belowNext H.B hb, H.lR, H.lG, by omega, by omega, h3, H.ne, cellThru hb (by omega) H.o, cellThru hb h2 H.x0, cellThru hb h2 H.x1, frozThru hb h2 H.g0, frozThru hb h2 H.g1, H.r0.imp fun _ h => cellThru hb h1 h, H.r1.imp fun _ h => cellThru hb h1 h, frozThru hb h1 H.f0, frozThru hb h1 H.f1⟩
theorem two_cells {W : World} {b : Nat} {u0 u1 v0 v1 : Value} (h0 : W.cell? ⟨b, 0, none⟩ = some v0) (h1 : W.cell? ⟨b, 1, none⟩ = some v1) :
    ((W.setCell ⟨b, 0, none⟩ u0).setCell ⟨b, 1, none⟩ u1).cell? ⟨b, 0, none⟩ = some u0 ∧ ((W.setCell ⟨b, 0, none⟩ u0).setCell ⟨b, 1, none⟩ u1).cell? ⟨b, 1, none⟩ = some u1 := by
  constructor
  · rw [World.cell?_setCell_other _ _ _ _ (by simp)]
    exact World.cell?_setCell_same _ _ _ h0
  · have h1' : (W.setCell ⟨b, 0, none⟩ u0).cell? ⟨b, 1, none⟩ = some v1 := by rw [World.cell?_setCell_other _ _ _ _ (by simp)]; exact h1
    exact World.cell?_setCell_same _ _ _ h1'
theorem RnS.putG {w W : World} {R G b off : Nat} {v : Value} {p : Int × Int} (H : RnS w R G b off v p W) (q : Int × Int) : RnS w R G b off v q ((W.setCell ⟨G, 0, none⟩ (.int .i64 q.1)).setCell ⟨G, 1, none⟩ (.int .i64 q.2)) := by
  obtain ⟨c0, c1⟩ := two_cells (u0 := .int .i64 q.1) (u1 := .int .i64 q.2) H.x0 H.x1
  have hne := H.ne
  have hl := H.lG; have hb := H.zb
  have oth : ∀ (B o : Nat) (u : Value), B ≠ G → W.cell? ⟨B, o, none⟩ = some u → ((W.setCell ⟨G, 0, none⟩ (.int .i64 q.1)).setCell ⟨G, 1, none⟩ (.int .i64 q.2)).cell? ⟨B, o, none⟩ = some u := fun B o u h hc => by
    rw [World.cell?_setCell_other _ _ _ _ (by intro e; injection e; omega), World.cell?_setCell_other _ _ _ _ (by intro e; injection e; omega)]
    exact hc
  exact ⟨(H.B.setCell H.lG _).setCell H.lG _, H.lR, H.lG, by simpa using H.zR, by simpa using H.zG, hb, hne, oth _ _ _ (by omega) H.o, c0, c1, by simpa using H.g0, by simpa using H.g1, H.r0.imp fun _ h => oth _ _ _ hne h, H.r1.imp fun _ h => oth _ _ _ hne h, by simpa using H.f0, by simpa using H.f1⟩
theorem RnS.putR {w W : World} {R G b off : Nat} {v : Value} {p : Int × Int} (H : RnS w R G b off v p W) (u0 u1 : Value) : RnS w R G b off v p ((W.setCell ⟨R, 0, none⟩ u0).setCell ⟨R, 1, none⟩ u1) ∧
    ((W.setCell ⟨R, 0, none⟩ u0).setCell ⟨R, 1, none⟩ u1).cell? ⟨R, 0, none⟩ = some u0 ∧ ((W.setCell ⟨R, 0, none⟩ u0).setCell ⟨R, 1, none⟩ u1).cell? ⟨R, 1, none⟩ = some u1 := by
  obtain ⟨a0, h0⟩ := H.r0
  obtain ⟨a1, h1⟩ := H.r1
  obtain ⟨c0, c1⟩ := two_cells (u0 := u0) (u1 := u1) h0 h1
  have hne := H.ne
  have hl := H.lR; have hb := H.zb
  have oth : ∀ (B o : Nat) (u : Value), B ≠ R → W.cell? ⟨B, o, none⟩ = some u → ((W.setCell ⟨R, 0, none⟩ u0).setCell ⟨R, 1, none⟩ u1).cell? ⟨B, o, none⟩ = some u := fun B o u h hc => by
    rw [World.cell?_setCell_other _ _ _ _ (by intro e; injection e; omega), World.cell?_setCell_other _ _ _ _ (by intro e; injection e; omega)]
    exact hc
  exact ⟨⟨(H.B.setCell H.lR _).setCell H.lR _, H.lR, H.lG, by simpa using H.zR, by simpa using H.zG, hb, hne, oth _ _ _ (by omega) H.o, oth _ _ _ (fun e => hne e.symm) H.x0, oth _ _ _ (fun e => hne e.symm) H.x1, by simpa using H.g0, by simpa using H.g1, ⟨_, c0⟩, ⟨_, c1⟩, by simpa using H.f0, by simpa using H.f1⟩, c0, c1⟩

set_option maxRecDepth 8000 in
set_option maxHeartbeats 4000000 in
theorem implRn (A : Option Addr) (n cap : Nat) (ls : List (List (Int × Int))) (w : World) (hr : ArgS w A n cap ls) (N D C : Int) (h : RnIs ls N D C) :
    Calls Try.prog 10 #[.slice A n cap] w fun e w' => e = .returned (.tuple #[ang N D, .int .i64 C]) ∧ Below w.heap.size w w' := by
  obtain ⟨hC, h⟩ := h
  rcases h with ⟨h1, rfl, rfl⟩ | ⟨rfl, hN, hD⟩
  · have HH := Lib.hid (fun W (hB : Below w.heap.size w W) => implVal A n cap ls W (hr.next hB) 0 C ⟨hC, .inl ⟨h1, rfl⟩⟩)
    have hC' : (C == 0) = false := beq_eq_false_iff_ne.2 h1
    clear hr hC
    go_enter Try.func10, Try.ntmps10
    go_wp2_with fail
    refine (HH.out _ (belowAlloc (Below.refl _ _) _)).mono ?_
    rintro e w1 ⟨rfl, hb1⟩
    have k0 : w1.cell? ⟨w.heap.size, 0, none⟩ = some (.int .i64 0) := cellThru hb1 (by simp <;> omega) (by simp [go_sem])
    have k1 : w1.cell? ⟨w.heap.size, 1, none⟩ = some (.int .i64 0) := cellThru hb1 (by simp <;> omega) (by simp [go_sem])
    have j0 : w1.frozen? ⟨w.heap.size, 0, none⟩ = false := frozThru hb1 (by simp <;> omega) (by simp [go_sem])
    have j1 : w1.frozen? ⟨w.heap.size, 1, none⟩ = false := frozThru hb1 (by simp <;> omega) (by simp [go_sem])
    have hz : w.heap.size < w1.heap.size := by have := hb1.size; simp at this; omega
    have B1 : Below w.heap.size w w1 := belowNext (belowAlloc (Below.refl _ _) _) hb1
    clear hb1
    go_wp2
    refine bodyPost_ret (v := .tuple #[ang 0 0, .int .i64 C]) (by simp [results, Try.results10, go_sem, k0, k1]) rfl ⟨rfl, ?_⟩
    first | exact B1 | exact (B1.setCell (Nat.le_refl _) _).setCell (Nat.le_refl _) _
  · obtain ⟨ha, h1, -, -, hs⟩ := code_zero (co_zero hC).1
    have hl1 := (hs _ (gA_mem h1)).1
    have hA0 := ha _ (gA_mem h1)
    have hle := len_tot h1
    have hTt := hr.ht
    have hhm := hr.hm
    have HH := Lib.hid (fun W (hB : Below w.heap.size w W) => implVal A n cap ls W (hr.next hB) _ 0 ⟨hC, .inr ⟨rfl, rfl⟩⟩)
    obtain ⟨b, off, rfl, hbb, hc⟩ := hr.row.form h1
    obtain ⟨A0, c0, x0, hrow⟩ := hc 0 h1
    rw [Nat.add_zero] at x0
    have HIx := Lib.hid (fun W (hB : Below w.heap.size w W) => idxQ A0 (gA ls 0).length c0 (gA ls 0) (orb (cA (gA ls 0) 0) n).1 (orb (cA (gA ls 0) 0) n).2 W ((hrow.below hB).more hB.size) rfl (by omega))
    rw [show ((orb (cA (gA ls 0) 0) n).1, (orb (cA (gA ls 0) 0) n).2) = orb (cA (gA ls 0) 0) n from rfl] at HIx
    obtain ⟨b1, o1, rfl, hb1', hc1⟩ := hrow (by intro e; rw [e] at hl1; simp at hl1)
    obtain ⟨u0, u1⟩ := hc1 0 _ _ (cA_some hl1)
    rw [Nat.zero_mul, Nat.add_zero] at u0 u1
    have hn0 : (0 : Int) < (n : Int) := by have := hr.len; omega
    have hn0N : 0 < n := by have := hr.len; omega
    have hRed : Red (cA (gA ls 0) 0) := isAng_yes (cA_ang hA0 hl1)
    have HD : Hid (∀ k, ∀ w, Calls Try.prog 25 #[ang (orb (cA (gA ls 0) 0) k).1 (orb (cA (gA ls 0) 0) k).2] w fun e w' => e = .returned (ang (orb (cA (gA ls 0) 0) (k + 1)).1 (orb (cA (gA ls 0) 0) (k + 1)).2) ∧ Below w.heap.size w w') := Lib.hid (fun k w => by
      have g := orbRedQ hRed k
      exact implDbl (orb (cA (gA ls 0) 0) k).1 (orb (cA (gA ls 0) 0) k).2 w (by have := g.1; omega) (by have := g.2.1; omega) (by have := g.2.2.1; omega) (by have := g.2.2.2.1; have := g.2.1; omega))
    have hP := plcI_in (gA ls 0) (orb (cA (gA ls 0) 0) n)
    have hPn : rnP ls = plcI (gA ls 0) (orb (cA (gA ls 0) 0) n) := by unfold rnP; rw [hr.len]
    rw [hPn] at hN hD
    obtain ⟨len, hlen⟩ : ∃ len, (gA ls 0).length = len := ⟨_, rfl⟩
    rw [hlen] at x0 HIx hN hD hP hl1 hle
    try rw [hlen] at HH
    obtain ⟨P, hPe⟩ : ∃ P, plcI (gA ls 0) (orb (cA (gA ls 0) 0) n) = P := ⟨_, rfl⟩
    rw [hPe] at hN hD hP HIx
    have HRd := Lib.hid (fun w => implRed P (len : Int) w (by omega) (by omega) (by omega) (by omega))
    rw [← hN, ← hD] at HRd
    obtain ⟨⟨p, q⟩, hpq⟩ : ∃ p, cA (gA ls 0) 0 = p := ⟨_, rfl⟩
    rw [hpq] at HIx HD u0 u1
    have hlI : (0 : Int) < (len : Int) := by omega
    have hLn : len ≤ 1100000 := by omega
    clear hr hC ha hs hc hc1 hrow hA0 hRed hPn hPe hP hN hD hpq hlen h1 hl1 hle hTt
    go_enter Try.func10, Try.ntmps10
    go_wp2_with fail
    refine (HH.out _ (belowAlloc (Below.refl _ _) _)).mono ?_
    rintro e w1 ⟨rfl, hb1⟩
    have k0 : w1.cell? ⟨w.heap.size, 0, none⟩ = some (.int .i64 0) := cellThru hb1 (by simp <;> omega) (by simp [go_sem])
    have k1 : w1.cell? ⟨w.heap.size, 1, none⟩ = some (.int .i64 0) := cellThru hb1 (by simp <;> omega) (by simp [go_sem])
    have j0 : w1.frozen? ⟨w.heap.size, 0, none⟩ = false := frozThru hb1 (by simp <;> omega) (by simp [go_sem])
    have j1 : w1.frozen? ⟨w.heap.size, 1, none⟩ = false := frozThru hb1 (by simp <;> omega) (by simp [go_sem])
    have hz : w.heap.size < w1.heap.size := by have := hb1.size; simp at this; omega
    have B1 : Below w.heap.size w w1 := belowNext (belowAlloc (Below.refl _ _) _) hb1
    have y0 := cellThru B1 hbb x0
    have v0 := cellThru B1 hb1' u0
    have v1 := cellThru B1 hb1' u1
    have hbw : b < w1.heap.size := Nat.lt_of_lt_of_le hbb B1.size
    have hbw1 : b1 < w1.heap.size := Nat.lt_of_lt_of_le hb1' B1.size
    have HS0 : Hid (RnS w w.heap.size w1.heap.size b off (.slice (some ⟨b1, o1, none⟩) len c0) (orb (p, q) 0) (w1.alloc (.cells #[.int .i64 p, .int .i64 q] 32))) := Lib.hid
      ⟨belowAlloc B1 _, Nat.le_refl _, Nat.le_of_lt hz, by simp; omega, by simp, hbb, by omega, cellThru (belowAlloc (Below.refl _ _) _) hbw y0, by simp [go_sem, orb], by simp [go_sem, orb], by simp [go_sem], by simp [go_sem], ⟨_, cellThru (belowAlloc (Below.refl _ _) _) hz k0⟩, ⟨_, cellThru (belowAlloc (Below.refl _ _) _) hz k1⟩, frozThru (belowAlloc (Below.refl _ _) _) hz j0, frozThru (belowAlloc (Below.refl _ _) _) hz j1⟩
    obtain ⟨A0, hA0⟩ : ∃ A0, (some ⟨b1, o1, none⟩ : Option Addr) = A0 := ⟨_, rfl⟩
    obtain ⟨R0, hR0⟩ : ∃ R0, w.heap.size = R0 := ⟨_, rfl⟩
    have HR0 := Lib.hid hR0
    clear hb1 x0 u0 u1 hR0 k0 k1 j0 j1 hA0
    go_wp2_with fail
    rw [HR0.out] at HS0
    try rw [HR0.out]
    generalize hG : w1.heap.size = G at HS0 ⊢
    generalize w1.alloc (.cells #[.int .i64 p, .int .i64 q] 32) = w2 at *
    clear y0 v0 v1 hbw hbw1 hz B1 hG
    go_loopg [23] n (fun g ix wr => ∃ k : Nat, k + g = n ∧ ix = .int .i64 k ∧ Hid (RnS w R0 G b off (.slice (some ⟨b1, o1, none⟩) len c0) (orb (p, q) k) wr))
    case atStart => exact ⟨0, by omega, rfl, HS0⟩
    case round =>
      clear HS0
      obtain ⟨k, hkg, rfl, HS⟩ := hrel
      cases gk with
      | succ g =>
        have hkn : k < n := by omega
        have HDk := Lib.hid (HD.out k)
        have HPt := Lib.hid (fun W (F : RnS w R0 G b off (.slice (some ⟨b1, o1, none⟩) len c0) (orb (p, q) k) W) => F.putG (orb (p, q) (k + 1)))
        have HKG := Lib.hid hkg
        have x0 := HS.out.x0
        have x1 := HS.out.x1
        have zG := HS.out.zG
        obtain ⟨⟨s, s'⟩, hs⟩ : ∃ s, orb (p, q) k = s := ⟨_, rfl⟩
        obtain ⟨⟨t, t'⟩, ht⟩ : ∃ s, orb (p, q) (k + 1) = s := ⟨_, rfl⟩
        rw [hs] at HDk HPt HS x0 x1
        rw [ht] at HDk HPt
        have HT := Lib.hid ht
        clear hs ht hkg
        go_wp2_with fail
        refine (HDk.out _).mono ?_
        rintro e w3 ⟨rfl, hb3⟩
        have HS3 := Lib.hid (HS.out.on hb3)
        have HS4 := Lib.hid (HPt.out _ HS3.out)
        have z0 := HS3.out.x0
        have z1 := HS3.out.x1
        have q0 := HS3.out.g0
        have q1 := HS3.out.g1
        have zG3 := HS3.out.zG
        clear hb3 HS x0 x1
        go_wp2
        go_roundg g
        case measure => omega
        case rel => exact ⟨k + 1, by have := HKG.out; omega, by go_num, by rw [HT.out]; exact HS4⟩
      | zero =>
        obtain rfl : k = n := by omega
        obtain ⟨⟨X0, Y0⟩, hs⟩ : ∃ s, orb (p, q) k = s := ⟨_, rfl⟩
        rw [hs] at HIx HS
        clear hs hkg
        have yo := HS.out.o
        go_wp2_with fail
        refine wp_region_held_drew (S := (RnS w R0 G b off (.slice (some ⟨b1, o1, none⟩) len c0) (X0, Y0))) (by kernel_rfl) ?_ (fun hHeld => ?_)
        · exact HS.out.on (Below.refl _ _).drew
        refine wpAnyH_take (i := 0) (v := ?_) rfl (by kernel_rfl) (by kernel_rfl) (by kernel_rfl) (fun _ _ _ h => h) (Or.inl ⟨by kernel_rfl, ?_⟩) hHeld ?_
        rotate_left
        · intro w hSw; obtain ⟨B, lR, lG, zR, zG, zb, ne, o, x0, x1, g0, g1, _, _, f0, f1⟩ := hSw; first | (go_simp; done) | (go_simp; with_reducible rfl)
        refine wpAnyH_take (i := 1) (v := ?_) rfl (by kernel_rfl) (by kernel_rfl) (by kernel_rfl) (fun _ _ _ h => h) (Or.inl ⟨by kernel_rfl, ?_⟩) hHeld ?_
        rotate_left
        · intro w hSw; obtain ⟨B, lR, lG, zR, zG, zb, ne, o, x0, x1, g0, g1, _, _, f0, f1⟩ := hSw; first | (go_simp; done) | (go_simp; with_reducible rfl)
        refine wpAnyH_take (i := 2) (v := ?_) rfl (by kernel_rfl) (by kernel_rfl) (by kernel_rfl) (fun _ _ _ h => h) (Or.inl ⟨by kernel_rfl, ?_⟩) hHeld ?_
        rotate_left
        · intro w hSw; obtain ⟨B, lR, lG, zR, zG, zb, ne, o, x0, x1, g0, g1, _, _, f0, f1⟩ := hSw; first | (go_simp; done) | (go_simp; with_reducible rfl)
        refine wpAnyH_take (i := 3) (v := ?_) rfl (by kernel_rfl) (by kernel_rfl) (by kernel_rfl) (fun _ _ _ h => h) (Or.inl ⟨by kernel_rfl, ?_⟩) hHeld ?_
        rotate_left
        · intro w hSw; obtain ⟨B, lR, lG, zR, zG, zb, ne, o, x0, x1, g0, g1, _, _, f0, f1⟩ := hSw; first | (go_simp; done) | (go_simp; with_reducible rfl)
        refine wpAnyH_take (i := 5) (v := ?_) rfl (by kernel_rfl) (by kernel_rfl) (by kernel_rfl) (fun _ _ _ h => h) (Or.inl ⟨by kernel_rfl, ?_⟩) hHeld ?_
        rotate_left
        · intro w hSw; obtain ⟨B, lR, lG, zR, zG, zb, ne, o, x0, x1, g0, g1, _, _, f0, f1⟩ := hSw; first | (go_simp; done) | (go_simp; with_reducible rfl)
        refine wpAnyH_ready (rs := [4]) (by kernel_rfl) (by simp) ?_
        refine AllReadyH.cons rfl (fun K hK => ?_) AllReadyH.nil
        go_simp
        go_wp2_with (go_at_call 26; (with_reducible refine (HIx.out _ hHeld.B).mono ?_); rintro e w11 ⟨rfl, hb11⟩)
        have S1 := hHeld.on hb11
        refine hK.out _ _ ?_ (fun hHeld => ?_)
        · exact S1
        clear hK K
        refine wpAnyH_ready (rs := [6]) (by kernel_rfl) (by simp) ?_
        refine AllReadyH.cons rfl (fun K hK => ?_) AllReadyH.nil
        go_simp
        go_wp2_with (go_at_call 17; (with_reducible refine (HRd.out _).mono ?_); rintro e w12 ⟨rfl, hb12⟩)
        have S2 := S1.on hb12
        refine hK.out _ _ ?_ (fun hHeld => ?_)
        · exact S2
        clear hK K
        obtain ⟨S3, k0, k1⟩ := S2.putR (.int .i64 N) (.int .i64 D)
        obtain ⟨-, -, -, -, -, -, -, -, -, -, -, -, ⟨u0, d0⟩, ⟨u1, d1⟩, e0, e1⟩ := S2
        refine wpAnyH_ready (rs := [7]) (by kernel_rfl) (by simp) ?_
        refine AllReadyH.cons rfl (fun K hK => ?_) AllReadyH.nil
        go_simp
        refine hK.out _ _ ?_ (fun hHeld => ?_)
        · exact S3
        clear hK K
        refine wpAnyH_take (i := 8) (v := ?_) rfl (by kernel_rfl) (by kernel_rfl) (by kernel_rfl) (fun _ _ _ h => h) (Or.inl ⟨by kernel_rfl, ?_⟩) hHeld ?_
        rotate_left
        · intro w hSw; obtain ⟨B, lR, lG, zR, zG, zb, ne, o, x0, x1, g0, g1, _, _, f0, f1⟩ := hSw; first | (go_simp; done) | (go_simp; with_reducible rfl)
        refine wpAnyH_done (by kernel_rfl) ?_ _
        go_wp2
        refine bodyPost_ret (v := .tuple #[ang N D, .int .i64 0]) (by simp [results, Try.results10, go_sem, k0, k1]) rfl ⟨rfl, S3.B⟩

end Go.Proofs.Ytnoaahkpcnkbnaa

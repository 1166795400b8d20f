/-
  Contracts: itineraries and kneading sequences (the specification's).
  Contracts: expansions (the specification's).
-/
import Derived.Test.YtdmppdfncbljoaaS5
import Derived.Test.YtdmppdfncbljoaaS6
import Derived.Deep.AppendLies
import Derived.Deep.RegionLaw
import Derived.Test.YtdmppdfncbljoaaExp2
namespace Go.Proofs.Ytdmppdfncbljoaa
open Go.RowKit

theorem cell_new1 (w : World) (a : Value) (t : TypeId) : ∀ j u, [a][j]? = some u → (w.alloc (.cells #[a] t)).cell? ((⟨w.heap.size, 0, none⟩ : Addr).add j) = some u := by
  intro j u hj
  match j, hj with
  | 0, hj => simp at hj; subst hj; simp [Addr.add]
  | (j + 1), hj => simp at hj
/-- Letters as values. -/
def bv (L : Nat → UInt8) : Nat → List Value
  | 0 => []
  | k + 1 => bv L k ++ [.int .u8 ((L k).toNat : Int)]
theorem bv_len (L : Nat → UInt8) : ∀ k, (bv L k).length = k
  | 0 => rfl
  | k + 1 => by simp [bv, bv_len L k]
theorem bv_at (L : Nat → UInt8) {i : Nat} : ∀ {k : Nat}, i < k → (bv L k)[i]? = some (.int .u8 ((L i).toNat : Int))
  | 0, h => absurd h (by omega)
  | k + 1, h => by
    unfold bv
    by_cases e : i < k
    · rw [List.getElem?_append_left (by rw [bv_len]; exact e)]
      exact bv_at L e
    · obtain rfl : i = k := by omega
      rw [List.getElem?_append_right (by rw [bv_len]; omega), bv_len]
      simp

theorem rowToC (g k C P : Nat) (hP : P < k) (hC : k ≤ C) (W : World) : (Instr.slice 141 (.slice (some ⟨g, 0, none⟩) k C) none (some (.int .i64 (P : Int))) none).run Try.prog W = .ok (.slice (some ⟨g, 0, none⟩) P C) W := by
  have h : (P : Int) ≤ (C : Int) := by omega
  simp [go_sem, h]
theorem rowFromC (g k C P : Nat) (hP : P < k) (hC : k ≤ C) (W : World) : (Instr.slice 141 (.slice (some ⟨g, 0, none⟩) k C) (some (.int .i64 (P : Int))) none none).run Try.prog W = .ok (.slice (some ⟨g, P, none⟩) (k - P) (C - P)) W := by
  have h : (P : Int) ≤ (k : Int) := by omega
  have h2 : ¬ C = P := by omega
  simp [go_sem, h, h2]
theorem rowThru {w w' : World} {B : Nat} {T : TypeId} {A : Option Addr} {k n cp : Nat} {xs : List Value} (h : w.ownsRow B T n (.slice A k cp) k xs) (hb : Below w.heap.size w w') : w'.ownsRow B T n (.slice A k cp) k xs :=
  h.kept (row := none) ⟨hb.os, hb.tape, hb.output, hb.size, fun i hi _ => hb.block i hi⟩ (by
    rcases h.2 with ⟨e, _⟩ | ⟨g, c, cur, e, _⟩
    · exact .inl (by rw [e]; rfl)
    · exact .inr (by rw [e]; simp [Value.ownBlock]))

theorem sq_got {W : World} {g : Nat} {x y : Value} (u v : Value) (o : Obj) (h : g < W.heap.size) (h0 : W.cell? ⟨g, 0, none⟩ = some x) (h1 : W.cell? ⟨g, 1, none⟩ = some y) :
    (((W.setCell ⟨g, 0, none⟩ u).setCell ⟨g, 1, none⟩ v).alloc o).cell? ⟨g, 0, none⟩ = some u ∧ (((W.setCell ⟨g, 0, none⟩ u).setCell ⟨g, 1, none⟩ v).alloc o).cell? ⟨g, 1, none⟩ = some v := by
  obtain ⟨a, b⟩ := storeB (X := u) (Y := v) h0 h1
  exact ⟨(World.cell?_alloc_lt _ _ _ (by simpa using h)).trans a, (World.cell?_alloc_lt _ _ _ (by simpa using h)).trans b⟩

theorem specDigit (n d : Int) (L : UInt8) (w : World) (h1 : angOk n d) (hL : L = if d ≤ 2 * n then 49 else 48) :
    Calls Try.prog 138 #[ang n d] w fun e w' => e = .returned (.string (bs [L])) ∧ Below w.heap.size w w' := by
  obtain ⟨a1, a2, a3, a4⟩ := h1
  by_cases h : d ≤ 2 * n
  · have hd : decide (d ≤ 2 * n) = true := by simp [h]
    rw [if_pos h] at hL
    subst hL
    go_enter Try.func138, Try.ntmps138
    go_wp2
    go_ret
    refine ⟨rfl, ?_⟩
    (repeat' (first | (with_reducible exact Below.refl _ _) | (with_reducible assumption) | (with_reducible refine belowNext ?_ (by with_reducible assumption)) | (with_reducible refine belowAlloc ?_ _) | (with_reducible refine Below.drew ?_) | (with_reducible refine below_drewN ?_ _) | (with_reducible refine Below.setCell ?_ ?_ _) | go_size | (with_reducible refine sizeOf' ?_) | (with_reducible refine sizeAdd ?_) | (dsimp only; first | (with_reducible refine sizeOf' ?_) | (with_reducible refine sizeAdd ?_))))
  · have hd : decide (d ≤ 2 * n) = false := by simp [h]
    rw [if_neg h] at hL
    subst hL
    go_enter Try.func138, Try.ntmps138
    go_wp2
    go_ret
    refine ⟨rfl, ?_⟩
    (repeat' (first | (with_reducible exact Below.refl _ _) | (with_reducible assumption) | (with_reducible refine belowNext ?_ (by with_reducible assumption)) | (with_reducible refine belowAlloc ?_ _) | (with_reducible refine Below.drew ?_) | (with_reducible refine below_drewN ?_ _) | (with_reducible refine Below.setCell ?_ ?_ _) | go_size | (with_reducible refine sizeOf' ?_) | (with_reducible refine sizeAdd ?_) | (dsimp only; first | (with_reducible refine sizeOf' ?_) | (with_reducible refine sizeAdd ?_))))

/-- What the loop knows: w1 is the world in which the orbit was handed back. -/
structure ExpSt (w1 : World) (b P : Nat) (L : Nat → UInt8) (k : Nat) (W : World) : Prop where
  below : Below b w1 W
  lt : b < W.heap.size
  c0 : W.cell? ⟨b, 0, none⟩ = some (.string (bs (lw L 0 (min k P))))
  c1 : W.cell? ⟨b, 1, none⟩ = some (.string (bs (lw L P (k - P))))
  f0 : W.frozen? ⟨b, 0, none⟩ = false
  f1 : W.frozen? ⟨b, 1, none⟩ = false
theorem ExpSt.next {w1 : World} {b P : Nat} {L : Nat → UInt8} {k : Nat} {W W' : World} (h : ExpSt w1 b P L k W) (hb : Below W.heap.size W W') : ExpSt w1 b P L k W' :=
  ⟨h.below.trans (hb.mono (Nat.le_of_lt h.lt)), Nat.lt_of_lt_of_le h.lt hb.size, cellThru hb h.lt h.c0, cellThru hb h.lt h.c1, frozThru hb h.lt h.f0, frozThru hb h.lt h.f1⟩
theorem ExpSt.put0 {w1 : World} {b P : Nat} {L : Nat → UInt8} {k : Nat} {W : World} (h : ExpSt w1 b P L k W) (hk : k < P) : ExpSt w1 b P L (k + 1) (W.setCell ⟨b, 0, none⟩ (.string (bs (lw L 0 (min k P) ++ [L k])))) := by
  have e : lw L 0 (min (k + 1) P) = lw L 0 (min k P) ++ [L k] := by
    rw [show min (k + 1) P = min k P + 1 by omega, lw_succ, show 0 + min k P = k by omega]
  have e1 : k + 1 - P = k - P := by omega
  refine ⟨h.below.setCell (by simp) _, by simpa using h.lt, ?_, ?_, ?_, ?_⟩
  · rw [e]; exact World.cell?_setCell_same _ _ _ h.c0
  · rw [e1, World.cell?_setCell_other _ _ _ _ (by simp)]; exact h.c1
  · simpa [go_sem] using h.f0
  · simpa [go_sem] using h.f1
theorem ExpSt.put1 {w1 : World} {b P : Nat} {L : Nat → UInt8} {k : Nat} {W : World} (h : ExpSt w1 b P L k W) (hk : P ≤ k) : ExpSt w1 b P L (k + 1) (W.setCell ⟨b, 1, none⟩ (.string (bs (lw L P (k - P) ++ [L k])))) := by
  have e : lw L P (k + 1 - P) = lw L P (k - P) ++ [L k] := by
    rw [show k + 1 - P = (k - P) + 1 by omega, lw_succ, show P + (k - P) = k by omega]
  have e1 : min (k + 1) P = min k P := by omega
  refine ⟨h.below.setCell (by simp) _, by simpa using h.lt, ?_, ?_, ?_, ?_⟩
  · rw [e1, World.cell?_setCell_other _ _ _ _ (by simp)]; exact h.c0
  · rw [e]; exact World.cell?_setCell_same _ _ _ h.c1
  · simpa [go_sem] using h.f0
  · simpa [go_sem] using h.f1

set_option maxRecDepth 8000 in
set_option maxHeartbeats 4000000 in
theorem specExp (n d : Int) (w : World) (h1 : isAng n d = true) (K : Nat) (hf : findOrb (n, d) 65 0 = some K) :
    Calls Try.prog 102 #[ang n d] w fun e w' => e = .returned (.tuple #[sqV (sqA n d (dg n d)).1 (sqA n d (dg n d)).2, .bool true]) ∧ Below w.heap.size w w' := by
  have HD : Hid (∀ i w, Calls Try.prog 138 #[ang (orb (n, d) i).1 (orb (n, d) i).2] w fun e w' => e = .returned (.string (bs [dg n d i])) ∧ Below w.heap.size w w') := Lib.hid (fun i w => specDigit _ _ _ w (orb_ok h1 i) rfl)
  have e1 : sqA n d (dg n d) = (lw (dg n d) 0 (pre (n, d)), lw (dg n d) (pre (n, d)) (K - pre (n, d))) := by
    rw [← exp_canon h1 hf]; unfold sqA; simp [h1, hf]
  rw [e1]
  have hK := find_le _ _ _ hf
  have hpk : pre (n, d) < K := by have := (hit_iff (n, d) K).1 hK.2.2.1; exact this.1
  have hK65 : K < 65 := by omega
  have HO : Hid (∀ w : World, Calls Try.prog 52 #[ang n d] w fun e w' => ∃ A cap, e = .returned (.tuple #[.slice A K cap, .int .i64 (pre (n, d) : Int), .bool true]) ∧ w'.ownsRow w.heap.size 29 2 (.slice A K cap) K (flat (n, d) K) ∧ Below w.heap.size w w') := Lib.hid (fun w => (specOrbit n d w (ang_red h1)).mono fun e w' h => by unfold ResOrb at h; rw [hf] at h; exact h)
  clear e1 h1 hf hK
  generalize dg n d = L at *
  generalize pre (n, d) = P at *
  go_enter Try.func102, Try.ntmps102
  go_wp2_with fail
  refine (HO.out _).mono ?_
  rintro e w1 ⟨A, cap, rfl, hown, hb1⟩
  have hz1' : w.heap.size + 1 < w1.heap.size := by have := hb1.size; simp at this; omega
  obtain ⟨gb, cb, hA, hgl, hgb⟩ := hown.form (by omega : 0 < K)
  obtain ⟨rfl, rfl⟩ : A = some ⟨gb, 0, none⟩ ∧ cap = cb := by injection hA with hA hn hc; exact ⟨hA, hc⟩
  clear hA
  have HB1 : Hid (Below w.heap.size w w1) := Lib.hid (by
    (repeat' (first | (with_reducible exact Below.refl _ _) | (with_reducible assumption) | (with_reducible refine belowNext ?_ (by with_reducible assumption)) | (with_reducible refine belowAlloc ?_ _) | (with_reducible refine Below.drew ?_) | (with_reducible refine below_drewN ?_ _) | (with_reducible refine Below.setCell ?_ ?_ _) | go_size | (with_reducible refine sizeOf' ?_) | (with_reducible refine sizeAdd ?_) | (dsimp only; first | (with_reducible refine sizeOf' ?_) | (with_reducible refine sizeAdd ?_)))))
  have q0 : w1.cell? ⟨w.heap.size + 1, 0, none⟩ = some (.string ⟨#[]⟩) := cellThru hb1 (by simp) (by simp [go_sem])
  have q1 : w1.cell? ⟨w.heap.size + 1, 1, none⟩ = some (.string ⟨#[]⟩) := cellThru hb1 (by simp) (by simp [go_sem])
  have g0 : w1.frozen? ⟨w.heap.size + 1, 0, none⟩ = false := frozThru hb1 (by simp) (by simp [go_sem])
  have g1 : w1.frozen? ⟨w.heap.size + 1, 1, none⟩ = false := frozThru hb1 (by simp) (by simp [go_sem])
  have HR : Hid (∀ i, i < K → w1.cell? ⟨gb, i * 2, none⟩ = some (.int .i64 (orb (n, d) i).1) ∧ w1.cell? ⟨gb, i * 2 + 1, none⟩ = some (.int .i64 (orb (n, d) i).2)) := Lib.hid (fun i hi => by
    have fa := flat_at (n, d) hi
    exact ⟨(hown.cellAt (i * 2) (by omega)).trans fa.1, (hown.cellAt (i * 2 + 1) (by omega)).trans fa.2⟩)
  have HF := Lib.hid (And.intro q0 (And.intro q1 (And.intro g0 g1)))
  clear hown hb1 hgl q0 q1 g0 g1
  go_wp2
  go_loopw [8] (fun i wr => ∃ k : Nat, k ≤ K ∧ i = .int .i64 k ∧ Hid (ExpSt w1 w1.heap.size P L k wr)) (fun i _ => K - (intOf i).toNat)
  case atStart =>
    refine ⟨0, by omega, rfl, Lib.hid ⟨?_, ?_, ?_, ?_, ?_, ?_⟩⟩
    · (repeat' (first | (with_reducible exact Below.refl _ _) | (with_reducible assumption) | (with_reducible refine belowNext ?_ (by with_reducible assumption)) | (with_reducible refine belowAlloc ?_ _) | (with_reducible refine Below.drew ?_) | (with_reducible refine below_drewN ?_ _) | (with_reducible refine Below.setCell ?_ ?_ _) | go_size | (with_reducible refine sizeOf' ?_) | (with_reducible refine sizeAdd ?_) | (dsimp only; first | (with_reducible refine sizeOf' ?_) | (with_reducible refine sizeAdd ?_))))
    · simp
    · simp [go_sem, lw, bs]
    · simp [go_sem, lw, bs]
    · simp [go_sem]
    · simp [go_sem]
  case round =>
    obtain ⟨k, hk, rfl, H⟩ := hrel
    have hbw := H.out.below
    have hzw := H.out.lt
    have c0 := H.out.c0
    have c1 := H.out.c1
    by_cases hlt : k < K
    · have x0 := cellThru hbw (by omega) (HR.out k hlt).1
      have x1 := cellThru hbw (by omega) (HR.out k hlt).2
      have HC := Lib.hid (HD.out k)
      obtain ⟨x, hxx⟩ : ∃ x, (orb (n, d) k).1 = x := ⟨_, rfl⟩
      obtain ⟨y, hyy⟩ : ∃ y, (orb (n, d) k).2 = y := ⟨_, rfl⟩
      rw [hxx] at x0 HC
      rw [hyy] at x1 HC
      clear hxx hyy hbw
      by_cases hP : k < P
      · have HPut : Hid (∀ W, ExpSt w1 w1.heap.size P L k W → ExpSt w1 w1.heap.size P L (k + 1) (W.setCell ⟨w1.heap.size, 0, none⟩ (.string (bs (lw L 0 (min k P)) ++ bs [L k])))) := Lib.hid (fun W h => by rw [bs_append]; exact h.put0 hP)
        have hns : ¬ 9223372036854775807 < (bs (lw L 0 (min k P))).size + (bs [L k]).size := by rw [bs_size, bs_size, lw_len]; simp; omega
        go_wp2_with fail
        go_region_law (first
          | (go_simp; go_at_call 138; refine (HC.out _).mono ?_; rintro e w3 ⟨rfl, hb3⟩; have H3 := Lib.hid ((H.out.next (Below.refl _ _).drew).next hb3); have y0 := H3.out.c0; have z0 := H3.out.f0; clear hb3))
        all_goals
          have H4 := Lib.hid (HPut.out _ H3.out)
          clear HPut y0 z0
          go_wp2
          go_roundw
          case rel => exact ⟨k + 1, by omega, by go_num, H4⟩
          case measure => simp [intOf]; omega
      · have HPut : Hid (∀ W, ExpSt w1 w1.heap.size P L k W → ExpSt w1 w1.heap.size P L (k + 1) (W.setCell ⟨w1.heap.size, 1, none⟩ (.string (bs (lw L P (k - P)) ++ bs [L k])))) := Lib.hid (fun W h => by rw [bs_append]; exact h.put1 (by omega))
        have hns : ¬ 9223372036854775807 < (bs (lw L P (k - P))).size + (bs [L k]).size := by rw [bs_size, bs_size, lw_len]; simp; omega
        go_wp2_with fail
        go_region_law (first
          | (go_simp; go_at_call 138; refine (HC.out _).mono ?_; rintro e w3 ⟨rfl, hb3⟩; have H3 := Lib.hid ((H.out.next (Below.refl _ _).drew).next hb3); have y0 := H3.out.c1; have z0 := H3.out.f1; clear hb3))
        all_goals
          have H4 := Lib.hid (HPut.out _ H3.out)
          clear HPut y0 z0
          go_wp2
          go_roundw
          case rel => exact ⟨k + 1, by omega, by go_num, H4⟩
          case measure => simp [intOf]; omega
    · obtain rfl : k = K := by omega
      have e1 : min k P = P := by omega
      rw [e1] at c0
      obtain ⟨q0, q1, g0, g1⟩ := HF.out
      have q0 := cellThru hbw hz1' q0
      have q1 := cellThru hbw hz1' q1
      have g0 := frozThru hbw hz1' g0
      have g1 := frozThru hbw hz1' g1
      have HB := Lib.hid (belowNext HB1.out hbw)
      clear hbw HF HR HD HO
      go_wp2
      refine bodyPost_ret (v := .tuple #[sqV (lw L 0 P) (lw L P (k - P)), .bool true]) (by simp [results, Try.results102, go_sem, sqV, q0, q1]) rfl ⟨rfl, ?_⟩
      have hB := HB.out
      clear HB
      (repeat' (first | (with_reducible exact Below.refl _ _) | (with_reducible assumption) | (with_reducible refine belowNext ?_ (by with_reducible assumption)) | (with_reducible refine belowAlloc ?_ _) | (with_reducible refine Below.drew ?_) | (with_reducible refine below_drewN ?_ _) | (with_reducible refine Below.setCell ?_ ?_ _) | go_size | (with_reducible refine sizeOf' ?_) | (with_reducible refine sizeAdd ?_) | (dsimp only; first | (with_reducible refine sizeOf' ?_) | (with_reducible refine sizeAdd ?_))))

theorem specExp0 (n d : Int) (w : World) (h1 : isAng n d = true) (hf : findOrb (n, d) 65 0 = none) :
    Calls Try.prog 102 #[ang n d] w fun e w' => e = .returned (.tuple #[sqV [] [], .bool false]) ∧ Below w.heap.size w w' := by
  have HO : Hid (∀ w : World, Calls Try.prog 52 #[ang n d] w fun e w' => e = .returned (.tuple #[.slice none 0 0, .int .i64 0, .bool false]) ∧ Below w.heap.size w w') := Lib.hid (fun w => (specOrbit n d w (ang_red h1)).mono fun e w' h => by unfold ResOrb at h; rw [hf] at h; exact h)
  clear h1 hf
  go_enter Try.func102, Try.ntmps102
  go_wp2_with fail
  refine (HO.out _).mono ?_
  rintro e w1 ⟨rfl, hb1⟩
  have hz1 : w.heap.size + 1 < w1.heap.size := by have := hb1.size; simp at this; omega
  have q0 : w1.cell? ⟨w.heap.size + 1, 0, none⟩ = some (.string ⟨#[]⟩) := cellThru hb1 (by simp) (by simp [go_sem])
  have q1 : w1.cell? ⟨w.heap.size + 1, 1, none⟩ = some (.string ⟨#[]⟩) := cellThru hb1 (by simp) (by simp [go_sem])
  have g0 : w1.frozen? ⟨w.heap.size + 1, 0, none⟩ = false := frozThru hb1 (by simp) (by simp [go_sem])
  have g1 : w1.frozen? ⟨w.heap.size + 1, 1, none⟩ = false := frozThru hb1 (by simp) (by simp [go_sem])
  go_wp2
  go_loopw [8] (fun i wr => i = .int .i64 0 ∧ Hid (ExpSt w1 w1.heap.size 0 (fun _ => 0) 0 wr)) (fun _ _ => 0)
  case atStart =>
    refine ⟨rfl, Lib.hid ⟨?_, ?_, ?_, ?_, ?_, ?_⟩⟩
    · (repeat' (first | (with_reducible exact Below.refl _ _) | (with_reducible assumption) | (with_reducible refine belowNext ?_ (by with_reducible assumption)) | (with_reducible refine belowAlloc ?_ _) | (with_reducible refine Below.drew ?_) | (with_reducible refine below_drewN ?_ _) | (with_reducible refine Below.setCell ?_ ?_ _) | go_size | (with_reducible refine sizeOf' ?_) | (with_reducible refine sizeAdd ?_) | (dsimp only; first | (with_reducible refine sizeOf' ?_) | (with_reducible refine sizeAdd ?_))))
    · simp
    · simp [go_sem, lw, bs]
    · simp [go_sem, lw, bs]
    · simp [go_sem]
    · simp [go_sem]
  case round =>
    obtain ⟨rfl, H⟩ := hrel
    have c0 := H.out.c0
    have c1 := H.out.c1
    have hbw := H.out.below
    simp only [lw, Nat.min_self, Nat.sub_self, List.range_zero, List.map_nil] at c0 c1
    have q0 := cellThru hbw hz1 q0
    have q1 := cellThru hbw hz1 q1
    have g0 := frozThru hbw hz1 g0
    have g1 := frozThru hbw hz1 g1
    have B1 : Below w.heap.size w w1 := by
      (repeat' (first | (with_reducible exact Below.refl _ _) | (with_reducible assumption) | (with_reducible refine belowNext ?_ (by with_reducible assumption)) | (with_reducible refine belowAlloc ?_ _) | (with_reducible refine Below.drew ?_) | (with_reducible refine below_drewN ?_ _) | (with_reducible refine Below.setCell ?_ ?_ _) | go_size | (with_reducible refine sizeOf' ?_) | (with_reducible refine sizeAdd ?_) | (dsimp only; first | (with_reducible refine sizeOf' ?_) | (with_reducible refine sizeAdd ?_))))
    have HB := Lib.hid (belowNext B1 hbw)
    clear hbw B1 hb1
    go_wp2
    refine bodyPost_ret (v := .tuple #[sqV [] [], .bool false]) (by simp [results, Try.results102, go_sem, sqV, q0, q1]) rfl ⟨rfl, ?_⟩
    have hB := HB.out
    clear HB
    (repeat' (first | (with_reducible exact Below.refl _ _) | (with_reducible assumption) | (with_reducible refine belowNext ?_ (by with_reducible assumption)) | (with_reducible refine belowAlloc ?_ _) | (with_reducible refine Below.drew ?_) | (with_reducible refine below_drewN ?_ _) | (with_reducible refine Below.setCell ?_ ?_ _) | go_size | (with_reducible refine sizeOf' ?_) | (with_reducible refine sizeAdd ?_) | (dsimp only; first | (with_reducible refine sizeOf' ?_) | (with_reducible refine sizeAdd ?_))))

end Go.Proofs.Ytdmppdfncbljoaa

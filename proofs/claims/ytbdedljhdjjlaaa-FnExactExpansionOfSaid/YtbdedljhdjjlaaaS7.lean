/-
  Contracts: itineraries and kneading sequences (the specification's).
-/
import Derived.Test.YtbdedljhdjjlaaaS5
import Derived.Test.YtbdedljhdjjlaaaS6
import Derived.Deep.AppendLies
import Derived.Deep.RegionLaw
namespace Go.Proofs.Ytbdedljhdjjlaaa
open Go.RowKit

theorem cell_new1 (w : World) (a : Value) (t : TypeId) : ∀ j u, [a][j]? = some u → (w.alloc (.cells #[a] t)).cell? ((⟨w.heap.size, 0, none⟩ : Addr).add j) = some u := by
  intro j u hj
  match j, hj with
  | 0, hj => simp at hj; subst hj; simp [Addr.add]
  | (j + 1), hj => simp at hj
/-- Letters as values. -/
def bv (L : Nat → UInt8) : Nat → List Value
  | 0 => []
  | k + 1 => bv L k ++ [.int .u8 ((L k).toNat : Int)]
theorem bv_len (L : Nat → UInt8) : ∀ k, (bv L k).length = k
  | 0 => rfl
  | k + 1 => by simp [bv, bv_len L k]
theorem bv_at (L : Nat → UInt8) {i : Nat} : ∀ {k : Nat}, i < k → (bv L k)[i]? = some (.int .u8 ((L i).toNat : Int))
  | 0, h => absurd h (by omega)
  | k + 1, h => by
    unfold bv
    by_cases e : i < k
    · rw [List.getElem?_append_left (by rw [bv_len]; exact e)]
      exact bv_at L e
    · obtain rfl : i = k := by omega
      rw [List.getElem?_append_right (by rw [bv_len]; omega), bv_len]
      simp

theorem rowToC (g k C P : Nat) (hP : P < k) (hC : k ≤ C) (W : World) : (Instr.slice 22 (.slice (some ⟨g, 0, none⟩) k C) none (some (.int .i64 (P : Int))) none).run Try.prog W = .ok (.slice (some ⟨g, 0, none⟩) P C) W := by
  have h : (P : Int) ≤ (C : Int) := by omega
  simp [go_sem, h]
theorem rowFromC (g k C P : Nat) (hP : P < k) (hC : k ≤ C) (W : World) : (Instr.slice 22 (.slice (some ⟨g, 0, none⟩) k C) (some (.int .i64 (P : Int))) none none).run Try.prog W = .ok (.slice (some ⟨g, P, none⟩) (k - P) (C - P)) W := by
  have h : (P : Int) ≤ (k : Int) := by omega
  have h2 : ¬ C = P := by omega
  simp [go_sem, h, h2]
theorem rowThru {w w' : World} {B : Nat} {T : TypeId} {A : Option Addr} {k n cp : Nat} {xs : List Value} (h : w.ownsRow B T n (.slice A k cp) k xs) (hb : Below w.heap.size w w') : w'.ownsRow B T n (.slice A k cp) k xs :=
  h.kept (row := none) ⟨hb.os, hb.tape, hb.output, hb.size, fun i hi _ => hb.block i hi⟩ (by
    rcases h.2 with ⟨e, _⟩ | ⟨g, c, cur, e, _⟩
    · exact .inl (by rw [e]; rfl)
    · exact .inr (by rw [e]; simp [Value.ownBlock]))

set_option maxRecDepth 8000 in
set_option maxHeartbeats 4000000 in
theorem specIt (n d m c : Int) (w : World) (h1 : isAng n d = true) (h2 : isAng m c = true) (K : Nat) (hf : findOrb (n, d) 65 0 = some K) :
    Calls Try.prog 94 #[ang n d, ang m c] w fun e w' => e = .returned (.tuple #[sqV (sqA n d (lt n d m c)).1 (sqA n d (lt n d m c)).2, .bool true]) ∧ Below w.heap.size w w' := by
  obtain ⟨i0, hi, hz0, hz1, hz2⟩ := info_parts infoB
  have HLt : Hid (∀ i w, Calls Try.prog 92 #[ang (orb (n, d) i).1 (orb (n, d) i).2, ang m c] w fun e w' => e = .returned (.int .u8 ((lt n d m c i).toNat : Int)) ∧ Below w.heap.size w w') := Lib.hid (fun i w => by
    rw [lt_int]
    exact specLet _ _ _ _ w (orb_ok h1 i) (isAng_ok h2))
  have e1 : sqA n d (lt n d m c) = canon (lw (lt n d m c) 0 (pre (n, d))) (lw (lt n d m c) (pre (n, d)) (K - pre (n, d))) := by unfold sqA; simp [h1, hf]
  rw [e1]
  have hK := find_le _ _ _ hf
  have hpk : pre (n, d) < K := by have := (hit_iff (n, d) K).1 hK.2.2.1; exact this.1
  have hK65 : K < 65 := by omega
  have HO : Hid (∀ w : World, Calls Try.prog 73 #[ang n d] w fun e w' => ∃ A cap, e = .returned (.tuple #[.slice A K cap, .int .i64 (pre (n, d) : Int), .bool true]) ∧ w'.ownsRow w.heap.size 25 2 (.slice A K cap) K (flat (n, d) K) ∧ Below w.heap.size w w') := Lib.hid (fun w => (specOrbit n d w (ang_red h1)).mono fun e w' h => by unfold ResOrb at h; rw [hf] at h; exact h)
  clear e1 h1 h2 hf hK
  generalize lt n d m c = L at *
  generalize pre (n, d) = P at *
  go_enter Try.func94, Try.ntmps94
  go_wp2_with fail
  refine (HO.out _).mono ?_
  rintro e w1 ⟨A, cap, rfl, hown, hb1⟩
  have hz1' : w.heap.size + 2 < w1.heap.size := by have := hb1.size; simp at this; omega
  obtain ⟨gb, cb, hA, hgl, hgb⟩ := hown.form (by omega : 0 < K)
  obtain ⟨rfl, rfl⟩ : A = some ⟨gb, 0, none⟩ ∧ cap = cb := by injection hA with hA hn hc; exact ⟨hA, hc⟩
  clear hA
  have HB1 : Hid (Below w.heap.size w w1) := Lib.hid (by
    (repeat' (first | (with_reducible exact Below.refl _ _) | (with_reducible assumption) | (with_reducible refine belowNext ?_ (by with_reducible assumption)) | (with_reducible refine belowAlloc ?_ _) | (with_reducible refine Below.drew ?_) | (with_reducible refine below_drewN ?_ _) | (with_reducible refine Below.setCell ?_ ?_ _) | go_size | (with_reducible refine sizeOf' ?_) | (with_reducible refine sizeAdd ?_) | (dsimp only; first | (with_reducible refine sizeOf' ?_) | (with_reducible refine sizeAdd ?_)))))
  have q0 : w1.cell? ⟨w.heap.size + 2, 0, none⟩ = some (.string ⟨#[]⟩) := cellThru hb1 (by simp) (by simp [go_sem])
  have q1 : w1.cell? ⟨w.heap.size + 2, 1, none⟩ = some (.string ⟨#[]⟩) := cellThru hb1 (by simp) (by simp [go_sem])
  have g0 : w1.frozen? ⟨w.heap.size + 2, 0, none⟩ = false := frozThru hb1 (by simp) (by simp [go_sem])
  have g1 : w1.frozen? ⟨w.heap.size + 2, 1, none⟩ = false := frozThru hb1 (by simp) (by simp [go_sem])
  have t0 : w1.cell? ⟨w.heap.size + 1, 0, none⟩ = some (.int .i64 m) := cellThru hb1 (by simp) (by simp [go_sem])
  have t1 : w1.cell? ⟨w.heap.size + 1, 1, none⟩ = some (.int .i64 c) := cellThru hb1 (by simp) (by simp [go_sem])
  have HR : Hid (∀ i, i < K → w1.cell? ⟨gb, i * 2, none⟩ = some (.int .i64 (orb (n, d) i).1) ∧ w1.cell? ⟨gb, i * 2 + 1, none⟩ = some (.int .i64 (orb (n, d) i).2)) := Lib.hid (fun i hi => by
    have fa := flat_at (n, d) hi
    exact ⟨(hown.cellAt (i * 2) (by omega)).trans fa.1, (hown.cellAt (i * 2 + 1) (by omega)).trans fa.2⟩)
  have HF := Lib.hid (And.intro q0 (And.intro q1 (And.intro g0 (And.intro g1 (And.intro t0 t1)))))
  clear hown hb1 hgl q0 q1 g0 g1 t0 t1
  go_wp2
  have hst : (w1.alloc (.cells #[] 5)).ownsRow w1.heap.size 5 1 (.slice (some ⟨w1.heap.size, 0, none⟩) 0 0) 0 (bv L 0) ∧ Below w1.heap.size w1 (w1.alloc (.cells #[] 5)) := by
    refine ⟨⟨rfl, .inr ⟨w1.heap.size, 0, #[], rfl, by omega, heap_alloc_new _ _, by omega, by unfold maxLen; omega, rfl, rfl⟩⟩, belowAlloc (Below.refl _ _) _⟩
  have HS := Lib.hid hst
  clear hst
  go_loopw [9, 10] (fun v i wr => ∃ (k : Nat) (A : Option Addr) (cap : Nat), k ≤ K ∧ v = .slice A k cap ∧ i = .int .i64 k ∧ Hid (wr.ownsRow w1.heap.size 5 1 (.slice A k cap) k (bv L k) ∧ Below w1.heap.size w1 wr)) (fun _ i _ => K - (intOf i).toNat)
  case atStart => exact ⟨0, _, _, by omega, rfl, rfl, HS⟩
  case round =>
    obtain ⟨k, A, cp, hk, rfl, rfl, H⟩ := hrel
    have hBw := H.out.2
    have hzw := hBw.size
    obtain ⟨q0, q1, g0, g1, t0, t1⟩ := HF.out
    by_cases hlt : k < K
    · have x0 := cellThru hBw (by omega) (HR.out k hlt).1
      have x1 := cellThru hBw (by omega) (HR.out k hlt).2
      have t0 := cellThru hBw (by omega) t0
      have t1 := cellThru hBw (by omega) t1
      have HC := Lib.hid (HLt.out k)
      obtain ⟨x, hxx⟩ : ∃ x, (orb (n, d) k).1 = x := ⟨_, rfl⟩
      obtain ⟨y, hyy⟩ : ∃ y, (orb (n, d) k).2 = y := ⟨_, rfl⟩
      rw [hxx] at x0 HC
      rw [hyy] at x1 HC
      have HBv : Hid (bv L (k + 1) = bv L k ++ [.int .u8 ((L k).toNat : Int)]) := Lib.hid rfl
      generalize ((L k).toNat : Int) = l at *
      clear hxx hyy q0 q1 g0 g1
      go_wp2_with fail
      have HH := Lib.hid hBw
      clear hBw
      go_region_law (first
        | (refine step_append_lies _ rfl (.tmp 27) (.tmp 34) 22 rfl w1.heap.size 5 i0 (.int .u8 0) 1 1 Try.underlying22 hi hz0 hz1 hz2 rfl (by decide) (.slice A k cp) k (bv L k) (by simp [Act.eval]) (World.ownsRow.alloc (w := w3) HO3.out _) ⟨w3.heap.size, 0, none⟩ 1 1 [.int .u8 l] (by simp [Act.eval]) rfl (cell_new1 _ _ _) (by intro u hu; simp at hu; subst hu; rfl) (by omega) (by unfold maxLen; omega) (by omega) (by simp; omega) _ rfl ?_; intro g4 cap4 w4 hown4 hgrow4 hat4 hlt4)
        | (go_simp; go_at_call 92; refine (HC.out _).mono ?_; rintro e w3 ⟨rfl, hb3⟩; have hB3 : Below w1.heap.size w1 w3 := HH.out.drew.trans (hb3.mono (by simpa using hzw)); have HO3 : Hid (w3.ownsRow w1.heap.size 5 1 (.slice A k cp) k (bv L k)) := Lib.hid (rowThru (w := wr.drew) H.out.1 hb3); have HB3 := Lib.hid hB3; have hz3 := hB3.size; clear hb3 hB3))
      all_goals
        have HN4 := Lib.hid hown4
        have HB4 : Hid (Below w1.heap.size w1 w4) := Lib.hid (by
          refine (belowAlloc HB3.out _).grown hgrow4 (by simp; omega) (fun r e => ?_)
          rcases H.out.1.2 with ⟨hv, _⟩ | ⟨g0, c0, cur, hv, hv2, _⟩
          · rw [hv] at e; simp [Value.ownBlock] at e
          · rw [hv] at e; simp [Value.ownBlock] at e; omega)
        clear hown4 hgrow4 hat4 hlt4
        go_wp2
        go_roundw
        case rel => exact ⟨k + 1, _, _, by omega, rfl, by go_num, Lib.hid ⟨by rw [HBv.out]; exact HN4.out, HB4.out⟩⟩
        case measure => simp [intOf]; omega
    · obtain rfl : k = K := by omega
      obtain ⟨gq, cq, hA, hgq, hgq2⟩ := H.out.1.form (by omega : 0 < k)
      obtain ⟨rfl, rfl⟩ : A = some ⟨gq, 0, none⟩ ∧ cp = cq := by injection hA with hA hn hc; exact ⟨hA, hc⟩
      have HB : ∀ a c, a + c ≤ k → ∀ i, i < c → wr.cell? ⟨gq, a + i, none⟩ = some (.int .u8 (((lw L a c).getD i 0).toNat : Int)) := fun a c hac i hi => by
        rw [lw_at _ _ _ hi]
        exact (H.out.1.cellAt (a + i) (by omega)).trans (bv_at L (by omega))
      have cv1 := fun C => bytesAre (lw L 0 P) wr.drew gq 0 C P (by rw [lw_len]) (fun i hi => HB 0 P (by omega) i hi)
      have cv2 := fun C => bytesAre (lw L P (k - P)) wr.drew gq P C (k - P) (by rw [lw_len]) (fun i hi => HB P (k - P) (by omega) i hi)
      have HCN := Lib.hid (fun w => specCanon (lw L 0 P) (lw L P (k - P)) w (by rw [lw_len]; omega) (by rw [lw_len, lw_len]; omega))
      obtain ⟨X, hX⟩ : ∃ X, lw L 0 P = X := ⟨_, rfl⟩
      obtain ⟨Y, hY⟩ : ∃ Y, lw L P (k - P) = Y := ⟨_, rfl⟩
      simp only [hX] at cv1 HCN
      simp only [hY] at cv2 HCN
      have HX := Lib.hid (And.intro hX hY)
      have q0 := cellThru hBw (by omega) q0
      have q1 := cellThru hBw (by omega) q1
      have g0 := frozThru hBw (by omega) g0
      have g1 := frozThru hBw (by omega) g1
      have hcap : k ≤ cp := by
        rcases H.out.1.2 with ⟨_, h0⟩ | ⟨_, c9, _, hv, _, _, h9, _⟩
        · omega
        · have e9 : cp = c9 := by injection hv
          omega
      clear HB HF HO hX hY hA t0 t1
      have sl1 := rowToC gq k cp P (by omega) hcap
      have sl2 := rowFromC gq k cp P (by omega) hcap
      have HH := Lib.hid hBw
      go_wp2_with fail
      set_option maxRecDepth 8000 in
      go_still_tail 8, (by kernel_rfl)
      change wpList _ _ _ _ _ wr.drew
      clear cv1 cv2 sl1 sl2
      go_wp2_with fail
      refine (HCN.out _).mono ?_
      rintro e w3 ⟨rfl, hb3⟩
      have t0 := cellThru hb3 (by simp; omega) q0
      have t1 := cellThru hb3 (by simp; omega) q1
      have u0 := frozThru hb3 (by simp; omega) g0
      have u1 := frozThru hb3 (by simp; omega) g1
      have hB3 : Below w.heap.size w w3 := (belowNext HB1.out HH.out.drew).trans (hb3.mono (by simp; omega))
      clear hb3 q0 q1 g0 g1
      go_wp2
      refine bodyPost_ret (v := .tuple #[sqV (canon X Y).1 (canon X Y).2, .bool true]) (by simp [results, Try.results94, go_sem, sqV, t0, t1]) rfl ⟨?_, ?_⟩
      · rw [← HX.out.1, ← HX.out.2]
      · (repeat' (first | (with_reducible exact Below.refl _ _) | (with_reducible assumption) | (with_reducible refine belowNext ?_ (by with_reducible assumption)) | (with_reducible refine belowAlloc ?_ _) | (with_reducible refine Below.drew ?_) | (with_reducible refine below_drewN ?_ _) | (with_reducible refine Below.setCell ?_ ?_ _) | go_size | (with_reducible refine sizeOf' ?_) | (with_reducible refine sizeAdd ?_) | (dsimp only; first | (with_reducible refine sizeOf' ?_) | (with_reducible refine sizeAdd ?_))))

theorem sq_got {W : World} {g : Nat} {x y : Value} (u v : Value) (o : Obj) (h : g < W.heap.size) (h0 : W.cell? ⟨g, 0, none⟩ = some x) (h1 : W.cell? ⟨g, 1, none⟩ = some y) :
    (((W.setCell ⟨g, 0, none⟩ u).setCell ⟨g, 1, none⟩ v).alloc o).cell? ⟨g, 0, none⟩ = some u ∧ (((W.setCell ⟨g, 0, none⟩ u).setCell ⟨g, 1, none⟩ v).alloc o).cell? ⟨g, 1, none⟩ = some v := by
  obtain ⟨a, b⟩ := storeB (X := u) (Y := v) h0 h1
  exact ⟨(World.cell?_alloc_lt _ _ _ (by simpa using h)).trans a, (World.cell?_alloc_lt _ _ _ (by simpa using h)).trans b⟩

theorem specIt0 (n d m c : Int) (w : World) (h1 : isAng n d = true) (hf : findOrb (n, d) 65 0 = none) :
    Calls Try.prog 94 #[ang n d, ang m c] w fun e w' => e = .returned (.tuple #[sqV [] [], .bool false]) ∧ Below w.heap.size w w' := by
  have HO : Hid (∀ w : World, Calls Try.prog 73 #[ang n d] w fun e w' => e = .returned (.tuple #[.slice none 0 0, .int .i64 0, .bool false]) ∧ Below w.heap.size w w') := Lib.hid (fun w => (specOrbit n d w (ang_red h1)).mono fun e w' h => by unfold ResOrb at h; rw [hf] at h; exact h)
  clear h1 hf
  go_enter Try.func94, Try.ntmps94
  go_wp2_with fail
  refine (HO.out _).mono ?_
  rintro e w1 ⟨rfl, hb1⟩
  have hz1 : w.heap.size + 2 < w1.heap.size := by have := hb1.size; simp at this; omega
  have q0 : w1.cell? ⟨w.heap.size + 2, 0, none⟩ = some (.string ⟨#[]⟩) := cellThru hb1 (by simp) (by simp [go_sem])
  have q1 : w1.cell? ⟨w.heap.size + 2, 1, none⟩ = some (.string ⟨#[]⟩) := cellThru hb1 (by simp) (by simp [go_sem])
  have g0 : w1.frozen? ⟨w.heap.size + 2, 0, none⟩ = false := frozThru hb1 (by simp) (by simp [go_sem])
  have g1 : w1.frozen? ⟨w.heap.size + 2, 1, none⟩ = false := frozThru hb1 (by simp) (by simp [go_sem])
  go_wp2
  refine bodyPost_ret (v := .tuple #[sqV [] [], .bool false]) (by simp [results, Try.results94, go_sem, sqV, bs, q0, q1]) rfl ⟨rfl, ?_⟩
  (repeat' (first | (with_reducible exact Below.refl _ _) | (with_reducible assumption) | (with_reducible refine belowNext ?_ (by with_reducible assumption)) | (with_reducible refine belowAlloc ?_ _) | (with_reducible refine Below.drew ?_) | (with_reducible refine below_drewN ?_ _) | (with_reducible refine Below.setCell ?_ ?_ _) | go_size | (with_reducible refine sizeOf' ?_) | (with_reducible refine sizeAdd ?_) | (dsimp only; first | (with_reducible refine sizeOf' ?_) | (with_reducible refine sizeAdd ?_))))

set_option maxHeartbeats 2000000 in
theorem specItineraryOf (n d m c : Int) (w : World) :
    Calls Try.prog 53 #[ang n d, ang m c] w fun e w' => e = .returned (.tuple #[sqV (itS n d m c).1 (itS n d m c).2, .int .i64 (itC n d m c)]) ∧ Below w.heap.size w w' := by
  have H1 := Lib.hid (fun w => specIs1 n d w)
  have H2 := Lib.hid (fun w => specIs1 m c w)
  cases i1 : isAng n d
  · have e1 : itS n d m c = ([], []) ∧ itC n d m c = 1 := by
      unfold itS itC sqA oC; rw [i1]; cases isAng m c <;> simp
    rw [e1.1, e1.2]
    rw [i1] at H1
    clear i1 e1
    go_enter Try.func53, Try.ntmps53
    go_wp2_with fail
    refine (H1.out _).mono ?_
    rintro e w1 ⟨rfl, hb1⟩
    have hz1 : w.heap.size + 2 < w1.heap.size := by have := hb1.size; simp at this; omega
    have q0 : w1.cell? ⟨w.heap.size + 2, 0, none⟩ = some (.string ⟨#[]⟩) := cellThru hb1 (by simp) (by simp [go_sem])
    have q1 : w1.cell? ⟨w.heap.size + 2, 1, none⟩ = some (.string ⟨#[]⟩) := cellThru hb1 (by simp) (by simp [go_sem])
    have g0 : w1.frozen? ⟨w.heap.size + 2, 0, none⟩ = false := frozThru hb1 (by simp) (by simp [go_sem])
    have g1 : w1.frozen? ⟨w.heap.size + 2, 1, none⟩ = false := frozThru hb1 (by simp) (by simp [go_sem])
    go_wp2
    refine bodyPost_ret (v := .tuple #[sqV [] [], .int .i64 1]) (by simp [results, Try.results53, go_sem, sqV, bs, q0, q1]) rfl ⟨rfl, ?_⟩
    (repeat' (first | (with_reducible exact Below.refl _ _) | (with_reducible assumption) | (with_reducible refine belowNext ?_ (by with_reducible assumption)) | (with_reducible refine belowAlloc ?_ _) | (with_reducible refine Below.drew ?_) | (with_reducible refine below_drewN ?_ _) | (with_reducible refine Below.setCell ?_ ?_ _) | go_size | (with_reducible refine sizeOf' ?_) | (with_reducible refine sizeAdd ?_) | (dsimp only; first | (with_reducible refine sizeOf' ?_) | (with_reducible refine sizeAdd ?_))))
  rw [i1] at H1
  cases i2 : isAng m c
  · have e1 : itS n d m c = ([], []) ∧ itC n d m c = 1 := by
      unfold itS itC; simp [i2]
    rw [e1.1, e1.2]
    rw [i2] at H2
    clear i1 i2 e1
    go_enter Try.func53, Try.ntmps53
    go_wp2_with fail
    refine (H1.out _).mono ?_
    rintro e w1 ⟨rfl, hb1⟩
    have hz1 : w.heap.size + 2 < w1.heap.size := by have := hb1.size; simp at this; omega
    have q0 : w1.cell? ⟨w.heap.size + 2, 0, none⟩ = some (.string ⟨#[]⟩) := cellThru hb1 (by simp) (by simp [go_sem])
    have q1 : w1.cell? ⟨w.heap.size + 2, 1, none⟩ = some (.string ⟨#[]⟩) := cellThru hb1 (by simp) (by simp [go_sem])
    have g0 : w1.frozen? ⟨w.heap.size + 2, 0, none⟩ = false := frozThru hb1 (by simp) (by simp [go_sem])
    have g1 : w1.frozen? ⟨w.heap.size + 2, 1, none⟩ = false := frozThru hb1 (by simp) (by simp [go_sem])
    have s0 : w1.cell? ⟨w.heap.size + 1, 0, none⟩ = some (.int .i64 m) := cellThru hb1 (by simp) (by simp [go_sem])
    have s1 : w1.cell? ⟨w.heap.size + 1, 1, none⟩ = some (.int .i64 c) := cellThru hb1 (by simp) (by simp [go_sem])
    have hB1 : Below w.heap.size w w1 := by
      (repeat' (first | (with_reducible exact Below.refl _ _) | (with_reducible assumption) | (with_reducible refine belowNext ?_ (by with_reducible assumption)) | (with_reducible refine belowAlloc ?_ _) | (with_reducible refine Below.drew ?_) | (with_reducible refine below_drewN ?_ _) | (with_reducible refine Below.setCell ?_ ?_ _) | go_size | (with_reducible refine sizeOf' ?_) | (with_reducible refine sizeAdd ?_) | (dsimp only; first | (with_reducible refine sizeOf' ?_) | (with_reducible refine sizeAdd ?_))))
    clear hb1
    go_wp2_with fail
    refine (H2.out _).mono ?_
    rintro e w2 ⟨rfl, hb2⟩
    have hz2 : w.heap.size + 2 < w2.heap.size := by have := hb2.size; omega
    have q0 := cellThru hb2 hz1 q0
    have q1 := cellThru hb2 hz1 q1
    have g0 := frozThru hb2 hz1 g0
    have g1 := frozThru hb2 hz1 g1
    have hB2 : Below w.heap.size w w2 := belowNext hB1 hb2
    clear hb2 s0 s1
    go_wp2
    refine bodyPost_ret (v := .tuple #[sqV [] [], .int .i64 1]) (by simp [results, Try.results53, go_sem, sqV, bs, q0, q1]) rfl ⟨rfl, ?_⟩
    (repeat' (first | (with_reducible exact Below.refl _ _) | (with_reducible assumption) | (with_reducible refine belowNext ?_ (by with_reducible assumption)) | (with_reducible refine belowAlloc ?_ _) | (with_reducible refine Below.drew ?_) | (with_reducible refine below_drewN ?_ _) | (with_reducible refine Below.setCell ?_ ?_ _) | go_size | (with_reducible refine sizeOf' ?_) | (with_reducible refine sizeAdd ?_) | (dsimp only; first | (with_reducible refine sizeOf' ?_) | (with_reducible refine sizeAdd ?_))))
  rw [i2] at H2
  have e1 : itS n d m c = sqA n d (lt n d m c) ∧ itC n d m c = oC n d := by
    unfold itS itC; simp [i2]
  rw [e1.1, e1.2]
  obtain ⟨ok, X, Y, C, hs⟩ : ∃ (ok : Bool) (X Y : Wd) (C : Int), Hid ((∀ w, Calls Try.prog 94 #[ang n d, ang m c] w fun e w' => e = .returned (.tuple #[sqV X Y, .bool ok]) ∧ Below w.heap.size w w') ∧ (sqA n d (lt n d m c)).1 = X ∧ (sqA n d (lt n d m c)).2 = Y ∧ oC n d = C ∧ ((ok = true ∧ C = 0) ∨ (ok = false ∧ C = 3 ∧ X = [] ∧ Y = []))) := by
    cases hf : findOrb (n, d) 65 0 with
    | none =>
      refine ⟨false, [], [], 3, Lib.hid ⟨fun w => specIt0 n d m c w i1 hf, ?_, ?_, ?_, .inr ⟨rfl, rfl, rfl, rfl⟩⟩⟩
      · unfold sqA; simp [i1, hf]
      · unfold sqA; simp [i1, hf]
      · unfold oC; simp [i1, hf]
    | some K =>
      refine ⟨true, _, _, 0, Lib.hid ⟨fun w => specIt n d m c w i1 i2 K hf, rfl, rfl, ?_, .inl ⟨rfl, rfl⟩⟩⟩
      unfold oC; simp [i1, hf]
  have HS := Lib.hid hs.out.1
  rw [hs.out.2.1, hs.out.2.2.1, hs.out.2.2.2.1]
  have hcase := hs.out.2.2.2.2
  clear hs e1 i1 i2
  rcases hcase with ⟨rfl, rfl⟩ | ⟨rfl, rfl, rfl, rfl⟩
  all_goals
    go_enter Try.func53, Try.ntmps53
    go_wp2_with fail
    refine (H1.out _).mono ?_
    rintro e w1 ⟨rfl, hb1⟩
    have hz1 : w.heap.size + 2 < w1.heap.size := by have := hb1.size; simp at this; omega
    have hz0 : w.heap.size + 1 < w1.heap.size := by omega
    have hzz : w.heap.size < w1.heap.size := by omega
    have q0 : w1.cell? ⟨w.heap.size + 2, 0, none⟩ = some (.string ⟨#[]⟩) := cellThru hb1 (by simp) (by simp [go_sem])
    have q1 : w1.cell? ⟨w.heap.size + 2, 1, none⟩ = some (.string ⟨#[]⟩) := cellThru hb1 (by simp) (by simp [go_sem])
    have g0 : w1.frozen? ⟨w.heap.size + 2, 0, none⟩ = false := frozThru hb1 (by simp) (by simp [go_sem])
    have g1 : w1.frozen? ⟨w.heap.size + 2, 1, none⟩ = false := frozThru hb1 (by simp) (by simp [go_sem])
    have s0 : w1.cell? ⟨w.heap.size + 1, 0, none⟩ = some (.int .i64 m) := cellThru hb1 (by simp) (by simp [go_sem])
    have s1 : w1.cell? ⟨w.heap.size + 1, 1, none⟩ = some (.int .i64 c) := cellThru hb1 (by simp) (by simp [go_sem])
    have r0 : w1.cell? ⟨w.heap.size, 0, none⟩ = some (.int .i64 n) := cellThru hb1 (by simp; omega) (by simp [go_sem])
    have r1 : w1.cell? ⟨w.heap.size, 1, none⟩ = some (.int .i64 d) := cellThru hb1 (by simp; omega) (by simp [go_sem])
    have hB1 : Below w.heap.size w w1 := by
      (repeat' (first | (with_reducible exact Below.refl _ _) | (with_reducible assumption) | (with_reducible refine belowNext ?_ (by with_reducible assumption)) | (with_reducible refine belowAlloc ?_ _) | (with_reducible refine Below.drew ?_) | (with_reducible refine below_drewN ?_ _) | (with_reducible refine Below.setCell ?_ ?_ _) | go_size | (with_reducible refine sizeOf' ?_) | (with_reducible refine sizeAdd ?_) | (dsimp only; first | (with_reducible refine sizeOf' ?_) | (with_reducible refine sizeAdd ?_))))
    clear hb1
    go_wp2_with fail
    refine (H2.out _).mono ?_
    rintro e w2 ⟨rfl, hb2⟩
    have hy2 : w.heap.size + 2 < w2.heap.size := by have := hb2.size; omega
    have q0 := cellThru hb2 hz1 q0
    have q1 := cellThru hb2 hz1 q1
    have g0 := frozThru hb2 hz1 g0
    have g1 := frozThru hb2 hz1 g1
    have s0 := cellThru hb2 hz0 s0
    have s1 := cellThru hb2 hz0 s1
    have r0 := cellThru hb2 hzz r0
    have r1 := cellThru hb2 hzz r1
    have hB2 : Below w.heap.size w w2 := belowNext hB1 hb2
    clear hb2 hz1 hz0 hzz hB1
    go_wp2_with fail
    refine (HS.out _).mono ?_
    rintro e w3 ⟨rfl, hb3⟩
    have hy3 : w.heap.size + 2 < w3.heap.size := by have := hb3.size; omega
    have q0 := cellThru hb3 hy2 q0
    have q1 := cellThru hb3 hy2 q1
    have g0 := frozThru hb3 hy2 g0
    have g1 := frozThru hb3 hy2 g1
    have hB3 : Below w.heap.size w w3 := belowNext hB2 hb3
    clear hb3 s0 s1 r0 r1 hB2 hy2
    have qq := fun u v o => sq_got (g := w.heap.size + 1 + 1) u v o hy3 q0 q1
    go_wp2
    refine bodyPost_ret (v := .tuple #[sqV _ _, .int .i64 _]) (by simp [results, Try.results53, go_sem, sqV, bs, (qq _ _ _).1, (qq _ _ _).2]; done) rfl ⟨rfl, ?_⟩
    (repeat' (first | (with_reducible exact Below.refl _ _) | (with_reducible assumption) | (with_reducible refine belowNext ?_ (by with_reducible assumption)) | (with_reducible refine belowAlloc ?_ _) | (with_reducible refine Below.drew ?_) | (with_reducible refine below_drewN ?_ _) | (with_reducible refine Below.setCell ?_ ?_ _) | go_size | (with_reducible refine sizeOf' ?_) | (with_reducible refine sizeAdd ?_) | (dsimp only; first | (with_reducible refine sizeOf' ?_) | (with_reducible refine sizeAdd ?_))))

theorem specKneadingOf (n d : Int) (w : World) :
    Calls Try.prog 55 #[ang n d] w fun e w' => e = .returned (.tuple #[sqV (itS n d n d).1 (itS n d n d).2, .int .i64 (itC n d n d)]) ∧ Below w.heap.size w w' := by
  have HA := Lib.hid (fun w => specItineraryOf n d n d w)
  generalize (itS n d n d).1 = X at *
  generalize (itS n d n d).2 = Y at *
  generalize itC n d n d = C at *
  go_enter Try.func55, Try.ntmps55
  go_wp2_with fail
  refine (HA.out _).mono ?_
  rintro e w1 ⟨rfl, hb1⟩
  have hz1 : w.heap.size + 1 < w1.heap.size := by have := hb1.size; simp at this; omega
  have q0 : w1.cell? ⟨w.heap.size + 1, 0, none⟩ = some (.string ⟨#[]⟩) := cellThru hb1 (by simp) (by simp [go_sem])
  have q1 : w1.cell? ⟨w.heap.size + 1, 1, none⟩ = some (.string ⟨#[]⟩) := cellThru hb1 (by simp) (by simp [go_sem])
  have g0 : w1.frozen? ⟨w.heap.size + 1, 0, none⟩ = false := frozThru hb1 (by simp) (by simp [go_sem])
  have g1 : w1.frozen? ⟨w.heap.size + 1, 1, none⟩ = false := frozThru hb1 (by simp) (by simp [go_sem])
  go_wp2
  refine bodyPost_ret (v := .tuple #[sqV X Y, .int .i64 C]) (by simp [results, Try.results55, go_sem, sqV, q0, q1]) rfl ⟨rfl, ?_⟩
  (repeat' (first | (with_reducible exact Below.refl _ _) | (with_reducible assumption) | (with_reducible refine belowNext ?_ (by with_reducible assumption)) | (with_reducible refine belowAlloc ?_ _) | (with_reducible refine Below.drew ?_) | (with_reducible refine below_drewN ?_ _) | (with_reducible refine Below.setCell ?_ ?_ _) | go_size | (with_reducible refine sizeOf' ?_) | (with_reducible refine sizeAdd ?_) | (dsimp only; first | (with_reducible refine sizeOf' ?_) | (with_reducible refine sizeAdd ?_))))
end Go.Proofs.Ytbdedljhdjjlaaa

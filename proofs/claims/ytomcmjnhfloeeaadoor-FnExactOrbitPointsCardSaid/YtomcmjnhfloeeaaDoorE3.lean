/-
  Contracts: whether a sequence is a point of another one, on both sides; written by genE3.py.
-/
import Derived.Test.YtomcmjnhfloeeaaDoorE2
import Derived.Test.YtomcmjnhfloeeaaDoorD6
namespace Go.Proofs.YtomcmjnhfloeeaaDoor
open Go.RowKit

theorem retBQ {r s : Bool} (h : r = s) : Ending.returned (.bool r) = .returned (.bool s) := by rw [h]
theorem neSq (a b c d : Wd) (W : World) : (binOp .neq 25 (sqV a b) (sqV c d)).run Tryd.prog W = .ok (.bool (!((a, b) == (c, d)))) W := by
  by_cases h1 : a = c
  · by_cases h2 : b = d
    · subst h1 h2
      simp [go_sem, sqV]
    · subst h1
      simp [go_sem, sqV, bs_toList, h2]
  · simp [go_sem, sqV, bs_toList, h1]

/-- What follows each star is the sequence (a, b). -/
def ptB (a b x y : Wd) : Bool := (List.range (x.length + y.length)).all fun k => !(atL x y k == 42) || (shQ (k + 1) x y == (a, b))
theorem ptB_iff {a b x y : Wd} : ptB a b x y = true ↔ ∀ k, k < x.length + y.length → atL x y k = 42 → shQ (k + 1) x y = (a, b) := by
  unfold ptB
  rw [List.all_eq_true]
  constructor
  · intro h k hk h42
    have := h k (List.mem_range.2 hk)
    simpa [h42] using this
  · intro h k hk
    have hk := List.mem_range.1 hk
    by_cases h42 : atL x y k = 42
    · simp [h42, h k hk h42]
    · simp [h42]

/-- Two boxed sequences, kept. -/
structure PQ (w W : World) (a b x y : Wd) : Prop where
  B : Below w.heap.size w W
  z : w.heap.size + 1 < W.heap.size
  v0 : W.cell? ⟨w.heap.size, 0, none⟩ = some (.string (bs a))
  v1 : W.cell? ⟨w.heap.size, 1, none⟩ = some (.string (bs b))
  s0 : W.cell? ⟨w.heap.size + 1, 0, none⟩ = some (.string (bs x))
  s1 : W.cell? ⟨w.heap.size + 1, 1, none⟩ = some (.string (bs y))
theorem PQ.on {w W w1 : World} {a b x y : Wd} (H : PQ w W a b x y) (hb : Below W.heap.size W w1) : PQ w w1 a b x y := by
  have hz := H.z
  have hs := hb.size
  exact ⟨belowNext H.B hb, by omega, cellThru hb (by omega) H.v0, cellThru hb (by omega) H.v1, cellThru hb hz H.s0, cellThru hb hz H.s1⟩
theorem pq0 (w : World) (a b x y : Wd) (T T' : TypeId) : PQ w ((w.alloc (.cells #[.string (bs a), .string (bs b)] T)).alloc (.cells #[.string (bs x), .string (bs y)] T')) a b x y :=
  ⟨by (repeat' (first | (with_reducible exact Below.refl _ _) | (with_reducible assumption) | (with_reducible refine belowNext ?_ (by with_reducible assumption)) | (with_reducible refine belowAlloc ?_ _) | (with_reducible refine Below.drew ?_) | (with_reducible refine below_drewN ?_ _) | (with_reducible refine Below.setCell ?_ ?_ _) | go_size | (with_reducible refine sizeOf' ?_) | (with_reducible refine sizeAdd ?_) | (dsimp only; first | (with_reducible refine sizeOf' ?_) | (with_reducible refine sizeAdd ?_)))), by simp, by simp [go_sem], by simp [go_sem], by simp [go_sem], by simp [go_sem]⟩
/-- The bytes of a word in a row. -/
theorem bytes_row (w : World) (e : TypeId) (l : Wd) {j : Nat} (hj : j < l.length) : (Lib.bytesWorld w e (bs l)).cell? ⟨w.heap.size, j, none⟩ = some (.int .u8 ((l.getD j 0).toNat : Int)) := by
  have := Lib.bytesWorld_cell w e (bs l) j (by rw [bs_size]; exact hj)
  rw [bs_data] at this
  rw [this]
theorem num42 {c : UInt8} : (c = 42 → (c.toNat : Int) = 42) ∧ (c ≠ 42 → ((c.toNat : Int) == 42) = false ∧ ¬ (c.toNat : Int) = 42) := by
  refine ⟨fun h => by rw [h]; rfl, fun h => ?_⟩
  have : ¬ (c.toNat : Int) = 42 := fun e => h (by
    have e2 : c.toNat = 42 := by omega
    exact UInt8.toNat_inj.1 (by rw [e2]; rfl))
  exact ⟨beq_eq_false_iff_ne.2 this, this⟩

set_option maxRecDepth 8000 in
set_option maxHeartbeats 4000000 in
theorem implPoint (a b x y : Wd) (w : World) (hy : 0 < y.length) (hxy : x.length + y.length ≤ 64) :
    Calls Tryd.prog 57 #[sqV a b, sqV x y] w fun e w' => e = .returned (.bool (ptB a b x y)) ∧ Below w.heap.size w w' := by
  have HS := Lib.hid (fun (k : Nat) (v : Int) (hv : v = (k : Int)) (hk : k ≤ 1000000000) w => implShBy x y k v hv w hk hy hxy)
  have HF := Lib.hid (@ptB_iff a b x y)
  have hcat : ∀ W, (Op.stringOp .add (bs x) (bs y)).run Tryd.prog W = .ok (.string (bs (x ++ y))) W := fun W => catO x y (by omega) W
  have hNE := fun k W => neSq (shQ (k + 1) x y).1 (shQ (k + 1) x y).2 a b W
  have K0 := pq0 w a b x y 25 25
  have hsz : ((w.alloc (.cells #[.string (bs a), .string (bs b)] 25)).alloc (.cells #[.string (bs x), .string (bs y)] 25)).heap.size = w.heap.size + 1 + 1 := by simp
  have hcv := Lib.run_convert_string_bytes (P := Tryd.prog) ((w.alloc (.cells #[.string (bs a), .string (bs b)] 25)).alloc (.cells #[.string (bs x), .string (bs y)] 25)) 9 74 5 (bs (x ++ y)) (u := .string) Tryd.underlying9 Tryd.underlying74 Tryd.underlying5
  have HB : Hid (∀ k, k < x.length + y.length → (Lib.bytesWorld ((w.alloc (.cells #[.string (bs a), .string (bs b)] 25)).alloc (.cells #[.string (bs x), .string (bs y)] 25)) 5 (bs (x ++ y))).cell? ⟨w.heap.size + 1 + 1, k, none⟩ = some (.int .u8 ((atL x y k).toNat : Int))) := Lib.hid (fun k hk => by
    have := bytes_row ((w.alloc (.cells #[.string (bs a), .string (bs b)] 25)).alloc (.cells #[.string (bs x), .string (bs y)] 25)) 5 (x ++ y) (j := k) (by simp; omega)
    rw [hsz, app_at x y hk] at this
    exact this)
  have K1 : PQ w (Lib.bytesWorld ((w.alloc (.cells #[.string (bs a), .string (bs b)] 25)).alloc (.cells #[.string (bs x), .string (bs y)] 25)) 5 (bs (x ++ y))) a b x y := K0.on (below_bytes _ _ (Below.refl _ _))
  have hg1 : w.heap.size + 1 + 1 < (Lib.bytesWorld ((w.alloc (.cells #[.string (bs a), .string (bs b)] 25)).alloc (.cells #[.string (bs x), .string (bs y)] 25)) 5 (bs (x ++ y))).heap.size := by rw [Lib.bytesWorld_size, hsz]; omega
  rw [hsz, bs_size, List.length_append] at hcv
  generalize grownCap ((w.alloc (.cells #[.string (bs a), .string (bs b)] 25)).alloc (.cells #[.string (bs x), .string (bs y)] 25)) (x.length + y.length) 0 5 = cp at hcv
  generalize Lib.bytesWorld ((w.alloc (.cells #[.string (bs a), .string (bs b)] 25)).alloc (.cells #[.string (bs x), .string (bs y)] 25)) 5 (bs (x ++ y)) = W1 at *
  obtain ⟨n, hn⟩ : ∃ n, x.length + y.length = n := ⟨_, rfl⟩
  rw [hn] at hcv HB HF hxy
  clear hsz K0 hn hy
  generalize ptB a b x y = R at *
  go_enter Tryd.func57, Tryd.ntmps57
  go_wp2
  go_loopw [14] (fun i wr => ∃ k : Nat, k ≤ n ∧ i = .int .i64 k ∧ Hid (∀ j, j < k → atL x y j = 42 → shQ (j + 1) x y = (a, b)) ∧ Below W1.heap.size W1 wr) (fun i _ => n - (intOf i).toNat)
  case atStart => exact ⟨0, by omega, rfl, Lib.hid (fun j h => absurd h (by omega)), Below.refl _ _⟩
  case round =>
    obtain ⟨k, hk, rfl, HY, hbe⟩ := hrel
    by_cases hlt : k < n
    · have hbt := cellThru hbe hg1 (HB.out k hlt)
      have w1 : IntKind.i64.wrap ((k : Int) + 1) = (k : Int) + 1 := IntWalk.i64_in _ (by omega)
      have K := K1.on hbe
      obtain ⟨B, z, v0, v1, s0, s1⟩ := id K
      by_cases h42 : atL x y k = 42
      · have hL := num42.1 h42
        have H42 := Lib.hid h42
        rw [hL] at hbt
        have HSk := Lib.hid (HS.out (k + 1) ((k : Int) + 1) (by omega) (by omega))
        have hne := hNE k
        obtain ⟨X, hX⟩ : ∃ X, (shQ (k + 1) x y).1 = X := ⟨_, rfl⟩
        obtain ⟨Y, hY⟩ : ∃ Y, (shQ (k + 1) x y).2 = Y := ⟨_, rfl⟩
        have HXY : Hid (shQ (k + 1) x y = (X, Y)) := Lib.hid (by rw [← hX, ← hY])
        rw [hX, hY] at hne HSk
        clear hX hY h42 hL hNE
        obtain ⟨q, hq⟩ : ∃ q, ((X, Y) == (a, b)) = q := ⟨_, rfl⟩
        rw [hq] at hne
        have HQ := Lib.hid hq
        clear hq
        have hbz : Below wr.heap.size wr wr.drew := (Below.refl _ _).drew
        go_wp2_with fail
        refine wp_region_any (by kernel_rfl) ?_
        try (change wpAny _ _ _ _ _ _ _ (World.drew _))
        refine wpAny_take (i := 0) (v := ?_) rfl (by kernel_rfl) (by kernel_rfl) (by kernel_rfl) (fun _ _ _ h => h) (Or.inl ⟨by kernel_rfl, ?_⟩) ?_
        rotate_left
        · intro w; first | (go_simp; done) | (go_simp; with_reducible rfl)
        refine wpAny_take (i := 1) (v := ?_) rfl (by kernel_rfl) (by kernel_rfl) (by kernel_rfl) (fun _ _ _ h => h) (Or.inl ⟨by kernel_rfl, ?_⟩) ?_
        rotate_left
        · intro w; first | (go_simp; done) | (go_simp; with_reducible rfl)
        refine wpAny_take (i := 2) (v := ?_) rfl (by kernel_rfl) (by kernel_rfl) (by kernel_rfl) (fun _ _ _ h => h) (Or.inl ⟨by kernel_rfl, ?_⟩) ?_
        rotate_left
        · intro w; first | (go_simp; done) | (go_simp; with_reducible rfl)
        refine wpAny_take (i := 4) (v := ?_) rfl (by kernel_rfl) (by kernel_rfl) (by kernel_rfl) (fun _ _ _ h => h) (Or.inl ⟨by kernel_rfl, ?_⟩) ?_
        rotate_left
        · intro w; first | (go_simp; done) | (go_simp; with_reducible rfl)
        refine wpAny_take (i := 5) (v := ?_) rfl (by kernel_rfl) (by kernel_rfl) (by kernel_rfl) (fun _ _ _ h => h) (Or.inl ⟨by kernel_rfl, ?_⟩) ?_
        rotate_left
        · intro w; first | (go_simp; done) | (go_simp; with_reducible rfl)
        refine wpAny_ready (rs := [3, 7]) (by kernel_rfl) (by simp) ?_
        refine AllReady.cons rfl (fun K hK => ?_) (AllReady.cons rfl (fun K hK => ?_) (AllReady.nil))
        · go_simp
          refine hK _ _ ?_
          clear hK K
          refine wpAny_ready (rs := [6, 7]) (by kernel_rfl) (by simp) ?_
          refine AllReady.cons rfl (fun K hK => ?_) (AllReady.cons rfl (fun K hK => ?_) (AllReady.nil))
          · go_simp
            go_wp2_with (go_at_call 69; (with_reducible refine (HSk.out _).mono ?_); rintro e w4 ⟨rfl, hb4⟩)
            have B4' : Below wr.heap.size wr w4 := by
              (repeat' (first | (with_reducible exact Below.refl _ _) | (with_reducible assumption) | (with_reducible refine belowNext ?_ (by with_reducible assumption)) | (with_reducible refine belowAlloc ?_ _) | (with_reducible refine Below.drew ?_) | (with_reducible refine below_drewN ?_ _) | (with_reducible refine Below.setCell ?_ ?_ _) | go_size | (with_reducible refine sizeOf' ?_) | (with_reducible refine sizeAdd ?_) | (dsimp only; first | (with_reducible refine sizeOf' ?_) | (with_reducible refine sizeAdd ?_))))
            have t0 := cellThru B4' (by omega) v0
            have t1 := cellThru B4' (by omega) v1
            refine wpAny_ready (rs := [7]) (by kernel_rfl) (by simp) ?_
            refine AllReady.cons rfl (fun K hK => ?_) (AllReady.nil)
            go_simp
            refine hK _ _ ?_
            clear hK K
            refine wpAny_take (i := 8) (v := ?_) rfl (by kernel_rfl) (by kernel_rfl) (by kernel_rfl) (fun _ _ _ h => h) (Or.inl ⟨by kernel_rfl, ?_⟩) ?_
            rotate_left
            · intro w; first | (go_simp; done) | (go_simp; with_reducible rfl)
            refine wpAny_take (i := 9) (v := ?_) rfl (by kernel_rfl) (by kernel_rfl) (by kernel_rfl) (fun _ _ _ h => h) (Or.inl ⟨by kernel_rfl, ?_⟩) ?_
            rotate_left
            · intro w; first | (go_simp; done) | (go_simp; with_reducible rfl)
            refine wpAny_done (by kernel_rfl) ?_ _
            cases q
            · have HN : Hid (R = false) := Lib.hid (by
                cases hR : R
                · rfl
                · have := HF.out.1 hR k hlt H42.out
                  rw [HXY.out] at this
                  have h2 := HQ.out
                  rw [this] at h2
                  simp at h2)
              have B4 : Below w.heap.size w w4 := belowNext K1.B (belowNext hbe B4')
              go_wp2
              go_ret
              exact ⟨retBQ HN.out.symm, B4⟩
            · have B4 : Below W1.heap.size W1 w4 := belowNext hbe B4'
              go_wp2
              go_roundw
              case rel => exact ⟨k + 1, by omega, by go_num, Lib.hid (fun j hj h => by
                by_cases e : j = k
                · rw [e, HXY.out]; exact eq_of_beq HQ.out
                · exact HY.out j (by omega) h), B4⟩
              case measure => simp [intOf]; omega
          · go_simp
            refine hK _ _ ?_
            clear hK K
            refine wpAny_ready (rs := [6]) (by kernel_rfl) (by simp) ?_
            refine AllReady.cons rfl (fun K hK => ?_) (AllReady.nil)
            go_simp
            go_wp2_with (go_at_call 69; (with_reducible refine (HSk.out _).mono ?_); rintro e w4 ⟨rfl, hb4⟩)
            have B4' : Below wr.heap.size wr w4 := by
              (repeat' (first | (with_reducible exact Below.refl _ _) | (with_reducible assumption) | (with_reducible refine belowNext ?_ (by with_reducible assumption)) | (with_reducible refine belowAlloc ?_ _) | (with_reducible refine Below.drew ?_) | (with_reducible refine below_drewN ?_ _) | (with_reducible refine Below.setCell ?_ ?_ _) | go_size | (with_reducible refine sizeOf' ?_) | (with_reducible refine sizeAdd ?_) | (dsimp only; first | (with_reducible refine sizeOf' ?_) | (with_reducible refine sizeAdd ?_))))
            have t0 := cellThru B4' (by omega) v0
            have t1 := cellThru B4' (by omega) v1
            refine wpAny_take (i := 8) (v := ?_) rfl (by kernel_rfl) (by kernel_rfl) (by kernel_rfl) (fun _ _ _ h => h) (Or.inl ⟨by kernel_rfl, ?_⟩) ?_
            rotate_left
            · intro w; first | (go_simp; done) | (go_simp; with_reducible rfl)
            refine wpAny_take (i := 9) (v := ?_) rfl (by kernel_rfl) (by kernel_rfl) (by kernel_rfl) (fun _ _ _ h => h) (Or.inl ⟨by kernel_rfl, ?_⟩) ?_
            rotate_left
            · intro w; first | (go_simp; done) | (go_simp; with_reducible rfl)
            refine wpAny_done (by kernel_rfl) ?_ _
            cases q
            · have HN : Hid (R = false) := Lib.hid (by
                cases hR : R
                · rfl
                · have := HF.out.1 hR k hlt H42.out
                  rw [HXY.out] at this
                  have h2 := HQ.out
                  rw [this] at h2
                  simp at h2)
              have B4 : Below w.heap.size w w4 := belowNext K1.B (belowNext hbe B4')
              go_wp2
              go_ret
              exact ⟨retBQ HN.out.symm, B4⟩
            · have B4 : Below W1.heap.size W1 w4 := belowNext hbe B4'
              go_wp2
              go_roundw
              case rel => exact ⟨k + 1, by omega, by go_num, Lib.hid (fun j hj h => by
                by_cases e : j = k
                · rw [e, HXY.out]; exact eq_of_beq HQ.out
                · exact HY.out j (by omega) h), B4⟩
              case measure => simp [intOf]; omega
        · go_simp
          refine hK _ _ ?_
          clear hK K
          refine wpAny_ready (rs := [3]) (by kernel_rfl) (by simp) ?_
          refine AllReady.cons rfl (fun K hK => ?_) (AllReady.nil)
          go_simp
          refine hK _ _ ?_
          clear hK K
          refine wpAny_ready (rs := [6]) (by kernel_rfl) (by simp) ?_
          refine AllReady.cons rfl (fun K hK => ?_) (AllReady.nil)
          go_simp
          go_wp2_with (go_at_call 69; (with_reducible refine (HSk.out _).mono ?_); rintro e w4 ⟨rfl, hb4⟩)
          have B4' : Below wr.heap.size wr w4 := by
            (repeat' (first | (with_reducible exact Below.refl _ _) | (with_reducible assumption) | (with_reducible refine belowNext ?_ (by with_reducible assumption)) | (with_reducible refine belowAlloc ?_ _) | (with_reducible refine Below.drew ?_) | (with_reducible refine below_drewN ?_ _) | (with_reducible refine Below.setCell ?_ ?_ _) | go_size | (with_reducible refine sizeOf' ?_) | (with_reducible refine sizeAdd ?_) | (dsimp only; first | (with_reducible refine sizeOf' ?_) | (with_reducible refine sizeAdd ?_))))
          have t0 := cellThru B4' (by omega) v0
          have t1 := cellThru B4' (by omega) v1
          refine wpAny_take (i := 8) (v := ?_) rfl (by kernel_rfl) (by kernel_rfl) (by kernel_rfl) (fun _ _ _ h => h) (Or.inl ⟨by kernel_rfl, ?_⟩) ?_
          rotate_left
          · intro w; first | (go_simp; done) | (go_simp; with_reducible rfl)
          refine wpAny_take (i := 9) (v := ?_) rfl (by kernel_rfl) (by kernel_rfl) (by kernel_rfl) (fun _ _ _ h => h) (Or.inl ⟨by kernel_rfl, ?_⟩) ?_
          rotate_left
          · intro w; first | (go_simp; done) | (go_simp; with_reducible rfl)
          refine wpAny_done (by kernel_rfl) ?_ _
          cases q
          · have HN : Hid (R = false) := Lib.hid (by
              cases hR : R
              · rfl
              · have := HF.out.1 hR k hlt H42.out
                rw [HXY.out] at this
                have h2 := HQ.out
                rw [this] at h2
                simp at h2)
            have B4 : Below w.heap.size w w4 := belowNext K1.B (belowNext hbe B4')
            go_wp2
            go_ret
            exact ⟨retBQ HN.out.symm, B4⟩
          · have B4 : Below W1.heap.size W1 w4 := belowNext hbe B4'
            go_wp2
            go_roundw
            case rel => exact ⟨k + 1, by omega, by go_num, Lib.hid (fun j hj h => by
              by_cases e : j = k
              · rw [e, HXY.out]; exact eq_of_beq HQ.out
              · exact HY.out j (by omega) h), B4⟩
            case measure => simp [intOf]; omega
      · obtain ⟨n1, n2⟩ := num42.2 h42
        have H42 := Lib.hid h42
        generalize ((atL x y k).toNat : Int) = L at *
        clear h42 hNE
        go_wp2_with fail
        refine wp_region_any (by kernel_rfl) ?_
        try (change wpAny _ _ _ _ _ _ _ (World.drew _))
        refine wpAny_take (i := 0) (v := ?_) rfl (by kernel_rfl) (by kernel_rfl) (by kernel_rfl) (fun _ _ _ h => h) (Or.inl ⟨by kernel_rfl, ?_⟩) ?_
        rotate_left
        · intro w; first | (go_simp; done) | (go_simp; with_reducible rfl)
        refine wpAny_take (i := 1) (v := ?_) rfl (by kernel_rfl) (by kernel_rfl) (by kernel_rfl) (fun _ _ _ h => h) (Or.inl ⟨by kernel_rfl, ?_⟩) ?_
        rotate_left
        · intro w; first | (go_simp; done) | (go_simp; with_reducible rfl)
        refine wpAny_take (i := 2) (v := ?_) rfl (by kernel_rfl) (by kernel_rfl) (by kernel_rfl) (fun _ _ _ h => h) (Or.inl ⟨by kernel_rfl, ?_⟩) ?_
        rotate_left
        · intro w; first | (go_simp; done) | (go_simp; with_reducible rfl)
        refine wpAny_take (i := 3) (v := undef) rfl (by kernel_rfl) (by kernel_rfl) (by kernel_rfl) (fun _ _ _ h => h) (Or.inr ⟨by kernel_rfl, rfl⟩) ?_
        go_simp
        refine wpAny_take (i := 4) (v := undef) rfl (by kernel_rfl) (by kernel_rfl) (by kernel_rfl) (fun _ _ _ h => h) (Or.inr ⟨by kernel_rfl, rfl⟩) ?_
        go_simp
        refine wpAny_take (i := 5) (v := undef) rfl (by kernel_rfl) (by kernel_rfl) (by kernel_rfl) (fun _ _ _ h => h) (Or.inr ⟨by kernel_rfl, rfl⟩) ?_
        go_simp
        refine wpAny_take (i := 6) (v := undef) rfl (by kernel_rfl) (by kernel_rfl) (by kernel_rfl) (fun _ _ _ h => h) (Or.inr ⟨by kernel_rfl, rfl⟩) ?_
        go_simp
        refine wpAny_take (i := 7) (v := undef) rfl (by kernel_rfl) (by kernel_rfl) (by kernel_rfl) (fun _ _ _ h => h) (Or.inr ⟨by kernel_rfl, rfl⟩) ?_
        go_simp
        refine wpAny_take (i := 8) (v := undef) rfl (by kernel_rfl) (by kernel_rfl) (by kernel_rfl) (fun _ _ _ h => h) (Or.inr ⟨by kernel_rfl, rfl⟩) ?_
        go_simp
        refine wpAny_take (i := 9) (v := ?_) rfl (by kernel_rfl) (by kernel_rfl) (by kernel_rfl) (fun _ _ _ h => h) (Or.inl ⟨by kernel_rfl, ?_⟩) ?_
        rotate_left
        · intro w; first | (go_simp; done) | (go_simp; with_reducible rfl)
        refine wpAny_done (by kernel_rfl) ?_ _
        go_wp2
        go_roundw
        case rel => exact ⟨k + 1, by omega, by go_num, Lib.hid (fun j hj h => by
          by_cases e : j = k
          · exact absurd (e ▸ h) H42.out
          · exact HY.out j (by omega) h), by (repeat' (first | (with_reducible exact Below.refl _ _) | (with_reducible assumption) | (with_reducible refine belowNext ?_ (by with_reducible assumption)) | (with_reducible refine belowAlloc ?_ _) | (with_reducible refine Below.drew ?_) | (with_reducible refine below_drewN ?_ _) | (with_reducible refine Below.setCell ?_ ?_ _) | go_size | (with_reducible refine sizeOf' ?_) | (with_reducible refine sizeAdd ?_) | (dsimp only; first | (with_reducible refine sizeOf' ?_) | (with_reducible refine sizeAdd ?_))))⟩
        case measure => simp [intOf]; omega
    · have HR : Hid (R = true) := Lib.hid (HF.out.2 (fun j hj => HY.out j (by omega)))
      obtain rfl : k = n := by omega
      clear HB hNE
      go_wp2
      go_ret
      exact ⟨retBQ HR.out.symm, belowNext K1.B hbe⟩

/-- The model's walk: the boxes of both sequences and of what is left. -/
structure PS (w W : World) (a b x y X Y : Wd) : Prop where
  K : PQ w W a b x y
  z : w.heap.size + 1 + 1 < W.heap.size
  n0 : W.cell? ⟨w.heap.size + 1 + 1, 0, none⟩ = some (.string (bs X))
  n1 : W.cell? ⟨w.heap.size + 1 + 1, 1, none⟩ = some (.string (bs Y))
  f0 : W.frozen? ⟨w.heap.size + 1 + 1, 0, none⟩ = false
  f1 : W.frozen? ⟨w.heap.size + 1 + 1, 1, none⟩ = false
theorem PS.on {w W w1 : World} {a b x y X Y : Wd} (H : PS w W a b x y X Y) (hb : Below W.heap.size W w1) : PS w w1 a b x y X Y := by
  have hz := H.z
  have hs := hb.size
  exact ⟨H.K.on hb, by omega, cellThru hb hz H.n0, cellThru hb hz H.n1, frozThru hb hz H.f0, frozThru hb hz H.f1⟩
theorem PS.put {w W : World} {a b x y X Y : Wd} (H : PS w W a b x y X Y) (X' Y' : Wd) : PS w ((W.setCell ⟨w.heap.size + 1 + 1, 0, none⟩ (.string (bs X'))).setCell ⟨w.heap.size + 1 + 1, 1, none⟩ (.string (bs Y'))) a b x y X' Y' := by
  have hz := H.z
  obtain ⟨B, z, v0, v1, s0, s1⟩ := H.K
  have n0 := H.n0
  have n1 := H.n1
  have f0 := H.f0
  have f1 := H.f1
  refine ⟨⟨(B.setCell (by simp; omega) _).setCell (by simp; omega) _, by simpa using z, ?_, ?_, ?_, ?_⟩, by simpa using hz, ?_, ?_, ?_, ?_⟩ <;> simp_all [go_sem]

set_option maxRecDepth 8000 in
set_option maxHeartbeats 4000000 in
theorem specPoint (a b x y : Wd) (w : World) (hy : 0 < y.length) (hxy : x.length + y.length ≤ 64) :
    Calls Tryd.prog 56 #[sqV a b, sqV x y] w fun e w' => e = .returned (.bool (ptB a b x y)) ∧ Below w.heap.size w w' := by
  have HS : Hid (∀ (k : Nat) (w : World), Calls Tryd.prog 76 #[sqV (shQ k x y).1 (shQ k x y).2] w fun e w' => e = .returned (sqV (shQ (k + 1) x y).1 (shQ (k + 1) x y).2) ∧ Below w.heap.size w w') := Lib.hid (fun k w => by
    have hl := shQ_len (x := x) (y := y) k
    have h := specSh (shQ k x y).1 (shQ k x y).2 w (by omega) (by omega)
    have e := shQ_succ (x := x) hy k
    unfold stepQ at e
    rw [← e]
    by_cases h0 : 0 < (shQ k x y).1.length
    · rw [if_pos h0]
      rw [if_neg (by omega)] at h
      exact h
    · rw [if_neg h0]
      rw [if_pos (by omega), show (shQ k x y).1 = [] from List.length_eq_zero_iff.1 (by omega)] at h
      rw [show (shQ k x y).1 = [] from List.length_eq_zero_iff.1 (by omega)]
      exact h)
  have HA : Hid (∀ (k : Nat) (w : World), Calls Tryd.prog 67 #[sqV (shQ k x y).1 (shQ k x y).2, .int .i64 0] w fun e w' => e = .returned (.int .u8 ((atL x y k).toNat : Int)) ∧ Below w.heap.size w w') := Lib.hid (fun k w => by
    have hl := shQ_len (x := x) (y := y) k
    have h := specAt (shQ k x y).1 (shQ k x y).2 0 0 rfl w (by omega) (by omega) (by omega)
    have e : atQ (shQ k x y).1 (shQ k x y).2 0 = atL x y k := sh_at hy k 0
    rw [e] at h
    exact h)
  have HF := Lib.hid (@ptB_iff a b x y)
  have HN := Lib.hid (fun k W => neSq (shQ (k + 1) x y).1 (shQ (k + 1) x y).2 a b W)
  have H0 := Lib.hid (shQ_zero (x := x) hy)
  have hlx := fun W => lenS 9 3 x Tryd.underlying9 W
  have hly := fun W => lenS 9 3 y Tryd.underlying9 W
  have wn : IntKind.i64.wrap ((x.length : Int) + (y.length : Int)) = (x.length : Int) + (y.length : Int) := IntWalk.i64_in _ (by omega)
  generalize ptB a b x y = R at *
  obtain ⟨n, hn⟩ : ∃ n, x.length + y.length = n := ⟨_, rfl⟩
  have hnI : (x.length : Int) + (y.length : Int) = (n : Int) := by omega
  rw [hnI] at wn
  rw [hn] at HF hxy
  clear hn hy
  go_enter Tryd.func56, Tryd.ntmps56
  go_wp2
  have P0 : PS w (((w.alloc (.cells #[.string (bs a), .string (bs b)] 25)).alloc (.cells #[.string (bs x), .string (bs y)] 25)).alloc (.cells #[.string (bs x), .string (bs y)] 25)) a b x y x y :=
    ⟨(pq0 w a b x y _ _).on (by exact belowAlloc (Below.refl _ _) _), by simp, by simp [go_sem], by simp [go_sem], by simp [go_sem], by simp [go_sem]⟩
  go_loopw [6] (fun i wr => ∃ k : Nat, k ≤ n ∧ i = .int .i64 k ∧ Hid (∀ j, j < k → atL x y j = 42 → shQ (j + 1) x y = (a, b)) ∧ PS w wr a b x y (shQ k x y).1 (shQ k x y).2) (fun i _ => n - (intOf i).toNat)
  case atStart => exact ⟨0, by omega, rfl, Lib.hid (fun j h => absurd h (by omega)), by rw [H0.out]; exact P0⟩
  case round =>
    clear P0
    obtain ⟨k, hk, rfl, HY, P⟩ := hrel
    by_cases hlt : k < n
    · have HSk := Lib.hid (HS.out k)
      have HAk := Lib.hid (HA.out k)
      have hne := HN.out k
      obtain ⟨X, hX⟩ : ∃ X, (shQ k x y).1 = X := ⟨_, rfl⟩
      obtain ⟨Y, hY⟩ : ∃ Y, (shQ k x y).2 = Y := ⟨_, rfl⟩
      obtain ⟨X', hX'⟩ : ∃ X, (shQ (k + 1) x y).1 = X := ⟨_, rfl⟩
      obtain ⟨Y', hY'⟩ : ∃ Y, (shQ (k + 1) x y).2 = Y := ⟨_, rfl⟩
      have HXY : Hid (shQ (k + 1) x y = (X', Y')) := Lib.hid (by rw [← hX', ← hY'])
      rw [hX, hY] at HSk HAk P
      rw [hX', hY'] at hne HSk
      clear hX hY hX' hY'
      obtain ⟨⟨B, z, v0, v1, s0, s1⟩, z2, n0, n1, f0, f1⟩ := id P
      go_wp2_with fail
      refine (HSk.out _).mono ?_
      rintro e w2 ⟨rfl, hb2⟩
      have P2 := P.on hb2
      clear f0 f1 n0 n1 v0 v1 s0 s1 z z2 B hb2 P
      obtain ⟨⟨B, z, v0, v1, s0, s1⟩, z2, n0, n1, f0, f1⟩ := id P2
      go_wp2_with fail
      refine (HAk.out _).mono ?_
      rintro e w3 ⟨rfl, hb3⟩
      have B23 : Below w2.heap.size w2 w3 := by
        (repeat' (first | (with_reducible exact Below.refl _ _) | (with_reducible assumption) | (with_reducible refine belowNext ?_ (by with_reducible assumption)) | (with_reducible refine belowAlloc ?_ _) | (with_reducible refine Below.drew ?_) | (with_reducible refine below_drewN ?_ _) | (with_reducible refine Below.setCell ?_ ?_ _) | go_size | (with_reducible refine sizeOf' ?_) | (with_reducible refine sizeAdd ?_) | (dsimp only; first | (with_reducible refine sizeOf' ?_) | (with_reducible refine sizeAdd ?_))))
      have P3 := P2.on B23
      have g0 : w3.cell? ⟨w2.heap.size, 0, none⟩ = some (.string (bs X')) := cellThru hb3 (by simp) (by simp [go_sem])
      have g1 : w3.cell? ⟨w2.heap.size, 1, none⟩ = some (.string (bs Y')) := cellThru hb3 (by simp) (by simp [go_sem])
      clear f0 f1 n0 n1 v0 v1 s0 s1 z z2 B hb3 P2 B23
      obtain ⟨⟨B, z, v0, v1, s0, s1⟩, z2, n0, n1, f0, f1⟩ := id P3
      have PP := Lib.hid (P3.put X' Y')
      have BB := Lib.hid B
      clear B P3
      by_cases h42 : atL x y k = 42
      · have hL := num42.1 h42
        have H42 := Lib.hid h42
        rw [hL]
        clear hL h42
        obtain ⟨q, hq⟩ : ∃ q, ((X', Y') == (a, b)) = q := ⟨_, rfl⟩
        rw [hq] at hne
        have HQ := Lib.hid hq
        clear hq
        cases q
        · have HN : Hid (R = false) := Lib.hid (by
            cases hR : R
            · rfl
            · have := HF.out.1 hR k hlt H42.out
              rw [HXY.out] at this
              have h2 := HQ.out
              rw [this] at h2
              simp at h2)
          go_wp2
          go_ret
          exact ⟨retBQ HN.out.symm, BB.out⟩
        · go_wp2
          go_roundw
          case rel => exact ⟨k + 1, by omega, by go_num, Lib.hid (fun j hj h => by
            by_cases e : j = k
            · rw [e, HXY.out]; exact eq_of_beq HQ.out
            · exact HY.out j (by omega) h), by rw [HXY.out]; exact PP.out⟩
          case measure => simp [intOf]; omega
      · obtain ⟨n1', n2'⟩ := num42.2 h42
        have H42 := Lib.hid h42
        generalize ((atL x y k).toNat : Int) = L at *
        clear h42
        go_wp2
        go_roundw
        case rel => exact ⟨k + 1, by omega, by go_num, Lib.hid (fun j hj h => by
          by_cases e : j = k
          · exact absurd (e ▸ h) H42.out
          · exact HY.out j (by omega) h), by rw [HXY.out]; exact PP.out⟩
        case measure => simp [intOf]; omega
    · have HR : Hid (R = true) := Lib.hid (HF.out.2 (fun j hj => HY.out j (by omega)))
      obtain rfl : k = n := by omega
      obtain ⟨⟨B, z, v0, v1, s0, s1⟩, z2, n0, n1, f0, f1⟩ := id P
      go_wp2
      go_ret
      exact ⟨retBQ HR.out.symm, B⟩
end Go.Proofs.YtomcmjnhfloeeaaDoor

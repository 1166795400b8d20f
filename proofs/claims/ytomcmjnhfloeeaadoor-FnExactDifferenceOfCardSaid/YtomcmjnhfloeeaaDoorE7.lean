/-
  Contracts: DifferenceOf, on both sides; the walk of its law; written by genE7.py.
-/
import Derived.Test.YtomcmjnhfloeeaaDoorE6
import Derived.Test.YtomcmjnhfloeeaaDoorE4
namespace Go.Proofs.YtomcmjnhfloeeaaDoor
open Go.RowKit

/-- What is looked for, and what is found: the number of the first letter in which the sequences differ, counted from 1, or 0. -/
def DifIs (x y a b : Wd) (D : Int) : Prop :=
  (∃ k, k < max x.length a.length + y.length * b.length ∧ FirstD x y a b k ∧ D = (k : Int) + 1) ∨ ((∀ j, atL x y j = atL a b j) ∧ D = 0)

set_option maxRecDepth 8000 in
set_option maxHeartbeats 4000000 in
theorem specDif (x y a b : Wd) (w : World) (D : Int) (h1 : 0 < y.length) (h2 : x.length + y.length ≤ 64) (h3 : 0 < b.length) (h4 : a.length + b.length ≤ 64) (hD : DifIs x y a b D) :
    Calls Tryd.prog 42 #[sqV x y, sqV a b] w fun e w' => e = .returned (.int .i64 D) ∧ Below w.heap.size w w' := by
  have hxl := fun W => lenS 9 3 x Tryd.underlying9 W
  have hyl := fun W => lenS 9 3 y Tryd.underlying9 W
  have hal := fun W => lenS 9 3 a Tryd.underlying9 W
  have hbl := fun W => lenS 9 3 b Tryd.underlying9 W
  have hmul : y.length * b.length ≤ 64 * 64 := Nat.mul_le_mul (by omega) (by omega)
  obtain ⟨n, hn⟩ : ∃ n, max x.length a.length + y.length * b.length = n := ⟨_, rfl⟩
  have hn5 : n ≤ 5000 := by omega
  have HX := Lib.hid (fun (k : Nat) (hk : k ≤ 1000000) w => specAt x y k (k : Int) rfl w hk h1 h2)
  have HY := Lib.hid (fun (k : Nat) (hk : k ≤ 1000000) w => specAt a b k (k : Int) rfl w hk h3 h4)
  change Hid (∀ (k : Nat) (_ : k ≤ 1000000) w, Calls Tryd.prog 67 #[sqV x y, .int .i64 (k : Int)] w fun e w' => e = .returned (.int .u8 ((atL x y k).toNat : Int)) ∧ Below w.heap.size w w') at HX
  change Hid (∀ (k : Nat) (_ : k ≤ 1000000) w, Calls Tryd.prog 67 #[sqV a b, .int .i64 (k : Int)] w fun e w' => e = .returned (.int .u8 ((atL a b k).toNat : Int)) ∧ Below w.heap.size w w') at HY
  have HD := Lib.hid hD
  unfold DifIs at HD
  rw [hn] at HD
  have hM : ((y.length : Int) * (b.length : Int)) = ((y.length * b.length : Nat) : Int) := (Int.natCast_mul ..).symm
  obtain ⟨M, hMM⟩ : ∃ M : Int, (y.length : Int) * (b.length : Int) = M := ⟨_, rfl⟩
  rw [hMM] at hM
  have wm : wrap64 ((y.length : Int) * (b.length : Int)) = M := by rw [hMM]; unfold wrap64; omega
  have hnI : max (x.length : Int) (a.length : Int) + M = (n : Int) := by omega
  have wa : wrap64 (max (x.length : Int) (a.length : Int) + M) = (n : Int) := by rw [hnI]; unfold wrap64; omega
  have K0 := pq0 w x y a b 25 25
  clear hD h1 h2 h3 h4 hn hmul hM hMM hnI
  generalize (x.length : Int) = lx at *
  generalize (y.length : Int) = ly at *
  generalize (a.length : Int) = la at *
  generalize (b.length : Int) = lb at *
  go_enter Tryd.func42, Tryd.ntmps42
  go_wp2
  simp only [wm, wa]
  clear wm wa hxl hyl hal hbl
  go_loopw [6] (fun i wr => ∃ k : Nat, k ≤ n ∧ i = .int .i64 k ∧ Hid (∀ j, j < k → atL x y j = atL a b j) ∧ PQ w wr x y a b) (fun i _ => n - (intOf i).toNat)
  case atStart => exact ⟨0, by omega, rfl, Lib.hid (fun j h => absurd h (by omega)), K0⟩
  case round =>
    clear K0
    obtain ⟨k, hk, rfl, HE, K⟩ := hrel
    by_cases hlt : k < n
    · have HXk := Lib.hid (HX.out k (by omega))
      have HYk := Lib.hid (HY.out k (by omega))
      have w1 : IntKind.i64.wrap ((k : Int) + 1) = (k : Int) + 1 := IntWalk.i64_in _ (by omega)
      have hltI : decide ((k : Int) < (n : Int)) = true := decide_eq_true (by omega)
      obtain ⟨B, z, v0, v1, s0, s1⟩ := id K
      by_cases heq : atL x y k = atL a b k
      · have HQ := Lib.hid heq
        rw [heq] at HXk
        generalize ((atL a b k).toNat : Int) = L at *
        clear heq
        go_wp2_with fail
        refine wp_region_any (by kernel_rfl) ?_
        try (change wpAny _ _ _ _ _ _ _ (World.drew _))
        refine wpAny_take (i := 1) (v := ?_) rfl (by kernel_rfl) (by kernel_rfl) (by kernel_rfl) (fun _ _ _ h => h) (Or.inl ⟨by kernel_rfl, ?_⟩) ?_
        rotate_left
        · intro w; first | (go_simp; done) | (go_simp; with_reducible rfl)
        refine wpAny_take (i := 4) (v := ?_) rfl (by kernel_rfl) (by kernel_rfl) (by kernel_rfl) (fun _ _ _ h => h) (Or.inl ⟨by kernel_rfl, ?_⟩) ?_
        rotate_left
        · intro w; first | (go_simp; done) | (go_simp; with_reducible rfl)
        refine wpAny_ready (rs := [0, 3]) (by kernel_rfl) (by simp) ?_
        refine AllReady.cons rfl (fun K hK => ?_) (AllReady.cons rfl (fun K hK => ?_) (AllReady.nil))
        · go_simp
          refine hK _ _ ?_
          clear hK K
          refine wpAny_ready (rs := [2, 3]) (by kernel_rfl) (by simp) ?_
          refine AllReady.cons rfl (fun K hK => ?_) (AllReady.cons rfl (fun K hK => ?_) (AllReady.nil))
          · go_simp
            go_wp2_with (go_at_call 67; (with_reducible refine (HXk.out _).mono ?_); rintro e w3 ⟨rfl, hb3⟩)
            have B3 : Below wr.heap.size wr w3 := by
              (repeat' (first | (with_reducible exact Below.refl _ _) | (with_reducible assumption) | (with_reducible refine belowNext ?_ (by with_reducible assumption)) | (with_reducible refine belowAlloc ?_ _) | (with_reducible refine Below.drew ?_) | (with_reducible refine below_drewN ?_ _) | (with_reducible refine Below.setCell ?_ ?_ _) | go_size | (with_reducible refine sizeOf' ?_) | (with_reducible refine sizeAdd ?_) | (dsimp only; first | (with_reducible refine sizeOf' ?_) | (with_reducible refine sizeAdd ?_))))
            have K3 := K.on B3
            clear v0 v1 s0 s1 B z hb3
            obtain ⟨B, z, v0, v1, s0, s1⟩ := id K3
            refine wpAny_ready (rs := [3]) (by kernel_rfl) (by simp) ?_
            refine AllReady.cons rfl (fun K hK => ?_) (AllReady.nil)
            go_simp
            refine hK _ _ ?_
            clear hK K
            refine wpAny_ready (rs := [5]) (by kernel_rfl) (by simp) ?_
            refine AllReady.cons rfl (fun K hK => ?_) (AllReady.nil)
            go_simp
            go_wp2_with (go_at_call 67; (with_reducible refine (HYk.out _).mono ?_); rintro e w4 ⟨rfl, hb4⟩)
            have B4 : Below w3.heap.size w3 w4 := by
              (repeat' (first | (with_reducible exact Below.refl _ _) | (with_reducible assumption) | (with_reducible refine belowNext ?_ (by with_reducible assumption)) | (with_reducible refine belowAlloc ?_ _) | (with_reducible refine Below.drew ?_) | (with_reducible refine below_drewN ?_ _) | (with_reducible refine Below.setCell ?_ ?_ _) | go_size | (with_reducible refine sizeOf' ?_) | (with_reducible refine sizeAdd ?_) | (dsimp only; first | (with_reducible refine sizeOf' ?_) | (with_reducible refine sizeAdd ?_))))
            have K4 := K3.on B4
            clear v0 v1 s0 s1 B z hb4
            obtain ⟨B, z, v0, v1, s0, s1⟩ := id K4
            refine wpAny_take (i := 6) (v := ?_) rfl (by kernel_rfl) (by kernel_rfl) (by kernel_rfl) (fun _ _ _ h => h) (Or.inl ⟨by kernel_rfl, ?_⟩) ?_
            rotate_left
            · intro w; first | (go_simp; done) | (go_simp; with_reducible rfl)
            refine wpAny_done (by kernel_rfl) ?_ _
            go_wp2
            go_roundw
            case rel => exact ⟨k + 1, by omega, by go_num, Lib.hid (fun j hj => by
              by_cases e : j = k
              · rw [e]; exact HQ.out
              · exact HE.out j (by omega)), K4⟩
            case measure => simp [intOf]; omega
          · go_simp
            refine hK _ _ ?_
            clear hK K
            refine wpAny_ready (rs := [2]) (by kernel_rfl) (by simp) ?_
            refine AllReady.cons rfl (fun K hK => ?_) (AllReady.nil)
            go_simp
            go_wp2_with (go_at_call 67; (with_reducible refine (HXk.out _).mono ?_); rintro e w3 ⟨rfl, hb3⟩)
            have B3 : Below wr.heap.size wr w3 := by
              (repeat' (first | (with_reducible exact Below.refl _ _) | (with_reducible assumption) | (with_reducible refine belowNext ?_ (by with_reducible assumption)) | (with_reducible refine belowAlloc ?_ _) | (with_reducible refine Below.drew ?_) | (with_reducible refine below_drewN ?_ _) | (with_reducible refine Below.setCell ?_ ?_ _) | go_size | (with_reducible refine sizeOf' ?_) | (with_reducible refine sizeAdd ?_) | (dsimp only; first | (with_reducible refine sizeOf' ?_) | (with_reducible refine sizeAdd ?_))))
            have K3 := K.on B3
            clear v0 v1 s0 s1 B z hb3
            obtain ⟨B, z, v0, v1, s0, s1⟩ := id K3
            refine wpAny_ready (rs := [5]) (by kernel_rfl) (by simp) ?_
            refine AllReady.cons rfl (fun K hK => ?_) (AllReady.nil)
            go_simp
            go_wp2_with (go_at_call 67; (with_reducible refine (HYk.out _).mono ?_); rintro e w4 ⟨rfl, hb4⟩)
            have B4 : Below w3.heap.size w3 w4 := by
              (repeat' (first | (with_reducible exact Below.refl _ _) | (with_reducible assumption) | (with_reducible refine belowNext ?_ (by with_reducible assumption)) | (with_reducible refine belowAlloc ?_ _) | (with_reducible refine Below.drew ?_) | (with_reducible refine below_drewN ?_ _) | (with_reducible refine Below.setCell ?_ ?_ _) | go_size | (with_reducible refine sizeOf' ?_) | (with_reducible refine sizeAdd ?_) | (dsimp only; first | (with_reducible refine sizeOf' ?_) | (with_reducible refine sizeAdd ?_))))
            have K4 := K3.on B4
            clear v0 v1 s0 s1 B z hb4
            obtain ⟨B, z, v0, v1, s0, s1⟩ := id K4
            refine wpAny_take (i := 6) (v := ?_) rfl (by kernel_rfl) (by kernel_rfl) (by kernel_rfl) (fun _ _ _ h => h) (Or.inl ⟨by kernel_rfl, ?_⟩) ?_
            rotate_left
            · intro w; first | (go_simp; done) | (go_simp; with_reducible rfl)
            refine wpAny_done (by kernel_rfl) ?_ _
            go_wp2
            go_roundw
            case rel => exact ⟨k + 1, by omega, by go_num, Lib.hid (fun j hj => by
              by_cases e : j = k
              · rw [e]; exact HQ.out
              · exact HE.out j (by omega)), K4⟩
            case measure => simp [intOf]; omega
        · go_simp
          refine hK _ _ ?_
          clear hK K
          refine wpAny_ready (rs := [0]) (by kernel_rfl) (by simp) ?_
          refine AllReady.cons rfl (fun K hK => ?_) (AllReady.nil)
          go_simp
          refine hK _ _ ?_
          clear hK K
          refine wpAny_ready (rs := [2]) (by kernel_rfl) (by simp) ?_
          refine AllReady.cons rfl (fun K hK => ?_) (AllReady.nil)
          go_simp
          go_wp2_with (go_at_call 67; (with_reducible refine (HXk.out _).mono ?_); rintro e w3 ⟨rfl, hb3⟩)
          have B3 : Below wr.heap.size wr w3 := by
            (repeat' (first | (with_reducible exact Below.refl _ _) | (with_reducible assumption) | (with_reducible refine belowNext ?_ (by with_reducible assumption)) | (with_reducible refine belowAlloc ?_ _) | (with_reducible refine Below.drew ?_) | (with_reducible refine below_drewN ?_ _) | (with_reducible refine Below.setCell ?_ ?_ _) | go_size | (with_reducible refine sizeOf' ?_) | (with_reducible refine sizeAdd ?_) | (dsimp only; first | (with_reducible refine sizeOf' ?_) | (with_reducible refine sizeAdd ?_))))
          have K3 := K.on B3
          clear v0 v1 s0 s1 B z hb3
          obtain ⟨B, z, v0, v1, s0, s1⟩ := id K3
          refine wpAny_ready (rs := [5]) (by kernel_rfl) (by simp) ?_
          refine AllReady.cons rfl (fun K hK => ?_) (AllReady.nil)
          go_simp
          go_wp2_with (go_at_call 67; (with_reducible refine (HYk.out _).mono ?_); rintro e w4 ⟨rfl, hb4⟩)
          have B4 : Below w3.heap.size w3 w4 := by
            (repeat' (first | (with_reducible exact Below.refl _ _) | (with_reducible assumption) | (with_reducible refine belowNext ?_ (by with_reducible assumption)) | (with_reducible refine belowAlloc ?_ _) | (with_reducible refine Below.drew ?_) | (with_reducible refine below_drewN ?_ _) | (with_reducible refine Below.setCell ?_ ?_ _) | go_size | (with_reducible refine sizeOf' ?_) | (with_reducible refine sizeAdd ?_) | (dsimp only; first | (with_reducible refine sizeOf' ?_) | (with_reducible refine sizeAdd ?_))))
          have K4 := K3.on B4
          clear v0 v1 s0 s1 B z hb4
          obtain ⟨B, z, v0, v1, s0, s1⟩ := id K4
          refine wpAny_take (i := 6) (v := ?_) rfl (by kernel_rfl) (by kernel_rfl) (by kernel_rfl) (fun _ _ _ h => h) (Or.inl ⟨by kernel_rfl, ?_⟩) ?_
          rotate_left
          · intro w; first | (go_simp; done) | (go_simp; with_reducible rfl)
          refine wpAny_done (by kernel_rfl) ?_ _
          go_wp2
          go_roundw
          case rel => exact ⟨k + 1, by omega, by go_num, Lib.hid (fun j hj => by
            by_cases e : j = k
            · rw [e]; exact HQ.out
            · exact HE.out j (by omega)), K4⟩
          case measure => simp [intOf]; omega
      · have hne : (((atL x y k).toNat : Int) == ((atL a b k).toNat : Int)) = false := by
          rw [byte_eq]; exact beq_eq_false_iff_ne.2 heq
        have HR : Hid (D = (k : Int) + 1) := Lib.hid (by
          rcases HD.out with ⟨k', -, hf, e⟩ | ⟨h, -⟩
          · rw [first_one hf ⟨HE.out, heq⟩] at e; exact e
          · exact absurd (h k) heq)
        generalize ((atL x y k).toNat : Int) = L1 at *
        generalize ((atL a b k).toNat : Int) = L2 at *
        clear heq
        go_wp2_with fail
        refine wp_region_any (by kernel_rfl) ?_
        try (change wpAny _ _ _ _ _ _ _ (World.drew _))
        refine wpAny_take (i := 1) (v := ?_) rfl (by kernel_rfl) (by kernel_rfl) (by kernel_rfl) (fun _ _ _ h => h) (Or.inl ⟨by kernel_rfl, ?_⟩) ?_
        rotate_left
        · intro w; first | (go_simp; done) | (go_simp; with_reducible rfl)
        refine wpAny_take (i := 4) (v := ?_) rfl (by kernel_rfl) (by kernel_rfl) (by kernel_rfl) (fun _ _ _ h => h) (Or.inl ⟨by kernel_rfl, ?_⟩) ?_
        rotate_left
        · intro w; first | (go_simp; done) | (go_simp; with_reducible rfl)
        refine wpAny_ready (rs := [0, 3]) (by kernel_rfl) (by simp) ?_
        refine AllReady.cons rfl (fun K hK => ?_) (AllReady.cons rfl (fun K hK => ?_) (AllReady.nil))
        · go_simp
          refine hK _ _ ?_
          clear hK K
          refine wpAny_ready (rs := [2, 3]) (by kernel_rfl) (by simp) ?_
          refine AllReady.cons rfl (fun K hK => ?_) (AllReady.cons rfl (fun K hK => ?_) (AllReady.nil))
          · go_simp
            go_wp2_with (go_at_call 67; (with_reducible refine (HXk.out _).mono ?_); rintro e w3 ⟨rfl, hb3⟩)
            have B3 : Below wr.heap.size wr w3 := by
              (repeat' (first | (with_reducible exact Below.refl _ _) | (with_reducible assumption) | (with_reducible refine belowNext ?_ (by with_reducible assumption)) | (with_reducible refine belowAlloc ?_ _) | (with_reducible refine Below.drew ?_) | (with_reducible refine below_drewN ?_ _) | (with_reducible refine Below.setCell ?_ ?_ _) | go_size | (with_reducible refine sizeOf' ?_) | (with_reducible refine sizeAdd ?_) | (dsimp only; first | (with_reducible refine sizeOf' ?_) | (with_reducible refine sizeAdd ?_))))
            have K3 := K.on B3
            clear v0 v1 s0 s1 B z hb3
            obtain ⟨B, z, v0, v1, s0, s1⟩ := id K3
            refine wpAny_ready (rs := [3]) (by kernel_rfl) (by simp) ?_
            refine AllReady.cons rfl (fun K hK => ?_) (AllReady.nil)
            go_simp
            refine hK _ _ ?_
            clear hK K
            refine wpAny_ready (rs := [5]) (by kernel_rfl) (by simp) ?_
            refine AllReady.cons rfl (fun K hK => ?_) (AllReady.nil)
            go_simp
            go_wp2_with (go_at_call 67; (with_reducible refine (HYk.out _).mono ?_); rintro e w4 ⟨rfl, hb4⟩)
            have B4 : Below w3.heap.size w3 w4 := by
              (repeat' (first | (with_reducible exact Below.refl _ _) | (with_reducible assumption) | (with_reducible refine belowNext ?_ (by with_reducible assumption)) | (with_reducible refine belowAlloc ?_ _) | (with_reducible refine Below.drew ?_) | (with_reducible refine below_drewN ?_ _) | (with_reducible refine Below.setCell ?_ ?_ _) | go_size | (with_reducible refine sizeOf' ?_) | (with_reducible refine sizeAdd ?_) | (dsimp only; first | (with_reducible refine sizeOf' ?_) | (with_reducible refine sizeAdd ?_))))
            have K4 := K3.on B4
            clear v0 v1 s0 s1 B z hb4
            obtain ⟨B, z, v0, v1, s0, s1⟩ := id K4
            refine wpAny_take (i := 6) (v := ?_) rfl (by kernel_rfl) (by kernel_rfl) (by kernel_rfl) (fun _ _ _ h => h) (Or.inl ⟨by kernel_rfl, ?_⟩) ?_
            rotate_left
            · intro w; first | (go_simp; done) | (go_simp; with_reducible rfl)
            refine wpAny_done (by kernel_rfl) ?_ _
            go_wp2
            go_ret
            exact ⟨by rw [HR.out]; rfl, K4.B⟩
          · go_simp
            refine hK _ _ ?_
            clear hK K
            refine wpAny_ready (rs := [2]) (by kernel_rfl) (by simp) ?_
            refine AllReady.cons rfl (fun K hK => ?_) (AllReady.nil)
            go_simp
            go_wp2_with (go_at_call 67; (with_reducible refine (HXk.out _).mono ?_); rintro e w3 ⟨rfl, hb3⟩)
            have B3 : Below wr.heap.size wr w3 := by
              (repeat' (first | (with_reducible exact Below.refl _ _) | (with_reducible assumption) | (with_reducible refine belowNext ?_ (by with_reducible assumption)) | (with_reducible refine belowAlloc ?_ _) | (with_reducible refine Below.drew ?_) | (with_reducible refine below_drewN ?_ _) | (with_reducible refine Below.setCell ?_ ?_ _) | go_size | (with_reducible refine sizeOf' ?_) | (with_reducible refine sizeAdd ?_) | (dsimp only; first | (with_reducible refine sizeOf' ?_) | (with_reducible refine sizeAdd ?_))))
            have K3 := K.on B3
            clear v0 v1 s0 s1 B z hb3
            obtain ⟨B, z, v0, v1, s0, s1⟩ := id K3
            refine wpAny_ready (rs := [5]) (by kernel_rfl) (by simp) ?_
            refine AllReady.cons rfl (fun K hK => ?_) (AllReady.nil)
            go_simp
            go_wp2_with (go_at_call 67; (with_reducible refine (HYk.out _).mono ?_); rintro e w4 ⟨rfl, hb4⟩)
            have B4 : Below w3.heap.size w3 w4 := by
              (repeat' (first | (with_reducible exact Below.refl _ _) | (with_reducible assumption) | (with_reducible refine belowNext ?_ (by with_reducible assumption)) | (with_reducible refine belowAlloc ?_ _) | (with_reducible refine Below.drew ?_) | (with_reducible refine below_drewN ?_ _) | (with_reducible refine Below.setCell ?_ ?_ _) | go_size | (with_reducible refine sizeOf' ?_) | (with_reducible refine sizeAdd ?_) | (dsimp only; first | (with_reducible refine sizeOf' ?_) | (with_reducible refine sizeAdd ?_))))
            have K4 := K3.on B4
            clear v0 v1 s0 s1 B z hb4
            obtain ⟨B, z, v0, v1, s0, s1⟩ := id K4
            refine wpAny_take (i := 6) (v := ?_) rfl (by kernel_rfl) (by kernel_rfl) (by kernel_rfl) (fun _ _ _ h => h) (Or.inl ⟨by kernel_rfl, ?_⟩) ?_
            rotate_left
            · intro w; first | (go_simp; done) | (go_simp; with_reducible rfl)
            refine wpAny_done (by kernel_rfl) ?_ _
            go_wp2
            go_ret
            exact ⟨by rw [HR.out]; rfl, K4.B⟩
        · go_simp
          refine hK _ _ ?_
          clear hK K
          refine wpAny_ready (rs := [0]) (by kernel_rfl) (by simp) ?_
          refine AllReady.cons rfl (fun K hK => ?_) (AllReady.nil)
          go_simp
          refine hK _ _ ?_
          clear hK K
          refine wpAny_ready (rs := [2]) (by kernel_rfl) (by simp) ?_
          refine AllReady.cons rfl (fun K hK => ?_) (AllReady.nil)
          go_simp
          go_wp2_with (go_at_call 67; (with_reducible refine (HXk.out _).mono ?_); rintro e w3 ⟨rfl, hb3⟩)
          have B3 : Below wr.heap.size wr w3 := by
            (repeat' (first | (with_reducible exact Below.refl _ _) | (with_reducible assumption) | (with_reducible refine belowNext ?_ (by with_reducible assumption)) | (with_reducible refine belowAlloc ?_ _) | (with_reducible refine Below.drew ?_) | (with_reducible refine below_drewN ?_ _) | (with_reducible refine Below.setCell ?_ ?_ _) | go_size | (with_reducible refine sizeOf' ?_) | (with_reducible refine sizeAdd ?_) | (dsimp only; first | (with_reducible refine sizeOf' ?_) | (with_reducible refine sizeAdd ?_))))
          have K3 := K.on B3
          clear v0 v1 s0 s1 B z hb3
          obtain ⟨B, z, v0, v1, s0, s1⟩ := id K3
          refine wpAny_ready (rs := [5]) (by kernel_rfl) (by simp) ?_
          refine AllReady.cons rfl (fun K hK => ?_) (AllReady.nil)
          go_simp
          go_wp2_with (go_at_call 67; (with_reducible refine (HYk.out _).mono ?_); rintro e w4 ⟨rfl, hb4⟩)
          have B4 : Below w3.heap.size w3 w4 := by
            (repeat' (first | (with_reducible exact Below.refl _ _) | (with_reducible assumption) | (with_reducible refine belowNext ?_ (by with_reducible assumption)) | (with_reducible refine belowAlloc ?_ _) | (with_reducible refine Below.drew ?_) | (with_reducible refine below_drewN ?_ _) | (with_reducible refine Below.setCell ?_ ?_ _) | go_size | (with_reducible refine sizeOf' ?_) | (with_reducible refine sizeAdd ?_) | (dsimp only; first | (with_reducible refine sizeOf' ?_) | (with_reducible refine sizeAdd ?_))))
          have K4 := K3.on B4
          clear v0 v1 s0 s1 B z hb4
          obtain ⟨B, z, v0, v1, s0, s1⟩ := id K4
          refine wpAny_take (i := 6) (v := ?_) rfl (by kernel_rfl) (by kernel_rfl) (by kernel_rfl) (fun _ _ _ h => h) (Or.inl ⟨by kernel_rfl, ?_⟩) ?_
          rotate_left
          · intro w; first | (go_simp; done) | (go_simp; with_reducible rfl)
          refine wpAny_done (by kernel_rfl) ?_ _
          go_wp2
          go_ret
          exact ⟨by rw [HR.out]; rfl, K4.B⟩
    · have HR : Hid (D = 0) := Lib.hid (by
        rcases HD.out with ⟨k', hk', hf, -⟩ | ⟨-, h⟩
        · exact absurd (HE.out k' (by omega)) hf.2
        · exact h)
      obtain rfl : k = n := by omega
      obtain ⟨B, z, v0, v1, s0, s1⟩ := id K
      go_wp2
      go_ret
      exact ⟨by rw [HR.out]; rfl, B⟩


/-- What DifferenceOf answers. -/
def DfIs (a b x y : Wd) (N C : Int) : Prop :=
  ((isSeq a b = false ∨ isSeq x y = false) ∧ N = 0 ∧ C = 1) ∨ (isSeq a b = true ∧ isSeq x y = true ∧ ((((a, b) == (x, y)) = true ∧ N = 0 ∧ C = 4) ∨ (((a, b) == (x, y)) = false ∧ (∃ k, k < max a.length x.length + b.length * y.length ∧ FirstD a b x y k ∧ N = (k : Int) + 1) ∧ C = 0)))
theorem df_ex (a b x y : Wd) : ∃ N C, DfIs a b x y N C := by
  cases h1 : isSeq a b
  · exact ⟨0, 1, .inl ⟨.inl h1, rfl, rfl⟩⟩
  · cases h2 : isSeq x y
    · exact ⟨0, 1, .inl ⟨.inr h2, rfl, rfl⟩⟩
    · rcases first_of h1 h2 with ⟨rfl, rfl⟩ | ⟨k, hk, hf⟩
      · exact ⟨0, 4, .inr ⟨h1, h2, .inl ⟨by simp, rfl, rfl⟩⟩⟩
      · refine ⟨(k : Int) + 1, 0, .inr ⟨h1, h2, .inr ⟨?_, ⟨k, hk, hf, rfl⟩, rfl⟩⟩⟩
        cases he : ((a, b) == (x, y))
        · rfl
        · have := eq_of_beq he
          injection this with e1 e2
          subst e1 e2
          exact absurd rfl hf.2

set_option maxHeartbeats 2000000 in
theorem implDf (a b x y : Wd) (w : World) (hab : a.length + b.length ≤ 1048576) (hxy : x.length + y.length ≤ 1048576) (N C : Int) (hd : DfIs a b x y N C) :
    Calls Tryd.prog 17 #[sqV a b, sqV x y] w fun e w' => e = .returned (.tuple #[.int .i64 N, .int .i64 C]) ∧ Below w.heap.size w w' := by
  have H1 := Lib.hid (fun w => implIsSeq a b w hab)
  have H2 := Lib.hid (fun w => implIsSeq x y w hxy)
  have K0 := pq0 w a b x y 25 25
  clear hab hxy
  cases h1 : isSeq a b
  · obtain ⟨rfl, rfl⟩ : N = 0 ∧ C = 1 := by
      rcases hd with ⟨-, h⟩ | ⟨h, -⟩
      · exact h
      · rw [h1] at h; cases h
    rw [h1] at H1
    clear h1 H2 hd
    go_enter Tryd.func17, Tryd.ntmps17
    obtain ⟨B, z, v0, v1, s0, s1⟩ := id K0
    go_wp2_with fail
    refine (H1.out _).mono ?_
    rintro e w1 ⟨rfl, hb1⟩
    have K1 := K0.on hb1
    go_wp2
    go_ret2
    exact ⟨rfl, K1.B⟩
  · cases h2 : isSeq x y
    · obtain ⟨rfl, rfl⟩ : N = 0 ∧ C = 1 := by
        rcases hd with ⟨-, h⟩ | ⟨-, h, -⟩
        · exact h
        · rw [h2] at h; cases h
      rw [h1] at H1
      rw [h2] at H2
      clear h1 h2 hd
      go_enter Tryd.func17, Tryd.ntmps17
      obtain ⟨B, z, v0, v1, s0, s1⟩ := id K0
      go_wp2_with fail
      refine (H1.out _).mono ?_
      rintro e w1 ⟨rfl, hb1⟩
      have K1 := K0.on hb1
      clear v0 v1 s0 s1 B z
      obtain ⟨B, z, v0, v1, s0, s1⟩ := id K1
      go_wp2_with fail
      refine (H2.out _).mono ?_
      rintro e w2 ⟨rfl, hb2⟩
      have K2 := K1.on hb2
      go_wp2
      go_ret2
      exact ⟨rfl, K2.B⟩
    · have hd2 := (hd.resolve_left (fun h => by rcases h.1 with h | h <;> simp_all)).2.2
      rcases hd2 with ⟨he, rfl, rfl⟩ | ⟨he, ⟨k, hk, hf, rfl⟩, rfl⟩
      · have Q := fun W => eqlSq a b x y W
        rw [he] at Q
        rw [h1] at H1
        rw [h2] at H2
        clear h1 h2 hd he
        go_enter Tryd.func17, Tryd.ntmps17
        obtain ⟨B, z, v0, v1, s0, s1⟩ := id K0
        go_wp2_with fail
        refine (H1.out _).mono ?_
        rintro e w1 ⟨rfl, hb1⟩
        have K1 := K0.on hb1
        clear v0 v1 s0 s1 B z
        obtain ⟨B, z, v0, v1, s0, s1⟩ := id K1
        go_wp2_with fail
        refine (H2.out _).mono ?_
        rintro e w2 ⟨rfl, hb2⟩
        have K2 := K1.on hb2
        clear v0 v1 s0 s1 B z
        obtain ⟨B, z, v0, v1, s0, s1⟩ := id K2
        go_wp2
        go_ret2
        exact ⟨rfl, K2.B⟩
      · have Q := fun W => eqlSq a b x y W
        rw [he] at Q
        have HF := Lib.hid (fun w => implFirst a b x y w k (isSeq_yes h1).2.2.1 (isSeq_yes h1).2.2.2.1 (isSeq_yes h2).2.2.1 (isSeq_yes h2).2.2.2.1 hf (first_small h1 h2 hk))
        rw [h1] at H1
        rw [h2] at H2
        clear h1 h2 hd he hk hf
        go_enter Tryd.func17, Tryd.ntmps17
        obtain ⟨B, z, v0, v1, s0, s1⟩ := id K0
        go_wp2_with fail
        refine (H1.out _).mono ?_
        rintro e w1 ⟨rfl, hb1⟩
        have K1 := K0.on hb1
        clear v0 v1 s0 s1 B z
        obtain ⟨B, z, v0, v1, s0, s1⟩ := id K1
        go_wp2_with fail
        refine (H2.out _).mono ?_
        rintro e w2 ⟨rfl, hb2⟩
        have K2 := K1.on hb2
        clear v0 v1 s0 s1 B z
        obtain ⟨B, z, v0, v1, s0, s1⟩ := id K2
        go_wp2_with fail
        refine (HF.out _).mono ?_
        rintro e w3 ⟨rfl, hb3⟩
        have K3 := K2.on hb3
        go_wp2
        go_ret2
        exact ⟨rfl, K3.B⟩

set_option maxHeartbeats 2000000 in
theorem specDf (a b x y : Wd) (w : World) (hab : a.length + b.length ≤ 1048576) (hxy : x.length + y.length ≤ 1048576) (N C : Int) (hd : DfIs a b x y N C) :
    Calls Tryd.prog 16 #[sqV a b, sqV x y] w fun e w' => e = .returned (.tuple #[.int .i64 N, .int .i64 C]) ∧ Below w.heap.size w w' := by
  have H1 := Lib.hid (fun w => specL01Seq a b w hab)
  have H2 := Lib.hid (fun w => specL01Seq x y w hxy)
  have K0 := pq0 w a b x y 25 25
  clear hab hxy
  cases h1 : isSeq a b
  · obtain ⟨rfl, rfl⟩ : N = 0 ∧ C = 1 := by
      rcases hd with ⟨-, h⟩ | ⟨h, -⟩
      · exact h
      · rw [h1] at h; cases h
    rw [h1] at H1
    clear h1 H2 hd
    go_enter Tryd.func16, Tryd.ntmps16
    obtain ⟨B, z, v0, v1, s0, s1⟩ := id K0
    go_wp2_with fail
    refine (H1.out _).mono ?_
    rintro e w1 ⟨rfl, hb1⟩
    have K1 := K0.on hb1
    go_wp2
    go_ret2
    exact ⟨rfl, K1.B⟩
  · cases h2 : isSeq x y
    · obtain ⟨rfl, rfl⟩ : N = 0 ∧ C = 1 := by
        rcases hd with ⟨-, h⟩ | ⟨-, h, -⟩
        · exact h
        · rw [h2] at h; cases h
      rw [h1] at H1
      rw [h2] at H2
      clear h1 h2 hd
      go_enter Tryd.func16, Tryd.ntmps16
      obtain ⟨B, z, v0, v1, s0, s1⟩ := id K0
      go_wp2_with fail
      refine (H1.out _).mono ?_
      rintro e w1 ⟨rfl, hb1⟩
      have K1 := K0.on hb1
      clear v0 v1 s0 s1 B z
      obtain ⟨B, z, v0, v1, s0, s1⟩ := id K1
      go_wp2_with fail
      refine (H2.out _).mono ?_
      rintro e w2 ⟨rfl, hb2⟩
      have K2 := K1.on hb2
      go_wp2
      go_ret2
      exact ⟨rfl, K2.B⟩
    · have hd2 := (hd.resolve_left (fun h => by rcases h.1 with h | h <;> simp_all)).2.2
      obtain ⟨D, hD, hDN, hz⟩ : ∃ D, DifIs a b x y D ∧ N = D ∧ ((D = 0 ∧ C = 4) ∨ (¬ D = 0 ∧ C = 0)) := by
        rcases hd2 with ⟨he, rfl, rfl⟩ | ⟨he, ⟨k, hk, hf, rfl⟩, rfl⟩
        · have := eq_of_beq he
          injection this with e1 e2
          subst e1 e2
          exact ⟨0, .inr ⟨fun _ => rfl, rfl⟩, rfl, .inl ⟨rfl, rfl⟩⟩
        · exact ⟨_, .inl ⟨k, hk, hf, rfl⟩, rfl, .inr ⟨by omega, rfl⟩⟩
      subst hDN
      have HF := Lib.hid (fun w => specDif a b x y w N (isSeq_yes h1).2.2.1 (isSeq_yes h1).2.2.2.1 (isSeq_yes h2).2.2.1 (isSeq_yes h2).2.2.2.1 hD)
      rw [h1] at H1
      rw [h2] at H2
      clear h1 h2 hd hd2 hD
      rcases hz with ⟨rfl, rfl⟩ | ⟨hz, rfl⟩
      · go_enter Tryd.func16, Tryd.ntmps16
        obtain ⟨B, z, v0, v1, s0, s1⟩ := id K0
        go_wp2_with fail
        refine (H1.out _).mono ?_
        rintro e w1 ⟨rfl, hb1⟩
        have K1 := K0.on hb1
        clear v0 v1 s0 s1 B z
        obtain ⟨B, z, v0, v1, s0, s1⟩ := id K1
        go_wp2_with fail
        refine (H2.out _).mono ?_
        rintro e w2 ⟨rfl, hb2⟩
        have K2 := K1.on hb2
        clear v0 v1 s0 s1 B z
        obtain ⟨B, z, v0, v1, s0, s1⟩ := id K2
        go_wp2_with fail
        refine (HF.out _).mono ?_
        rintro e w3 ⟨rfl, hb3⟩
        have K3 := K2.on hb3
        go_wp2
        go_ret2
        exact ⟨rfl, K3.B⟩
      · have hz2 : (N == 0) = false := beq_eq_false_iff_ne.2 hz
        go_enter Tryd.func16, Tryd.ntmps16
        obtain ⟨B, z, v0, v1, s0, s1⟩ := id K0
        go_wp2_with fail
        refine (H1.out _).mono ?_
        rintro e w1 ⟨rfl, hb1⟩
        have K1 := K0.on hb1
        clear v0 v1 s0 s1 B z
        obtain ⟨B, z, v0, v1, s0, s1⟩ := id K1
        go_wp2_with fail
        refine (H2.out _).mono ?_
        rintro e w2 ⟨rfl, hb2⟩
        have K2 := K1.on hb2
        clear v0 v1 s0 s1 B z
        obtain ⟨B, z, v0, v1, s0, s1⟩ := id K2
        go_wp2_with fail
        refine (HF.out _).mono ?_
        rintro e w3 ⟨rfl, hb3⟩
        have K3 := K2.on hb3
        go_wp2
        go_ret2
        exact ⟨rfl, K3.B⟩

set_option maxRecDepth 8000 in
set_option maxHeartbeats 4000000 in
theorem lawDifferenceOf (a b : Wd) (ha : a.length ≤ maxLen) (hb : b.length ≤ maxLen) (x y : Wd) (hx : x.length ≤ maxLen) (hy : y.length ≤ maxLen) (w : World) :
    Calls Tryd.prog 4 #[sqV a b, sqV x y] w fun e w' => e = .returned (.bool true) ∧ Below w.heap.size w w' := by
  have HZ := Lib.hid (fun w => szSeq a b w (by unfold maxLen at ha; omega) (by unfold maxLen at hb; omega))
  have K0 := pq0 w a b x y 23 23
  rcases szQ_cases a b with h | ⟨h, hab⟩
  · rw [h] at HZ
    clear h ha hb hx hy
    obtain ⟨B, z, v0, v1, s0, s1⟩ := id K0
    go_enter Tryd.func4, Tryd.ntmps4
    go_wp2_with fail
    refine (HZ.out _).mono ?_
    rintro e w1 ⟨rfl, hb1⟩
    have K1 := K0.on hb1
    go_wp2
    go_ret
    exact ⟨rfl, K1.B⟩
  · have HZ2 := Lib.hid (fun w => szSeqG x y (szQ a b) w h (szQ_le a b) (by unfold maxLen at hx; omega) (by unfold maxLen at hy; omega))
    have hlt : decide (szQ a b < 0) = false := decide_eq_false (by omega)
    rcases szG_cases x y (szQ a b) (szQ_le a b) with h2 | ⟨h2, hxy⟩
    · rw [h2] at HZ2
      generalize szQ a b = L at *
      clear h h2 ha hb hx hy hab
      obtain ⟨B, z, v0, v1, s0, s1⟩ := id K0
      go_enter Tryd.func4, Tryd.ntmps4
      go_wp2_with fail
      refine (HZ.out _).mono ?_
      rintro e w1 ⟨rfl, hb1⟩
      have K1 := K0.on hb1
      clear v0 v1 s0 s1 B z
      obtain ⟨B, z, v0, v1, s0, s1⟩ := id K1
      go_wp2_with fail
      refine (HZ2.out _).mono ?_
      rintro e w2 ⟨rfl, hb2⟩
      have K2 := K1.on hb2
      go_wp2
      go_ret
      exact ⟨rfl, K2.B⟩
    · have hlt2 : decide (szG x y (szQ a b) < 0) = false := decide_eq_false (by omega)
      have HT1 := Lib.hid (fun w => toSeq a b w)
      have HT2 := Lib.hid (fun w => toSeq x y w)
      obtain ⟨R, C, hd⟩ := df_ex a b x y
      have HA := Lib.hid (fun w => specDf a b x y w hab hxy R C hd)
      have HB := Lib.hid (fun w => implDf a b x y w hab hxy R C hd)
      generalize szG x y (szQ a b) = L2 at *
      generalize szQ a b = L at *
      clear h h2 ha hb hx hy hab hxy hd
      obtain ⟨B, z, v0, v1, s0, s1⟩ := id K0
      go_enter Tryd.func4, Tryd.ntmps4
      go_wp2_with fail
      refine (HZ.out _).mono ?_
      rintro e w1 ⟨rfl, hb1⟩
      have K1 := K0.on hb1
      clear v0 v1 s0 s1 B z hb1 HZ
      obtain ⟨B, z, v0, v1, s0, s1⟩ := id K1
      go_wp2_with fail
      refine (HZ2.out _).mono ?_
      rintro e w2 ⟨rfl, hb2⟩
      have K2 := K1.on hb2
      clear v0 v1 s0 s1 B z hb2 HZ2 K0 K1
      obtain ⟨B, z, v0, v1, s0, s1⟩ := id K2
      go_upto_region 8 with fail
      go_cut [6, 7] (fun s6 s7 wy => s6 = .int .i64 R ∧ s7 = .int .i64 C ∧ PQ w wy a b x y)
      case first =>
        refine wp_region_any (by kernel_rfl) ?_
        try (change wpAny _ _ _ _ _ _ _ (World.drew _))
        refine wpAny_ready (rs := [0, 2]) (by kernel_rfl) (by simp) ?_
        refine AllReady.cons rfl (fun K hK => ?_) (AllReady.cons rfl (fun K hK => ?_) (AllReady.nil))
        · go_simp
          refine hK _ _ ?_
          clear hK K
          refine wpAny_ready (rs := [1, 2]) (by kernel_rfl) (by simp) ?_
          refine AllReady.cons rfl (fun K hK => ?_) (AllReady.cons rfl (fun K hK => ?_) (AllReady.nil))
          · go_simp
            go_wp2_with (go_at_call 13; (with_reducible refine (HT1.out _).mono ?_); rintro e w3 ⟨rfl, hb3⟩)
            have B3 : Below w2.heap.size w2 w3 := by
              (repeat' (first | (with_reducible exact Below.refl _ _) | (with_reducible assumption) | (with_reducible refine belowNext ?_ (by with_reducible assumption)) | (with_reducible refine belowAlloc ?_ _) | (with_reducible refine Below.drew ?_) | (with_reducible refine below_drewN ?_ _) | (with_reducible refine Below.setCell ?_ ?_ _) | go_size | (with_reducible refine sizeOf' ?_) | (with_reducible refine sizeAdd ?_) | (dsimp only; first | (with_reducible refine sizeOf' ?_) | (with_reducible refine sizeAdd ?_))))
            have K3 := K2.on B3
            clear v0 v1 s0 s1 B z hb3
            obtain ⟨B, z, v0, v1, s0, s1⟩ := id K3
            refine wpAny_ready (rs := [2]) (by kernel_rfl) (by simp) ?_
            refine AllReady.cons rfl (fun K hK => ?_) (AllReady.nil)
            go_simp
            refine hK _ _ ?_
            clear hK K
            refine wpAny_ready (rs := [3]) (by kernel_rfl) (by simp) ?_
            refine AllReady.cons rfl (fun K hK => ?_) (AllReady.nil)
            go_simp
            go_wp2_with (go_at_call 13; (with_reducible refine (HT2.out _).mono ?_); rintro e w4 ⟨rfl, hb4⟩)
            have B4 : Below w3.heap.size w3 w4 := by
              (repeat' (first | (with_reducible exact Below.refl _ _) | (with_reducible assumption) | (with_reducible refine belowNext ?_ (by with_reducible assumption)) | (with_reducible refine belowAlloc ?_ _) | (with_reducible refine Below.drew ?_) | (with_reducible refine below_drewN ?_ _) | (with_reducible refine Below.setCell ?_ ?_ _) | go_size | (with_reducible refine sizeOf' ?_) | (with_reducible refine sizeAdd ?_) | (dsimp only; first | (with_reducible refine sizeOf' ?_) | (with_reducible refine sizeAdd ?_))))
            have K4 := K3.on B4
            clear v0 v1 s0 s1 B z hb4
            obtain ⟨B, z, v0, v1, s0, s1⟩ := id K4
            refine wpAny_ready (rs := [4]) (by kernel_rfl) (by simp) ?_
            refine AllReady.cons rfl (fun K hK => ?_) (AllReady.nil)
            go_simp
            go_wp2_with (go_at_call 16; (with_reducible refine (HA.out _).mono ?_); rintro e w5 ⟨rfl, hb5⟩)
            have B5 : Below w4.heap.size w4 w5 := by
              (repeat' (first | (with_reducible exact Below.refl _ _) | (with_reducible assumption) | (with_reducible refine belowNext ?_ (by with_reducible assumption)) | (with_reducible refine belowAlloc ?_ _) | (with_reducible refine Below.drew ?_) | (with_reducible refine below_drewN ?_ _) | (with_reducible refine Below.setCell ?_ ?_ _) | go_size | (with_reducible refine sizeOf' ?_) | (with_reducible refine sizeAdd ?_) | (dsimp only; first | (with_reducible refine sizeOf' ?_) | (with_reducible refine sizeAdd ?_))))
            have K5 := K4.on B5
            clear v0 v1 s0 s1 B z hb5
            obtain ⟨B, z, v0, v1, s0, s1⟩ := id K5
            refine wpAny_take (i := 5) (v := ?_) rfl (by kernel_rfl) (by kernel_rfl) (by kernel_rfl) (fun _ _ _ h => h) (Or.inl ⟨by kernel_rfl, ?_⟩) ?_
            rotate_left
            · intro w; first | (go_simp; done) | (go_simp; with_reducible rfl)
            refine wpAny_take (i := 6) (v := ?_) rfl (by kernel_rfl) (by kernel_rfl) (by kernel_rfl) (fun _ _ _ h => h) (Or.inl ⟨by kernel_rfl, ?_⟩) ?_
            rotate_left
            · intro w; first | (go_simp; done) | (go_simp; with_reducible rfl)
            refine wpAny_take (i := 7) (v := ?_) rfl (by kernel_rfl) (by kernel_rfl) (by kernel_rfl) (fun _ _ _ h => h) (Or.inl ⟨by kernel_rfl, ?_⟩) ?_
            rotate_left
            · intro w; first | (go_simp; done) | (go_simp; with_reducible rfl)
            refine wpAny_take (i := 8) (v := ?_) rfl (by kernel_rfl) (by kernel_rfl) (by kernel_rfl) (fun _ _ _ h => h) (Or.inl ⟨by kernel_rfl, ?_⟩) ?_
            rotate_left
            · intro w; first | (go_simp; done) | (go_simp; with_reducible rfl)
            refine wpAny_take (i := 9) (v := ?_) rfl (by kernel_rfl) (by kernel_rfl) (by kernel_rfl) (fun _ _ _ h => h) (Or.inl ⟨by kernel_rfl, ?_⟩) ?_
            rotate_left
            · intro w; first | (go_simp; done) | (go_simp; with_reducible rfl)
            refine wpAny_done (by kernel_rfl) ?_ _
            go_wp2
            go_meet
            case rel => exact ⟨rfl, rfl, K5⟩
          · go_simp
            refine hK _ _ ?_
            clear hK K
            refine wpAny_ready (rs := [1]) (by kernel_rfl) (by simp) ?_
            refine AllReady.cons rfl (fun K hK => ?_) (AllReady.nil)
            go_simp
            go_wp2_with (go_at_call 13; (with_reducible refine (HT1.out _).mono ?_); rintro e w3 ⟨rfl, hb3⟩)
            have B3 : Below w2.heap.size w2 w3 := by
              (repeat' (first | (with_reducible exact Below.refl _ _) | (with_reducible assumption) | (with_reducible refine belowNext ?_ (by with_reducible assumption)) | (with_reducible refine belowAlloc ?_ _) | (with_reducible refine Below.drew ?_) | (with_reducible refine below_drewN ?_ _) | (with_reducible refine Below.setCell ?_ ?_ _) | go_size | (with_reducible refine sizeOf' ?_) | (with_reducible refine sizeAdd ?_) | (dsimp only; first | (with_reducible refine sizeOf' ?_) | (with_reducible refine sizeAdd ?_))))
            have K3 := K2.on B3
            clear v0 v1 s0 s1 B z hb3
            obtain ⟨B, z, v0, v1, s0, s1⟩ := id K3
            refine wpAny_ready (rs := [3]) (by kernel_rfl) (by simp) ?_
            refine AllReady.cons rfl (fun K hK => ?_) (AllReady.nil)
            go_simp
            go_wp2_with (go_at_call 13; (with_reducible refine (HT2.out _).mono ?_); rintro e w4 ⟨rfl, hb4⟩)
            have B4 : Below w3.heap.size w3 w4 := by
              (repeat' (first | (with_reducible exact Below.refl _ _) | (with_reducible assumption) | (with_reducible refine belowNext ?_ (by with_reducible assumption)) | (with_reducible refine belowAlloc ?_ _) | (with_reducible refine Below.drew ?_) | (with_reducible refine below_drewN ?_ _) | (with_reducible refine Below.setCell ?_ ?_ _) | go_size | (with_reducible refine sizeOf' ?_) | (with_reducible refine sizeAdd ?_) | (dsimp only; first | (with_reducible refine sizeOf' ?_) | (with_reducible refine sizeAdd ?_))))
            have K4 := K3.on B4
            clear v0 v1 s0 s1 B z hb4
            obtain ⟨B, z, v0, v1, s0, s1⟩ := id K4
            refine wpAny_ready (rs := [4]) (by kernel_rfl) (by simp) ?_
            refine AllReady.cons rfl (fun K hK => ?_) (AllReady.nil)
            go_simp
            go_wp2_with (go_at_call 16; (with_reducible refine (HA.out _).mono ?_); rintro e w5 ⟨rfl, hb5⟩)
            have B5 : Below w4.heap.size w4 w5 := by
              (repeat' (first | (with_reducible exact Below.refl _ _) | (with_reducible assumption) | (with_reducible refine belowNext ?_ (by with_reducible assumption)) | (with_reducible refine belowAlloc ?_ _) | (with_reducible refine Below.drew ?_) | (with_reducible refine below_drewN ?_ _) | (with_reducible refine Below.setCell ?_ ?_ _) | go_size | (with_reducible refine sizeOf' ?_) | (with_reducible refine sizeAdd ?_) | (dsimp only; first | (with_reducible refine sizeOf' ?_) | (with_reducible refine sizeAdd ?_))))
            have K5 := K4.on B5
            clear v0 v1 s0 s1 B z hb5
            obtain ⟨B, z, v0, v1, s0, s1⟩ := id K5
            refine wpAny_take (i := 5) (v := ?_) rfl (by kernel_rfl) (by kernel_rfl) (by kernel_rfl) (fun _ _ _ h => h) (Or.inl ⟨by kernel_rfl, ?_⟩) ?_
            rotate_left
            · intro w; first | (go_simp; done) | (go_simp; with_reducible rfl)
            refine wpAny_take (i := 6) (v := ?_) rfl (by kernel_rfl) (by kernel_rfl) (by kernel_rfl) (fun _ _ _ h => h) (Or.inl ⟨by kernel_rfl, ?_⟩) ?_
            rotate_left
            · intro w; first | (go_simp; done) | (go_simp; with_reducible rfl)
            refine wpAny_take (i := 7) (v := ?_) rfl (by kernel_rfl) (by kernel_rfl) (by kernel_rfl) (fun _ _ _ h => h) (Or.inl ⟨by kernel_rfl, ?_⟩) ?_
            rotate_left
            · intro w; first | (go_simp; done) | (go_simp; with_reducible rfl)
            refine wpAny_take (i := 8) (v := ?_) rfl (by kernel_rfl) (by kernel_rfl) (by kernel_rfl) (fun _ _ _ h => h) (Or.inl ⟨by kernel_rfl, ?_⟩) ?_
            rotate_left
            · intro w; first | (go_simp; done) | (go_simp; with_reducible rfl)
            refine wpAny_take (i := 9) (v := ?_) rfl (by kernel_rfl) (by kernel_rfl) (by kernel_rfl) (fun _ _ _ h => h) (Or.inl ⟨by kernel_rfl, ?_⟩) ?_
            rotate_left
            · intro w; first | (go_simp; done) | (go_simp; with_reducible rfl)
            refine wpAny_done (by kernel_rfl) ?_ _
            go_wp2
            go_meet
            case rel => exact ⟨rfl, rfl, K5⟩
        · go_simp
          refine hK _ _ ?_
          clear hK K
          refine wpAny_ready (rs := [0]) (by kernel_rfl) (by simp) ?_
          refine AllReady.cons rfl (fun K hK => ?_) (AllReady.nil)
          go_simp
          refine hK _ _ ?_
          clear hK K
          refine wpAny_ready (rs := [1]) (by kernel_rfl) (by simp) ?_
          refine AllReady.cons rfl (fun K hK => ?_) (AllReady.nil)
          go_simp
          go_wp2_with (go_at_call 13; (with_reducible refine (HT1.out _).mono ?_); rintro e w3 ⟨rfl, hb3⟩)
          have B3 : Below w2.heap.size w2 w3 := by
            (repeat' (first | (with_reducible exact Below.refl _ _) | (with_reducible assumption) | (with_reducible refine belowNext ?_ (by with_reducible assumption)) | (with_reducible refine belowAlloc ?_ _) | (with_reducible refine Below.drew ?_) | (with_reducible refine below_drewN ?_ _) | (with_reducible refine Below.setCell ?_ ?_ _) | go_size | (with_reducible refine sizeOf' ?_) | (with_reducible refine sizeAdd ?_) | (dsimp only; first | (with_reducible refine sizeOf' ?_) | (with_reducible refine sizeAdd ?_))))
          have K3 := K2.on B3
          clear v0 v1 s0 s1 B z hb3
          obtain ⟨B, z, v0, v1, s0, s1⟩ := id K3
          refine wpAny_ready (rs := [3]) (by kernel_rfl) (by simp) ?_
          refine AllReady.cons rfl (fun K hK => ?_) (AllReady.nil)
          go_simp
          go_wp2_with (go_at_call 13; (with_reducible refine (HT2.out _).mono ?_); rintro e w4 ⟨rfl, hb4⟩)
          have B4 : Below w3.heap.size w3 w4 := by
            (repeat' (first | (with_reducible exact Below.refl _ _) | (with_reducible assumption) | (with_reducible refine belowNext ?_ (by with_reducible assumption)) | (with_reducible refine belowAlloc ?_ _) | (with_reducible refine Below.drew ?_) | (with_reducible refine below_drewN ?_ _) | (with_reducible refine Below.setCell ?_ ?_ _) | go_size | (with_reducible refine sizeOf' ?_) | (with_reducible refine sizeAdd ?_) | (dsimp only; first | (with_reducible refine sizeOf' ?_) | (with_reducible refine sizeAdd ?_))))
          have K4 := K3.on B4
          clear v0 v1 s0 s1 B z hb4
          obtain ⟨B, z, v0, v1, s0, s1⟩ := id K4
          refine wpAny_ready (rs := [4]) (by kernel_rfl) (by simp) ?_
          refine AllReady.cons rfl (fun K hK => ?_) (AllReady.nil)
          go_simp
          go_wp2_with (go_at_call 16; (with_reducible refine (HA.out _).mono ?_); rintro e w5 ⟨rfl, hb5⟩)
          have B5 : Below w4.heap.size w4 w5 := by
            (repeat' (first | (with_reducible exact Below.refl _ _) | (with_reducible assumption) | (with_reducible refine belowNext ?_ (by with_reducible assumption)) | (with_reducible refine belowAlloc ?_ _) | (with_reducible refine Below.drew ?_) | (with_reducible refine below_drewN ?_ _) | (with_reducible refine Below.setCell ?_ ?_ _) | go_size | (with_reducible refine sizeOf' ?_) | (with_reducible refine sizeAdd ?_) | (dsimp only; first | (with_reducible refine sizeOf' ?_) | (with_reducible refine sizeAdd ?_))))
          have K5 := K4.on B5
          clear v0 v1 s0 s1 B z hb5
          obtain ⟨B, z, v0, v1, s0, s1⟩ := id K5
          refine wpAny_take (i := 5) (v := ?_) rfl (by kernel_rfl) (by kernel_rfl) (by kernel_rfl) (fun _ _ _ h => h) (Or.inl ⟨by kernel_rfl, ?_⟩) ?_
          rotate_left
          · intro w; first | (go_simp; done) | (go_simp; with_reducible rfl)
          refine wpAny_take (i := 6) (v := ?_) rfl (by kernel_rfl) (by kernel_rfl) (by kernel_rfl) (fun _ _ _ h => h) (Or.inl ⟨by kernel_rfl, ?_⟩) ?_
          rotate_left
          · intro w; first | (go_simp; done) | (go_simp; with_reducible rfl)
          refine wpAny_take (i := 7) (v := ?_) rfl (by kernel_rfl) (by kernel_rfl) (by kernel_rfl) (fun _ _ _ h => h) (Or.inl ⟨by kernel_rfl, ?_⟩) ?_
          rotate_left
          · intro w; first | (go_simp; done) | (go_simp; with_reducible rfl)
          refine wpAny_take (i := 8) (v := ?_) rfl (by kernel_rfl) (by kernel_rfl) (by kernel_rfl) (fun _ _ _ h => h) (Or.inl ⟨by kernel_rfl, ?_⟩) ?_
          rotate_left
          · intro w; first | (go_simp; done) | (go_simp; with_reducible rfl)
          refine wpAny_take (i := 9) (v := ?_) rfl (by kernel_rfl) (by kernel_rfl) (by kernel_rfl) (fun _ _ _ h => h) (Or.inl ⟨by kernel_rfl, ?_⟩) ?_
          rotate_left
          · intro w; first | (go_simp; done) | (go_simp; with_reducible rfl)
          refine wpAny_done (by kernel_rfl) ?_ _
          go_wp2
          go_meet
          case rel => exact ⟨rfl, rfl, K5⟩
      case rest =>
        obtain ⟨rfl, rfl, K3⟩ := hcut
        clear K2 v0 v1 s0 s1 B z
        obtain ⟨B, z, v0, v1, s0, s1⟩ := id K3
        go_upto_region 9 with fail
        go_cut [8, 9] (fun s8 s9 wy => s8 = .int .i64 R ∧ s9 = .int .i64 C ∧ PQ w wy a b x y)
        case first =>
          refine wp_region_any (by kernel_rfl) ?_
          try (change wpAny _ _ _ _ _ _ _ (World.drew _))
          refine wpAny_ready (rs := [0, 2]) (by kernel_rfl) (by simp) ?_
          refine AllReady.cons rfl (fun K hK => ?_) (AllReady.cons rfl (fun K hK => ?_) (AllReady.nil))
          · go_simp
            refine hK _ _ ?_
            clear hK K
            refine wpAny_ready (rs := [1, 2]) (by kernel_rfl) (by simp) ?_
            refine AllReady.cons rfl (fun K hK => ?_) (AllReady.cons rfl (fun K hK => ?_) (AllReady.nil))
            · go_simp
              go_wp2_with (go_at_call 13; (with_reducible refine (HT1.out _).mono ?_); rintro e w4 ⟨rfl, hb4⟩)
              have B4 : Below wc.heap.size wc w4 := by
                (repeat' (first | (with_reducible exact Below.refl _ _) | (with_reducible assumption) | (with_reducible refine belowNext ?_ (by with_reducible assumption)) | (with_reducible refine belowAlloc ?_ _) | (with_reducible refine Below.drew ?_) | (with_reducible refine below_drewN ?_ _) | (with_reducible refine Below.setCell ?_ ?_ _) | go_size | (with_reducible refine sizeOf' ?_) | (with_reducible refine sizeAdd ?_) | (dsimp only; first | (with_reducible refine sizeOf' ?_) | (with_reducible refine sizeAdd ?_))))
              have K4 := K3.on B4
              clear v0 v1 s0 s1 B z hb4
              obtain ⟨B, z, v0, v1, s0, s1⟩ := id K4
              refine wpAny_ready (rs := [2]) (by kernel_rfl) (by simp) ?_
              refine AllReady.cons rfl (fun K hK => ?_) (AllReady.nil)
              go_simp
              refine hK _ _ ?_
              clear hK K
              refine wpAny_ready (rs := [3]) (by kernel_rfl) (by simp) ?_
              refine AllReady.cons rfl (fun K hK => ?_) (AllReady.nil)
              go_simp
              go_wp2_with (go_at_call 13; (with_reducible refine (HT2.out _).mono ?_); rintro e w5 ⟨rfl, hb5⟩)
              have B5 : Below w4.heap.size w4 w5 := by
                (repeat' (first | (with_reducible exact Below.refl _ _) | (with_reducible assumption) | (with_reducible refine belowNext ?_ (by with_reducible assumption)) | (with_reducible refine belowAlloc ?_ _) | (with_reducible refine Below.drew ?_) | (with_reducible refine below_drewN ?_ _) | (with_reducible refine Below.setCell ?_ ?_ _) | go_size | (with_reducible refine sizeOf' ?_) | (with_reducible refine sizeAdd ?_) | (dsimp only; first | (with_reducible refine sizeOf' ?_) | (with_reducible refine sizeAdd ?_))))
              have K5 := K4.on B5
              clear v0 v1 s0 s1 B z hb5
              obtain ⟨B, z, v0, v1, s0, s1⟩ := id K5
              refine wpAny_ready (rs := [4]) (by kernel_rfl) (by simp) ?_
              refine AllReady.cons rfl (fun K hK => ?_) (AllReady.nil)
              go_simp
              go_wp2_with (go_at_call 17; (with_reducible refine (HB.out _).mono ?_); rintro e w6 ⟨rfl, hb6⟩)
              have B6 : Below w5.heap.size w5 w6 := by
                (repeat' (first | (with_reducible exact Below.refl _ _) | (with_reducible assumption) | (with_reducible refine belowNext ?_ (by with_reducible assumption)) | (with_reducible refine belowAlloc ?_ _) | (with_reducible refine Below.drew ?_) | (with_reducible refine below_drewN ?_ _) | (with_reducible refine Below.setCell ?_ ?_ _) | go_size | (with_reducible refine sizeOf' ?_) | (with_reducible refine sizeAdd ?_) | (dsimp only; first | (with_reducible refine sizeOf' ?_) | (with_reducible refine sizeAdd ?_))))
              have K6 := K5.on B6
              clear v0 v1 s0 s1 B z hb6
              obtain ⟨B, z, v0, v1, s0, s1⟩ := id K6
              refine wpAny_take (i := 5) (v := ?_) rfl (by kernel_rfl) (by kernel_rfl) (by kernel_rfl) (fun _ _ _ h => h) (Or.inl ⟨by kernel_rfl, ?_⟩) ?_
              rotate_left
              · intro w; first | (go_simp; done) | (go_simp; with_reducible rfl)
              refine wpAny_take (i := 6) (v := ?_) rfl (by kernel_rfl) (by kernel_rfl) (by kernel_rfl) (fun _ _ _ h => h) (Or.inl ⟨by kernel_rfl, ?_⟩) ?_
              rotate_left
              · intro w; first | (go_simp; done) | (go_simp; with_reducible rfl)
              refine wpAny_take (i := 7) (v := ?_) rfl (by kernel_rfl) (by kernel_rfl) (by kernel_rfl) (fun _ _ _ h => h) (Or.inl ⟨by kernel_rfl, ?_⟩) ?_
              rotate_left
              · intro w; first | (go_simp; done) | (go_simp; with_reducible rfl)
              refine wpAny_take (i := 8) (v := ?_) rfl (by kernel_rfl) (by kernel_rfl) (by kernel_rfl) (fun _ _ _ h => h) (Or.inl ⟨by kernel_rfl, ?_⟩) ?_
              rotate_left
              · intro w; first | (go_simp; done) | (go_simp; with_reducible rfl)
              refine wpAny_take (i := 9) (v := ?_) rfl (by kernel_rfl) (by kernel_rfl) (by kernel_rfl) (fun _ _ _ h => h) (Or.inl ⟨by kernel_rfl, ?_⟩) ?_
              rotate_left
              · intro w; first | (go_simp; done) | (go_simp; with_reducible rfl)
              refine wpAny_done (by kernel_rfl) ?_ _
              go_wp2
              go_meet
              case rel => exact ⟨rfl, rfl, K6⟩
            · go_simp
              refine hK _ _ ?_
              clear hK K
              refine wpAny_ready (rs := [1]) (by kernel_rfl) (by simp) ?_
              refine AllReady.cons rfl (fun K hK => ?_) (AllReady.nil)
              go_simp
              go_wp2_with (go_at_call 13; (with_reducible refine (HT1.out _).mono ?_); rintro e w4 ⟨rfl, hb4⟩)
              have B4 : Below wc.heap.size wc w4 := by
                (repeat' (first | (with_reducible exact Below.refl _ _) | (with_reducible assumption) | (with_reducible refine belowNext ?_ (by with_reducible assumption)) | (with_reducible refine belowAlloc ?_ _) | (with_reducible refine Below.drew ?_) | (with_reducible refine below_drewN ?_ _) | (with_reducible refine Below.setCell ?_ ?_ _) | go_size | (with_reducible refine sizeOf' ?_) | (with_reducible refine sizeAdd ?_) | (dsimp only; first | (with_reducible refine sizeOf' ?_) | (with_reducible refine sizeAdd ?_))))
              have K4 := K3.on B4
              clear v0 v1 s0 s1 B z hb4
              obtain ⟨B, z, v0, v1, s0, s1⟩ := id K4
              refine wpAny_ready (rs := [3]) (by kernel_rfl) (by simp) ?_
              refine AllReady.cons rfl (fun K hK => ?_) (AllReady.nil)
              go_simp
              go_wp2_with (go_at_call 13; (with_reducible refine (HT2.out _).mono ?_); rintro e w5 ⟨rfl, hb5⟩)
              have B5 : Below w4.heap.size w4 w5 := by
                (repeat' (first | (with_reducible exact Below.refl _ _) | (with_reducible assumption) | (with_reducible refine belowNext ?_ (by with_reducible assumption)) | (with_reducible refine belowAlloc ?_ _) | (with_reducible refine Below.drew ?_) | (with_reducible refine below_drewN ?_ _) | (with_reducible refine Below.setCell ?_ ?_ _) | go_size | (with_reducible refine sizeOf' ?_) | (with_reducible refine sizeAdd ?_) | (dsimp only; first | (with_reducible refine sizeOf' ?_) | (with_reducible refine sizeAdd ?_))))
              have K5 := K4.on B5
              clear v0 v1 s0 s1 B z hb5
              obtain ⟨B, z, v0, v1, s0, s1⟩ := id K5
              refine wpAny_ready (rs := [4]) (by kernel_rfl) (by simp) ?_
              refine AllReady.cons rfl (fun K hK => ?_) (AllReady.nil)
              go_simp
              go_wp2_with (go_at_call 17; (with_reducible refine (HB.out _).mono ?_); rintro e w6 ⟨rfl, hb6⟩)
              have B6 : Below w5.heap.size w5 w6 := by
                (repeat' (first | (with_reducible exact Below.refl _ _) | (with_reducible assumption) | (with_reducible refine belowNext ?_ (by with_reducible assumption)) | (with_reducible refine belowAlloc ?_ _) | (with_reducible refine Below.drew ?_) | (with_reducible refine below_drewN ?_ _) | (with_reducible refine Below.setCell ?_ ?_ _) | go_size | (with_reducible refine sizeOf' ?_) | (with_reducible refine sizeAdd ?_) | (dsimp only; first | (with_reducible refine sizeOf' ?_) | (with_reducible refine sizeAdd ?_))))
              have K6 := K5.on B6
              clear v0 v1 s0 s1 B z hb6
              obtain ⟨B, z, v0, v1, s0, s1⟩ := id K6
              refine wpAny_take (i := 5) (v := ?_) rfl (by kernel_rfl) (by kernel_rfl) (by kernel_rfl) (fun _ _ _ h => h) (Or.inl ⟨by kernel_rfl, ?_⟩) ?_
              rotate_left
              · intro w; first | (go_simp; done) | (go_simp; with_reducible rfl)
              refine wpAny_take (i := 6) (v := ?_) rfl (by kernel_rfl) (by kernel_rfl) (by kernel_rfl) (fun _ _ _ h => h) (Or.inl ⟨by kernel_rfl, ?_⟩) ?_
              rotate_left
              · intro w; first | (go_simp; done) | (go_simp; with_reducible rfl)
              refine wpAny_take (i := 7) (v := ?_) rfl (by kernel_rfl) (by kernel_rfl) (by kernel_rfl) (fun _ _ _ h => h) (Or.inl ⟨by kernel_rfl, ?_⟩) ?_
              rotate_left
              · intro w; first | (go_simp; done) | (go_simp; with_reducible rfl)
              refine wpAny_take (i := 8) (v := ?_) rfl (by kernel_rfl) (by kernel_rfl) (by kernel_rfl) (fun _ _ _ h => h) (Or.inl ⟨by kernel_rfl, ?_⟩) ?_
              rotate_left
              · intro w; first | (go_simp; done) | (go_simp; with_reducible rfl)
              refine wpAny_take (i := 9) (v := ?_) rfl (by kernel_rfl) (by kernel_rfl) (by kernel_rfl) (fun _ _ _ h => h) (Or.inl ⟨by kernel_rfl, ?_⟩) ?_
              rotate_left
              · intro w; first | (go_simp; done) | (go_simp; with_reducible rfl)
              refine wpAny_done (by kernel_rfl) ?_ _
              go_wp2
              go_meet
              case rel => exact ⟨rfl, rfl, K6⟩
          · go_simp
            refine hK _ _ ?_
            clear hK K
            refine wpAny_ready (rs := [0]) (by kernel_rfl) (by simp) ?_
            refine AllReady.cons rfl (fun K hK => ?_) (AllReady.nil)
            go_simp
            refine hK _ _ ?_
            clear hK K
            refine wpAny_ready (rs := [1]) (by kernel_rfl) (by simp) ?_
            refine AllReady.cons rfl (fun K hK => ?_) (AllReady.nil)
            go_simp
            go_wp2_with (go_at_call 13; (with_reducible refine (HT1.out _).mono ?_); rintro e w4 ⟨rfl, hb4⟩)
            have B4 : Below wc.heap.size wc w4 := by
              (repeat' (first | (with_reducible exact Below.refl _ _) | (with_reducible assumption) | (with_reducible refine belowNext ?_ (by with_reducible assumption)) | (with_reducible refine belowAlloc ?_ _) | (with_reducible refine Below.drew ?_) | (with_reducible refine below_drewN ?_ _) | (with_reducible refine Below.setCell ?_ ?_ _) | go_size | (with_reducible refine sizeOf' ?_) | (with_reducible refine sizeAdd ?_) | (dsimp only; first | (with_reducible refine sizeOf' ?_) | (with_reducible refine sizeAdd ?_))))
            have K4 := K3.on B4
            clear v0 v1 s0 s1 B z hb4
            obtain ⟨B, z, v0, v1, s0, s1⟩ := id K4
            refine wpAny_ready (rs := [3]) (by kernel_rfl) (by simp) ?_
            refine AllReady.cons rfl (fun K hK => ?_) (AllReady.nil)
            go_simp
            go_wp2_with (go_at_call 13; (with_reducible refine (HT2.out _).mono ?_); rintro e w5 ⟨rfl, hb5⟩)
            have B5 : Below w4.heap.size w4 w5 := by
              (repeat' (first | (with_reducible exact Below.refl _ _) | (with_reducible assumption) | (with_reducible refine belowNext ?_ (by with_reducible assumption)) | (with_reducible refine belowAlloc ?_ _) | (with_reducible refine Below.drew ?_) | (with_reducible refine below_drewN ?_ _) | (with_reducible refine Below.setCell ?_ ?_ _) | go_size | (with_reducible refine sizeOf' ?_) | (with_reducible refine sizeAdd ?_) | (dsimp only; first | (with_reducible refine sizeOf' ?_) | (with_reducible refine sizeAdd ?_))))
            have K5 := K4.on B5
            clear v0 v1 s0 s1 B z hb5
            obtain ⟨B, z, v0, v1, s0, s1⟩ := id K5
            refine wpAny_ready (rs := [4]) (by kernel_rfl) (by simp) ?_
            refine AllReady.cons rfl (fun K hK => ?_) (AllReady.nil)
            go_simp
            go_wp2_with (go_at_call 17; (with_reducible refine (HB.out _).mono ?_); rintro e w6 ⟨rfl, hb6⟩)
            have B6 : Below w5.heap.size w5 w6 := by
              (repeat' (first | (with_reducible exact Below.refl _ _) | (with_reducible assumption) | (with_reducible refine belowNext ?_ (by with_reducible assumption)) | (with_reducible refine belowAlloc ?_ _) | (with_reducible refine Below.drew ?_) | (with_reducible refine below_drewN ?_ _) | (with_reducible refine Below.setCell ?_ ?_ _) | go_size | (with_reducible refine sizeOf' ?_) | (with_reducible refine sizeAdd ?_) | (dsimp only; first | (with_reducible refine sizeOf' ?_) | (with_reducible refine sizeAdd ?_))))
            have K6 := K5.on B6
            clear v0 v1 s0 s1 B z hb6
            obtain ⟨B, z, v0, v1, s0, s1⟩ := id K6
            refine wpAny_take (i := 5) (v := ?_) rfl (by kernel_rfl) (by kernel_rfl) (by kernel_rfl) (fun _ _ _ h => h) (Or.inl ⟨by kernel_rfl, ?_⟩) ?_
            rotate_left
            · intro w; first | (go_simp; done) | (go_simp; with_reducible rfl)
            refine wpAny_take (i := 6) (v := ?_) rfl (by kernel_rfl) (by kernel_rfl) (by kernel_rfl) (fun _ _ _ h => h) (Or.inl ⟨by kernel_rfl, ?_⟩) ?_
            rotate_left
            · intro w; first | (go_simp; done) | (go_simp; with_reducible rfl)
            refine wpAny_take (i := 7) (v := ?_) rfl (by kernel_rfl) (by kernel_rfl) (by kernel_rfl) (fun _ _ _ h => h) (Or.inl ⟨by kernel_rfl, ?_⟩) ?_
            rotate_left
            · intro w; first | (go_simp; done) | (go_simp; with_reducible rfl)
            refine wpAny_take (i := 8) (v := ?_) rfl (by kernel_rfl) (by kernel_rfl) (by kernel_rfl) (fun _ _ _ h => h) (Or.inl ⟨by kernel_rfl, ?_⟩) ?_
            rotate_left
            · intro w; first | (go_simp; done) | (go_simp; with_reducible rfl)
            refine wpAny_take (i := 9) (v := ?_) rfl (by kernel_rfl) (by kernel_rfl) (by kernel_rfl) (fun _ _ _ h => h) (Or.inl ⟨by kernel_rfl, ?_⟩) ?_
            rotate_left
            · intro w; first | (go_simp; done) | (go_simp; with_reducible rfl)
            refine wpAny_done (by kernel_rfl) ?_ _
            go_wp2
            go_meet
            case rel => exact ⟨rfl, rfl, K6⟩
        case rest =>
          obtain ⟨rfl, rfl, K4⟩ := hcut
          go_wp2
          go_ret
          exact ⟨rfl, K4.B⟩
end Go.Proofs.YtomcmjnhfloeeaaDoor

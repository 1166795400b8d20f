/-
  Contracts: rho, on both sides; RhoOf; the walk of its law; written by genE10.py.
-/
import Derived.Test.YtdemgialagjomaaE9
import Derived.Test.YtdemgialagjomaaLD
namespace Go.Proofs.Ytdemgialagjomaa
open Go.RowKit

theorem zeroIntQ (w : World) : (zeroValue 2).run Try.prog w = .ok (.int .i64 0) w := by kernel_rfl
theorem wf0 : (Lit.int .i64 0).wf = true := by decide
/-- The box of a table, kept. -/
structure RhS (w : World) (x y : Wd) (g : Nat) (W : World) : Prop where
  B : Below w.heap.size w W
  z : w.heap.size < W.heap.size
  c0 : W.cell? ⟨w.heap.size, 0, none⟩ = some (.string (bs x))
  c1 : W.cell? ⟨w.heap.size, 1, none⟩ = some (.string (bs y))
  c2 : W.cell? ⟨w.heap.size, 2, none⟩ = some (.map (some g))
theorem RhS.on {w W w1 : World} {x y : Wd} {g : Nat} (H : RhS w x y g W) (hb : Below W.heap.size W w1) : RhS w x y g w1 :=
  ⟨belowNext H.B hb, Nat.lt_of_lt_of_le H.z hb.size, cellThru hb H.z H.c0, cellThru hb H.z H.c1, cellThru hb H.z H.c2⟩
theorem rhs0 (w : World) (x y : Wd) (g : Nat) : RhS w x y g (w.alloc (.cells #[.string (bs x), .string (bs y), .map (some g)] 39)) :=
  ⟨belowAlloc (Below.refl _ _) _, by simp, by simp [go_sem], by simp [go_sem], by simp [go_sem]⟩

/-- What rho answers. -/
abbrev rhoV (x y : Wd) (k : Nat) : Value := .tuple #[.int .i64 (rhoN x y k : Int), .bool (!(shQ k x y == (x, y)))]

set_option maxRecDepth 8000 in
set_option maxHeartbeats 4000000 in
theorem implRho1 (x y : Wd) (g n k : Nat) (w : World) (h : isSeq x y = true) (hm : ownsT w g n (tabD x y (x.length + y.length))) (hk : k ≤ 1000000) (hne : shQ k x y ≠ (x, y)) :
    Calls Try.prog 23 #[tabV x y g, .int .i64 (k : Int)] w fun e w' => e = .returned (rhoV x y k) ∧ Below w.heap.size w w' := by
  obtain ⟨-, -, hy, h64, -⟩ := isSeq_yes h
  have HS := Lib.hid (fun w => implShBy x y k (k : Int) rfl w (by omega) hy h64)
  have HM := Lib.hid (hm.alloc (.cells #[.string (bs x), .string (bs y), .map (some g)] 39))
  have R0 := rhs0 w x y g
  have hkey := sqKey (shQ k x y) (sh_small h k)
  have HA := Lib.hid (fun z => tabD_yes h hne z (x.length + y.length) (sh_first hy k))
  have hd5 := (dfQ_is (sh_seq h k) h hne).2
  have e1 : rhoN x y k = k + dfQ x y (shQ k x y) + 1 := by unfold rhoN; rw [if_neg hne]
  have e2 : (!(shQ k x y == (x, y))) = true := by simp [hne]
  have wr : IntKind.i64.wrap ((k : Int) + ((dfQ x y (shQ k x y) : Int) + 1)) = ((k + dfQ x y (shQ k x y) + 1 : Nat) : Int) := by rw [IntWalk.i64_in _ (by omega)]; omega
  unfold rhoV
  rw [e1, e2]
  generalize ((k + dfQ x y (shQ k x y) + 1 : Nat) : Int) = RN at *
  generalize ((dfQ x y (shQ k x y) : Int) + 1) = D at *
  generalize shQ k x y = q at *
  obtain ⟨X, Y⟩ := q
  dsimp only at *
  clear hm h hy h64 e1 e2 hne hd5
  go_enter Try.func23, Try.ntmps23
  go_wp2_with fail
  refine wp_region_held_drew (S := (RhS w x y g)) (by kernel_rfl) ?_ (fun hHeld => ?_)
  · exact R0.on (Below.refl _ _).drew
  refine wpAnyH_take (i := 0) (v := ?_) rfl (by kernel_rfl) (by kernel_rfl) (by kernel_rfl) (fun _ _ _ h => h) (Or.inl ⟨by kernel_rfl, ?_⟩) hHeld ?_
  rotate_left
  · intro w hSw; obtain ⟨B, z, c0, c1, c2⟩ := hSw; first | (go_simp; done) | (go_simp; with_reducible rfl)
  refine wpAnyH_take (i := 1) (v := ?_) rfl (by kernel_rfl) (by kernel_rfl) (by kernel_rfl) (fun _ _ _ h => h) (Or.inl ⟨by kernel_rfl, ?_⟩) hHeld ?_
  rotate_left
  · intro w hSw; obtain ⟨B, z, c0, c1, c2⟩ := hSw; first | (go_simp; done) | (go_simp; with_reducible rfl)
  refine wpAnyH_take (i := 2) (v := ?_) rfl (by kernel_rfl) (by kernel_rfl) (by kernel_rfl) (fun _ _ _ h => h) (Or.inl ⟨by kernel_rfl, ?_⟩) hHeld ?_
  rotate_left
  · intro w hSw; obtain ⟨B, z, c0, c1, c2⟩ := hSw; first | (go_simp; done) | (go_simp; with_reducible rfl)
  refine wpAnyH_take (i := 3) (v := ?_) rfl (by kernel_rfl) (by kernel_rfl) (by kernel_rfl) (fun _ _ _ h => h) (Or.inl ⟨by kernel_rfl, ?_⟩) hHeld ?_
  rotate_left
  · intro w hSw; obtain ⟨B, z, c0, c1, c2⟩ := hSw; first | (go_simp; done) | (go_simp; with_reducible rfl)
  refine wpAnyH_take (i := 4) (v := ?_) rfl (by kernel_rfl) (by kernel_rfl) (by kernel_rfl) (fun _ _ _ h => h) (Or.inl ⟨by kernel_rfl, ?_⟩) hHeld ?_
  rotate_left
  · intro w hSw; obtain ⟨B, z, c0, c1, c2⟩ := hSw; first | (go_simp; done) | (go_simp; with_reducible rfl)
  refine wpAnyH_ready (rs := [5]) (by kernel_rfl) (by simp) ?_
  refine AllReadyH.cons rfl (fun K hK => ?_) AllReadyH.nil
  go_simp
  go_wp2_with (go_at_call 20; (with_reducible refine (HS.out _).mono ?_); rintro e w4 ⟨rfl, hb4⟩)
  have S4 := hHeld.on hb4
  have M4 := HM.out.drew.kept (belowGQ hb4) (by simp)
  refine hK.out _ _ ?_ (fun hHeld => ?_)
  · exact S4
  clear hK K
  obtain ⟨v, ps, hrun, hv⟩ := M4.look_ok sqLaw Try.underlying37 (zeroIntQ w4) (plainElem_int Try.underlying2 wf0) hkey
  rw [HA.out] at hv
  rw [Maps.has_true_of_atKey HA.out] at hrun
  obtain ⟨c, rfl, hc, -⟩ := plainElem_int_inv Try.underlying2 hv
  obtain rfl : c = D := by have := congrArg Prod.fst hc; simpa using this.symm
  refine wpAnyH_ready (rs := [6]) (by kernel_rfl) (by simp) ?_
  refine AllReadyH.cons rfl (fun K hK => ?_) AllReadyH.nil
  go_simp
  refine hK.out _ _ ?_ (fun hHeld => ?_)
  · exact S4
  clear hK K hrun hv hc
  refine wpAnyH_take (i := 7) (v := ?_) rfl (by kernel_rfl) (by kernel_rfl) (by kernel_rfl) (fun _ _ _ h => h) (Or.inl ⟨by kernel_rfl, ?_⟩) hHeld ?_
  rotate_left
  · intro w hSw; obtain ⟨B, z, c0, c1, c2⟩ := hSw; first | (go_simp; done) | (go_simp; with_reducible rfl)
  refine wpAnyH_take (i := 8) (v := ?_) rfl (by kernel_rfl) (by kernel_rfl) (by kernel_rfl) (fun _ _ _ h => h) (Or.inl ⟨by kernel_rfl, ?_⟩) hHeld ?_
  rotate_left
  · intro w hSw; obtain ⟨B, z, c0, c1, c2⟩ := hSw; first | (go_simp; done) | (go_simp; with_reducible rfl)
  refine wpAnyH_take (i := 9) (v := ?_) rfl (by kernel_rfl) (by kernel_rfl) (by kernel_rfl) (fun _ _ _ h => h) (Or.inl ⟨by kernel_rfl, ?_⟩) hHeld ?_
  rotate_left
  · intro w hSw; obtain ⟨B, z, c0, c1, c2⟩ := hSw; first | (go_simp; done) | (go_simp; with_reducible rfl)
  refine wpAnyH_take (i := 10) (v := ?_) rfl (by kernel_rfl) (by kernel_rfl) (by kernel_rfl) (fun _ _ _ h => h) (Or.inl ⟨by kernel_rfl, ?_⟩) hHeld ?_
  rotate_left
  · intro w hSw; obtain ⟨B, z, c0, c1, c2⟩ := hSw; first | (go_simp; done) | (go_simp; with_reducible rfl)
  refine wpAnyH_take (i := 11) (v := ?_) rfl (by kernel_rfl) (by kernel_rfl) (by kernel_rfl) (fun _ _ _ h => h) (Or.inl ⟨by kernel_rfl, ?_⟩) hHeld ?_
  rotate_left
  · intro w hSw; obtain ⟨B, z, c0, c1, c2⟩ := hSw; first | (go_simp; done) | (go_simp; with_reducible rfl)
  refine wpAnyH_done (by kernel_rfl) ?_ _
  go_wp2
  go_ret2
  exact ⟨rfl, S4.B⟩

set_option maxRecDepth 8000 in
set_option maxHeartbeats 4000000 in
theorem implRho0 (x y : Wd) (g n k : Nat) (w : World) (h : isSeq x y = true) (hm : ownsT w g n (tabD x y (x.length + y.length))) (hk : k ≤ 1000000) (heq : shQ k x y = (x, y)) :
    Calls Try.prog 23 #[tabV x y g, .int .i64 (k : Int)] w fun e w' => e = .returned (rhoV x y k) ∧ Below w.heap.size w w' := by
  obtain ⟨-, -, hy, h64, -⟩ := isSeq_yes h
  have HS := Lib.hid (fun w => implShBy x y k (k : Int) rfl w (by omega) hy h64)
  have HM := Lib.hid (hm.alloc (.cells #[.string (bs x), .string (bs y), .map (some g)] 39))
  have R0 := rhs0 w x y g
  have hkey := sqKey (shQ k x y) (sh_small h k)
  have HA := Lib.hid (fun z => tabD_no h z (x.length + y.length))
  have e1 : rhoN x y k = 0 := by unfold rhoN; rw [if_pos heq]
  have e2 : (!(shQ k x y == (x, y))) = false := by simp [heq]
  unfold rhoV
  rw [e1, e2]
  rw [heq] at HS hkey
  dsimp only at *
  clear hm h hy h64 e1 e2 heq
  go_enter Try.func23, Try.ntmps23
  go_wp2_with fail
  refine wp_region_held_drew (S := (RhS w x y g)) (by kernel_rfl) ?_ (fun hHeld => ?_)
  · exact R0.on (Below.refl _ _).drew
  refine wpAnyH_take (i := 0) (v := ?_) rfl (by kernel_rfl) (by kernel_rfl) (by kernel_rfl) (fun _ _ _ h => h) (Or.inl ⟨by kernel_rfl, ?_⟩) hHeld ?_
  rotate_left
  · intro w hSw; obtain ⟨B, z, c0, c1, c2⟩ := hSw; first | (go_simp; done) | (go_simp; with_reducible rfl)
  refine wpAnyH_take (i := 1) (v := ?_) rfl (by kernel_rfl) (by kernel_rfl) (by kernel_rfl) (fun _ _ _ h => h) (Or.inl ⟨by kernel_rfl, ?_⟩) hHeld ?_
  rotate_left
  · intro w hSw; obtain ⟨B, z, c0, c1, c2⟩ := hSw; first | (go_simp; done) | (go_simp; with_reducible rfl)
  refine wpAnyH_take (i := 2) (v := ?_) rfl (by kernel_rfl) (by kernel_rfl) (by kernel_rfl) (fun _ _ _ h => h) (Or.inl ⟨by kernel_rfl, ?_⟩) hHeld ?_
  rotate_left
  · intro w hSw; obtain ⟨B, z, c0, c1, c2⟩ := hSw; first | (go_simp; done) | (go_simp; with_reducible rfl)
  refine wpAnyH_take (i := 3) (v := ?_) rfl (by kernel_rfl) (by kernel_rfl) (by kernel_rfl) (fun _ _ _ h => h) (Or.inl ⟨by kernel_rfl, ?_⟩) hHeld ?_
  rotate_left
  · intro w hSw; obtain ⟨B, z, c0, c1, c2⟩ := hSw; first | (go_simp; done) | (go_simp; with_reducible rfl)
  refine wpAnyH_take (i := 4) (v := ?_) rfl (by kernel_rfl) (by kernel_rfl) (by kernel_rfl) (fun _ _ _ h => h) (Or.inl ⟨by kernel_rfl, ?_⟩) hHeld ?_
  rotate_left
  · intro w hSw; obtain ⟨B, z, c0, c1, c2⟩ := hSw; first | (go_simp; done) | (go_simp; with_reducible rfl)
  refine wpAnyH_ready (rs := [5]) (by kernel_rfl) (by simp) ?_
  refine AllReadyH.cons rfl (fun K hK => ?_) AllReadyH.nil
  go_simp
  go_wp2_with (go_at_call 20; (with_reducible refine (HS.out _).mono ?_); rintro e w4 ⟨rfl, hb4⟩)
  have S4 := hHeld.on hb4
  have M4 := HM.out.drew.kept (belowGQ hb4) (by simp)
  refine hK.out _ _ ?_ (fun hHeld => ?_)
  · exact S4
  clear hK K
  obtain ⟨v, ps, hrun, hv⟩ := M4.look_ok sqLaw Try.underlying37 (zeroIntQ w4) (plainElem_int Try.underlying2 wf0) hkey
  rw [HA.out] at hv
  rw [Maps.has_false_of_atKey HA.out] at hrun
  obtain ⟨c, rfl, hc, -⟩ := plainElem_int_inv Try.underlying2 hv
  obtain rfl : c = 0 := by have := congrArg Prod.fst hc; simpa using this.symm
  refine wpAnyH_ready (rs := [6]) (by kernel_rfl) (by simp) ?_
  refine AllReadyH.cons rfl (fun K hK => ?_) AllReadyH.nil
  go_simp
  refine hK.out _ _ ?_ (fun hHeld => ?_)
  · exact S4
  clear hK K hrun hv hc
  refine wpAnyH_take (i := 7) (v := ?_) rfl (by kernel_rfl) (by kernel_rfl) (by kernel_rfl) (fun _ _ _ h => h) (Or.inl ⟨by kernel_rfl, ?_⟩) hHeld ?_
  rotate_left
  · intro w hSw; obtain ⟨B, z, c0, c1, c2⟩ := hSw; first | (go_simp; done) | (go_simp; with_reducible rfl)
  refine wpAnyH_take (i := 8) (v := ?_) rfl (by kernel_rfl) (by kernel_rfl) (by kernel_rfl) (fun _ _ _ h => h) (Or.inl ⟨by kernel_rfl, ?_⟩) hHeld ?_
  rotate_left
  · intro w hSw; obtain ⟨B, z, c0, c1, c2⟩ := hSw; first | (go_simp; done) | (go_simp; with_reducible rfl)
  refine wpAnyH_take (i := 9) (v := ?_) rfl (by kernel_rfl) (by kernel_rfl) (by kernel_rfl) (fun _ _ _ h => h) (Or.inl ⟨by kernel_rfl, ?_⟩) hHeld ?_
  rotate_left
  · intro w hSw; obtain ⟨B, z, c0, c1, c2⟩ := hSw; first | (go_simp; done) | (go_simp; with_reducible rfl)
  refine wpAnyH_take (i := 10) (v := ?_) rfl (by kernel_rfl) (by kernel_rfl) (by kernel_rfl) (fun _ _ _ h => h) (Or.inl ⟨by kernel_rfl, ?_⟩) hHeld ?_
  rotate_left
  · intro w hSw; obtain ⟨B, z, c0, c1, c2⟩ := hSw; first | (go_simp; done) | (go_simp; with_reducible rfl)
  refine wpAnyH_take (i := 11) (v := ?_) rfl (by kernel_rfl) (by kernel_rfl) (by kernel_rfl) (fun _ _ _ h => h) (Or.inl ⟨by kernel_rfl, ?_⟩) hHeld ?_
  rotate_left
  · intro w hSw; obtain ⟨B, z, c0, c1, c2⟩ := hSw; first | (go_simp; done) | (go_simp; with_reducible rfl)
  refine wpAnyH_done (by kernel_rfl) ?_ _
  go_wp2
  go_ret2
  exact ⟨rfl, S4.B⟩

theorem implRho (x y : Wd) (g n k : Nat) (w : World) (h : isSeq x y = true) (hm : ownsT w g n (tabD x y (x.length + y.length))) (hk : k ≤ 1000000) :
    Calls Try.prog 23 #[tabV x y g, .int .i64 (k : Int)] w fun e w' => e = .returned (rhoV x y k) ∧ Below w.heap.size w w' := by
  by_cases e : shQ k x y = (x, y)
  · exact implRho0 x y g n k w h hm hk e
  · exact implRho1 x y g n k w h hm hk e

/-- The box of a sequence, kept. -/
structure SqS (w : World) (x y : Wd) (W : World) : Prop where
  B : Below w.heap.size w W
  z : w.heap.size < W.heap.size
  c0 : W.cell? ⟨w.heap.size, 0, none⟩ = some (.string (bs x))
  c1 : W.cell? ⟨w.heap.size, 1, none⟩ = some (.string (bs y))
theorem SqS.on {w W w1 : World} {x y : Wd} (H : SqS w x y W) (hb : Below W.heap.size W w1) : SqS w x y w1 :=
  ⟨belowNext H.B hb, Nat.lt_of_lt_of_le H.z hb.size, cellThru hb H.z H.c0, cellThru hb H.z H.c1⟩
theorem sqs0 (w : World) (x y : Wd) (T : TypeId) : SqS w x y (w.alloc (.cells #[.string (bs x), .string (bs y)] T)) :=
  ⟨belowAlloc (Below.refl _ _) _, by simp, by simp [go_sem], by simp [go_sem]⟩

set_option maxRecDepth 8000 in
set_option maxHeartbeats 4000000 in
theorem specRho (x y : Wd) (k : Nat) (w : World) (h : isSeq x y = true) (hk : k ≤ 900000) :
    Calls Try.prog 19 #[sqV x y, .int .i64 (k : Int)] w fun e w' => e = .returned (.int .i64 (rhoN x y k : Int)) ∧ Below w.heap.size w w' := by
  obtain ⟨-, -, hy, h64, -⟩ := isSeq_yes h
  have HA := Lib.hid (fun (j : Nat) (v : Int) (hv : v = (j : Int)) (hj : j ≤ 1000000) w => specAt x y j v hv w hj hy h64)
  change Hid (∀ (j : Nat) (v : Int) (_ : v = (j : Int)) (_ : j ≤ 1000000) w, Calls Try.prog 24 #[sqV x y, .int .i64 v] w fun e w' => e = .returned (.int .u8 ((atL x y j).toNat : Int)) ∧ Below w.heap.size w w') at HA
  have HD := Lib.hid (sh_diff h k)
  have HR : Hid ((shQ k x y = (x, y) → rhoN x y k = 0) ∧ (shQ k x y ≠ (x, y) → rhoN x y k = k + dfQ x y (shQ k x y) + 1)) := Lib.hid ⟨fun e => by unfold rhoN; rw [if_pos e], fun e => by unfold rhoN; rw [if_neg e]⟩
  have hlx := fun W => lenS 9 3 x Try.underlying9 W
  have hly := fun W => lenS 9 3 y Try.underlying9 W
  obtain ⟨n, hn⟩ : ∃ n, x.length + y.length = n := ⟨_, rfl⟩
  have hnI : (x.length : Int) + (y.length : Int) = (n : Int) := by omega
  rw [hn] at HD h64
  have wn : IntKind.i64.wrap ((x.length : Int) + (y.length : Int)) = (n : Int) := by rw [hnI]; exact IntWalk.i64_in _ (by omega)
  have wk : IntKind.i64.wrap ((k : Int) + (n : Int)) = (k : Int) + (n : Int) := IntWalk.i64_in _ (by omega)
  have w1 : wrap64 ((k : Int) + 1) = (k : Int) + 1 := by unfold wrap64; omega
  have w1' : IntKind.i64.wrap ((k : Int) + 1) = (k : Int) + 1 := IntWalk.i64_in _ (by omega)
  have S0 := sqs0 w x y 32
  clear h hy hn hnI
  generalize (x.length : Int) = lx at *
  generalize (y.length : Int) = ly at *
  generalize rhoN x y k = RN at *
  go_enter Try.func19, Try.ntmps19
  go_wp2
  clear w1 w1'
  go_loopw [5] (fun s wr => ∃ i : Nat, i ≤ n ∧ s = .int .i64 ((k : Int) + 1 + (i : Int)) ∧ Hid (∀ j, j < i → atL x y (k + j) = atL x y j) ∧ SqS w x y wr) (fun s _ => n + k + 1 - (intOf s).toNat)
  case atStart => exact ⟨0, by omega, by simp, Lib.hid (fun j h => absurd h (by omega)), S0⟩
  case round =>
    clear S0
    obtain ⟨i, hi, rfl, HE, S⟩ := hrel
    obtain ⟨c0', c1'⟩ := And.intro S.c0 S.c1
    by_cases hlt : i < n
    · have hle : decide ((k : Int) + 1 + (i : Int) ≤ (k : Int) + (n : Int)) = true := decide_eq_true (by omega)
      have HAk := Lib.hid (HA.out (k + i) ((k : Int) + (i : Int)) (by omega) (by omega))
      have HAi := Lib.hid (HA.out i (i : Int) rfl (by omega))
      obtain ⟨J, hJ⟩ : ∃ J, (k : Int) + 1 + (i : Int) = J := ⟨_, rfl⟩
      obtain ⟨U, hU⟩ : ∃ U, (k : Int) + (i : Int) = U := ⟨_, rfl⟩
      obtain ⟨V, hV⟩ : ∃ V, (i : Int) + 1 = V := ⟨_, rfl⟩
      have v1 : IntKind.i64.wrap (J - 1) = U := by rw [IntWalk.i64_in _ (by omega)]; omega
      have v2 : IntKind.i64.wrap (J - (k : Int)) = V := by rw [IntWalk.i64_in _ (by omega)]; omega
      have v3 : IntKind.i64.wrap (V - 1) = (i : Int) := by rw [IntWalk.i64_in _ (by omega)]; omega
      have v4 : IntKind.i64.wrap (J + 1) = J + 1 := IntWalk.i64_in _ (by omega)
      rw [hJ] at hle ⊢
      rw [hU] at HAk
      have HJ := Lib.hid hJ
      have hz := S.z
      clear hJ hU hV
      by_cases heq : atL x y (k + i) = atL x y i
      · have HQ := Lib.hid heq
        rw [heq] at HAk
        generalize ((atL x y i).toNat : Int) = L at *
        clear heq
        go_wp2_with fail
        refine wp_region_held_drew (S := (SqS w x y)) (by kernel_rfl) ?_ (fun hHeld => ?_)
        · exact S.on (Below.refl _ _).drew
        refine wpAnyH_take (i := 0) (v := ?_) rfl (by kernel_rfl) (by kernel_rfl) (by kernel_rfl) (fun _ _ _ h => h) (Or.inl ⟨by kernel_rfl, ?_⟩) hHeld ?_
        rotate_left
        · intro w hSw; obtain ⟨B, z, c0, c1⟩ := hSw; first | (go_simp; done) | (go_simp; with_reducible rfl)
        refine wpAnyH_take (i := 1) (v := ?_) rfl (by kernel_rfl) (by kernel_rfl) (by kernel_rfl) (fun _ _ _ h => h) (Or.inl ⟨by kernel_rfl, ?_⟩) hHeld ?_
        rotate_left
        · intro w hSw; obtain ⟨B, z, c0, c1⟩ := hSw; first | (go_simp; done) | (go_simp; with_reducible rfl)
        refine wpAnyH_take (i := 2) (v := ?_) rfl (by kernel_rfl) (by kernel_rfl) (by kernel_rfl) (fun _ _ _ h => h) (Or.inl ⟨by kernel_rfl, ?_⟩) hHeld ?_
        rotate_left
        · intro w hSw; obtain ⟨B, z, c0, c1⟩ := hSw; first | (go_simp; done) | (go_simp; with_reducible rfl)
        refine wpAnyH_take (i := 4) (v := ?_) rfl (by kernel_rfl) (by kernel_rfl) (by kernel_rfl) (fun _ _ _ h => h) (Or.inl ⟨by kernel_rfl, ?_⟩) hHeld ?_
        rotate_left
        · intro w hSw; obtain ⟨B, z, c0, c1⟩ := hSw; first | (go_simp; done) | (go_simp; with_reducible rfl)
        refine wpAnyH_take (i := 5) (v := ?_) rfl (by kernel_rfl) (by kernel_rfl) (by kernel_rfl) (fun _ _ _ h => h) (Or.inl ⟨by kernel_rfl, ?_⟩) hHeld ?_
        rotate_left
        · intro w hSw; obtain ⟨B, z, c0, c1⟩ := hSw; first | (go_simp; done) | (go_simp; with_reducible rfl)
        refine wpAnyH_take (i := 6) (v := ?_) rfl (by kernel_rfl) (by kernel_rfl) (by kernel_rfl) (fun _ _ _ h => h) (Or.inl ⟨by kernel_rfl, ?_⟩) hHeld ?_
        rotate_left
        · intro w hSw; obtain ⟨B, z, c0, c1⟩ := hSw; first | (go_simp; done) | (go_simp; with_reducible rfl)
        refine wpAnyH_take (i := 7) (v := ?_) rfl (by kernel_rfl) (by kernel_rfl) (by kernel_rfl) (fun _ _ _ h => h) (Or.inl ⟨by kernel_rfl, ?_⟩) hHeld ?_
        rotate_left
        · intro w hSw; obtain ⟨B, z, c0, c1⟩ := hSw; first | (go_simp; done) | (go_simp; with_reducible rfl)
        refine wpAnyH_take (i := 8) (v := ?_) rfl (by kernel_rfl) (by kernel_rfl) (by kernel_rfl) (fun _ _ _ h => h) (Or.inl ⟨by kernel_rfl, ?_⟩) hHeld ?_
        rotate_left
        · intro w hSw; obtain ⟨B, z, c0, c1⟩ := hSw; first | (go_simp; done) | (go_simp; with_reducible rfl)
        refine wpAnyH_ready (rs := [3]) (by kernel_rfl) (by simp) ?_
        refine AllReadyH.cons rfl (fun K hK => ?_) AllReadyH.nil
        go_simp
        go_wp2_with (go_at_call 24; (with_reducible refine (HAk.out _).mono ?_); rintro e w4 ⟨rfl, hb4⟩)
        have S4 := hHeld.on hb4
        refine hK.out _ _ ?_ (fun hHeld => ?_)
        · exact S4
        clear hK K
        refine wpAnyH_ready (rs := [9]) (by kernel_rfl) (by simp) ?_
        refine AllReadyH.cons rfl (fun K hK => ?_) AllReadyH.nil
        go_simp
        go_wp2_with (go_at_call 24; (with_reducible refine (HAi.out _).mono ?_); rintro e w5 ⟨rfl, hb5⟩)
        have S5 := S4.on hb5
        refine hK.out _ _ ?_ (fun hHeld => ?_)
        · exact S5
        clear hK K
        refine wpAnyH_take (i := 10) (v := ?_) rfl (by kernel_rfl) (by kernel_rfl) (by kernel_rfl) (fun _ _ _ h => h) (Or.inl ⟨by kernel_rfl, ?_⟩) hHeld ?_
        rotate_left
        · intro w hSw; obtain ⟨B, z, c0, c1⟩ := hSw; first | (go_simp; done) | (go_simp; with_reducible rfl)
        refine wpAnyH_done (by kernel_rfl) ?_ _
        go_wp2
        go_roundw
        case rel => exact ⟨i + 1, by omega, by have := HJ.out; congr 1; omega, Lib.hid (fun j hj => by
          by_cases e : j = i
          · rw [e]; exact HQ.out
          · exact HE.out j (by omega)), S5⟩
        case measure => have := HJ.out; simp [intOf]; omega
      · have hne : (((atL x y (k + i)).toNat : Int) == ((atL x y i).toNat : Int)) = false := by
          rw [byte_eq]; exact beq_eq_false_iff_ne.2 heq
        have HRN : Hid ((RN : Int) = J) := Lib.hid (by
          rcases HD.out with ⟨-, h⟩ | ⟨h1, h2, h3, h4⟩
          · exact absurd (h i) heq
          · have e := HR.out.2 h1
            have hii : dfQ x y (shQ k x y) = i := by
              rcases Nat.lt_trichotomy (dfQ x y (shQ k x y)) i with h5 | h5 | h5
              · exact absurd (HE.out _ h5) h4
              · exact h5
              · exact absurd (h3 i h5) heq
            have := HJ.out
            omega)
        generalize ((atL x y (k + i)).toNat : Int) = L1 at *
        generalize ((atL x y i).toNat : Int) = L2 at *
        clear heq
        go_wp2_with fail
        refine wp_region_held_drew (S := (SqS w x y)) (by kernel_rfl) ?_ (fun hHeld => ?_)
        · exact S.on (Below.refl _ _).drew
        refine wpAnyH_take (i := 0) (v := ?_) rfl (by kernel_rfl) (by kernel_rfl) (by kernel_rfl) (fun _ _ _ h => h) (Or.inl ⟨by kernel_rfl, ?_⟩) hHeld ?_
        rotate_left
        · intro w hSw; obtain ⟨B, z, c0, c1⟩ := hSw; first | (go_simp; done) | (go_simp; with_reducible rfl)
        refine wpAnyH_take (i := 1) (v := ?_) rfl (by kernel_rfl) (by kernel_rfl) (by kernel_rfl) (fun _ _ _ h => h) (Or.inl ⟨by kernel_rfl, ?_⟩) hHeld ?_
        rotate_left
        · intro w hSw; obtain ⟨B, z, c0, c1⟩ := hSw; first | (go_simp; done) | (go_simp; with_reducible rfl)
        refine wpAnyH_take (i := 2) (v := ?_) rfl (by kernel_rfl) (by kernel_rfl) (by kernel_rfl) (fun _ _ _ h => h) (Or.inl ⟨by kernel_rfl, ?_⟩) hHeld ?_
        rotate_left
        · intro w hSw; obtain ⟨B, z, c0, c1⟩ := hSw; first | (go_simp; done) | (go_simp; with_reducible rfl)
        refine wpAnyH_take (i := 4) (v := ?_) rfl (by kernel_rfl) (by kernel_rfl) (by kernel_rfl) (fun _ _ _ h => h) (Or.inl ⟨by kernel_rfl, ?_⟩) hHeld ?_
        rotate_left
        · intro w hSw; obtain ⟨B, z, c0, c1⟩ := hSw; first | (go_simp; done) | (go_simp; with_reducible rfl)
        refine wpAnyH_take (i := 5) (v := ?_) rfl (by kernel_rfl) (by kernel_rfl) (by kernel_rfl) (fun _ _ _ h => h) (Or.inl ⟨by kernel_rfl, ?_⟩) hHeld ?_
        rotate_left
        · intro w hSw; obtain ⟨B, z, c0, c1⟩ := hSw; first | (go_simp; done) | (go_simp; with_reducible rfl)
        refine wpAnyH_take (i := 6) (v := ?_) rfl (by kernel_rfl) (by kernel_rfl) (by kernel_rfl) (fun _ _ _ h => h) (Or.inl ⟨by kernel_rfl, ?_⟩) hHeld ?_
        rotate_left
        · intro w hSw; obtain ⟨B, z, c0, c1⟩ := hSw; first | (go_simp; done) | (go_simp; with_reducible rfl)
        refine wpAnyH_take (i := 7) (v := ?_) rfl (by kernel_rfl) (by kernel_rfl) (by kernel_rfl) (fun _ _ _ h => h) (Or.inl ⟨by kernel_rfl, ?_⟩) hHeld ?_
        rotate_left
        · intro w hSw; obtain ⟨B, z, c0, c1⟩ := hSw; first | (go_simp; done) | (go_simp; with_reducible rfl)
        refine wpAnyH_take (i := 8) (v := ?_) rfl (by kernel_rfl) (by kernel_rfl) (by kernel_rfl) (fun _ _ _ h => h) (Or.inl ⟨by kernel_rfl, ?_⟩) hHeld ?_
        rotate_left
        · intro w hSw; obtain ⟨B, z, c0, c1⟩ := hSw; first | (go_simp; done) | (go_simp; with_reducible rfl)
        refine wpAnyH_ready (rs := [3]) (by kernel_rfl) (by simp) ?_
        refine AllReadyH.cons rfl (fun K hK => ?_) AllReadyH.nil
        go_simp
        go_wp2_with (go_at_call 24; (with_reducible refine (HAk.out _).mono ?_); rintro e w4 ⟨rfl, hb4⟩)
        have S4 := hHeld.on hb4
        refine hK.out _ _ ?_ (fun hHeld => ?_)
        · exact S4
        clear hK K
        refine wpAnyH_ready (rs := [9]) (by kernel_rfl) (by simp) ?_
        refine AllReadyH.cons rfl (fun K hK => ?_) AllReadyH.nil
        go_simp
        go_wp2_with (go_at_call 24; (with_reducible refine (HAi.out _).mono ?_); rintro e w5 ⟨rfl, hb5⟩)
        have S5 := S4.on hb5
        refine hK.out _ _ ?_ (fun hHeld => ?_)
        · exact S5
        clear hK K
        refine wpAnyH_take (i := 10) (v := ?_) rfl (by kernel_rfl) (by kernel_rfl) (by kernel_rfl) (fun _ _ _ h => h) (Or.inl ⟨by kernel_rfl, ?_⟩) hHeld ?_
        rotate_left
        · intro w hSw; obtain ⟨B, z, c0, c1⟩ := hSw; first | (go_simp; done) | (go_simp; with_reducible rfl)
        refine wpAnyH_done (by kernel_rfl) ?_ _
        go_wp2
        go_ret
        exact ⟨by rw [HRN.out]; rfl, S5.B⟩
    · have hle : decide ((k : Int) + 1 + (i : Int) ≤ (k : Int) + (n : Int)) = false := decide_eq_false (by omega)
      have HRN : Hid (RN = 0) := Lib.hid (by
        rcases HD.out with ⟨h, -⟩ | ⟨h1, h2, h3, h4⟩
        · exact HR.out.1 h
        · exact absurd (HE.out _ (by omega)) h4)
      have hz := S.z
      go_wp2
      go_ret
      exact ⟨by rw [HRN.out]; rfl, S.B⟩
end Go.Proofs.Ytdemgialagjomaa

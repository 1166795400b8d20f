/-
  Rotation sets: plain mathematics, and the model's side.
  Contracts: RotationSet, on both sides.
  Contracts: RotationSet, on the program's side.
-/
import Derived.Test.YtnoaahkpcnkbnaaW34
import Derived.Deep.LoopGhost
import Derived.Test.YtnoaahkpcnkbnaaW35
import Derived.BigQuiet
namespace Go.Proofs.Ytnoaahkpcnkbnaa
open Go.RowKit

/-- The first i digits of the angle told by k, as a number. -/
def rDg (q v k : Nat) : Nat → Nat
  | 0 => 0
  | i + 1 => 2 * rDg q v k i + (if v - q ≤ (k + i * q) % v then 1 else 0)
theorem rDg_lt (q v k : Nat) : ∀ i, rDg q v k i < 2 ^ i
  | 0 => by simp [rDg]
  | i + 1 => by
    have := rDg_lt q v k i
    unfold rDg
    rw [Nat.pow_succ]
    split <;> omega
theorem rDg_le {q v k i : Nat} (h : i ≤ 13) : rDg q v k i ≤ 8191 ∧ 2 ^ i ≤ 8192 := by
  have h1 := rDg_lt q v k i
  have h2 : 2 ^ i ≤ 2 ^ 13 := Nat.pow_le_pow_right (by omega) h
  have h3 : 2 ^ 13 = 8192 := by decide
  omega
/-- The angle told by k. -/
def rotA (q v k : Nat) : Int × Int := (redN (rDg q v k v : Nat) (2 ^ v - 1 : Nat), redD (rDg q v k v : Nat) (2 ^ v - 1 : Nat))
/-- The rotation set of q and v. -/
def rotL (q v : Nat) : List (Int × Int) := (List.range v).map (rotA q v)
theorem rotL_len (q v : Nat) : (rotL q v).length = v := by simp [rotL]
theorem rot_at {q v k : Nat} (h : k < v) : (rotL q v)[k]? = some (rotA q v k) := by
  unfold rotL
  rw [List.getElem?_map, List.getElem?_range h]
  rfl
/-- Angles, each lesser than all behind it. -/
def okL (l : List (Int × Int)) : Bool := allAng l && decide (l.Pairwise fun x y => lessA x y = true)
theorem rot_all : ((List.range 14).all fun v => (List.range v).all fun q => !(decide (2 ≤ v) && decide (1 ≤ q) && decide (Nat.gcd q v = 1)) || okL (rotL q v)) = true := by decide +kernel
theorem rot_ok {q v : Nat} (hv : v ≤ 13) (h2 : 2 ≤ v) (h1 : 1 ≤ q) (hq : q < v) (hg : gcdI q v = 1) : allAng (rotL q v) = true ∧ rotL q v = insAll (rotL q v) := by
  have h := rot_all
  rw [List.all_eq_true] at h
  have h := h v (List.mem_range.2 (by omega))
  rw [List.all_eq_true] at h
  have h := h q (List.mem_range.2 hq)
  have hg' : Nat.gcd q v = 1 := by
    have h' : Int.gcd (q : Int) (v : Int) = 1 := by unfold gcdI at hg; omega
    exact h'
  rw [decide_eq_true h2, decide_eq_true h1, decide_eq_true hg'] at h
  have h : okL (rotL q v) = true := by simpa using h
  unfold okL at h
  rw [Bool.and_eq_true] at h
  obtain ⟨ha, hp⟩ := h
  have hp := of_decide_eq_true hp
  refine ⟨ha, ascA_uniq _ _ hp (insAll_asc ha) fun x => (insAll_mem _ x).symm⟩
theorem rot_mod {q v k i : Nat} (hq : q < v) (hv : v ≤ 13) (hk : k < v) (hi : i < v) :
    ∃ M : Nat, (k + i * q) % v = M ∧ ((k : Int) + (i : Int) * (q : Int)).tmod (v : Int) = (M : Int) ∧ ((k : Int) + (i : Int) * (q : Int)) % (v : Int) = (M : Int) ∧ M < v ∧ 0 ≤ (i : Int) * (q : Int) ∧ (i : Int) * (q : Int) ≤ 169 := by
  have p : i * q ≤ 13 * 13 := Nat.mul_le_mul (by omega) (by omega)
  have e : ((k : Int) + (i : Int) * (q : Int)) = ((k + i * q : Nat) : Int) := by simp
  have e2 : (i : Int) * (q : Int) = ((i * q : Nat) : Int) := by simp
  refine ⟨_, rfl, ?_, ?_, Nat.mod_lt _ (by omega), ?_, ?_⟩
  · rw [e, Int.tmod_eq_emod_of_nonneg (by omega)]; norm_cast
  · rw [e]; norm_cast
  · rw [e2]; omega
  · rw [e2]; omega

set_option maxRecDepth 100000 in
set_option maxHeartbeats 2000000 in
theorem specRot (q v : Nat) (w : World) (h2 : 2 ≤ v) (hv : v ≤ 13) (h1 : 1 ≤ q) (hq : q < v) (hok : allAng (rotL q v) = true) (hsame : rotL q v = insAll (rotL q v)) :
    Calls Try.prog 20 #[.int .i64 q, .int .i64 v] w fun e w' => ∃ b c, e = .returned (.slice (some ⟨b, 0, none⟩) (rotL q v).length c) ∧ AngOwn w' w.heap.size (some ⟨b, 0, none⟩) (rotL q v) ∧ Below w.heap.size w w' := by
  have HOk := Lib.hid hok
  have HSame := Lib.hid hsame
  clear hok hsame
  have hvn : ¬ (v : Int) = 0 := by omega
  go_enter Try.func20, Try.ntmps20
  go_wp2_with fail
  have HB0 : Hid (Below w.heap.size w (w.alloc (.cells #[] 32))) := Lib.hid (belowAlloc (Below.refl _ _) _)
  have HS : Hid ((w.alloc (.cells #[] 32)).ownsRow w.heap.size 32 2 (.slice (some ⟨w.heap.size, 0, none⟩) ([] : List (Int × Int)).length 0) ([] : List (Int × Int)).length (flatA [])) := Lib.hid ⟨rfl, .inr ⟨w.heap.size, 0, #[], rfl, Nat.le_refl _, heap_alloc_new w (.cells #[] 32), by simp, by unfold maxLen; omega, rfl, rfl⟩⟩
  generalize w.alloc (.cells #[] 32) = wc at *
  go_loopg [5, 6, 7, 8, 9] v (fun g s5 s6 _ _ _ wr => ∃ (k : Nat) (O : List (Int × Int)) (b c : Nat), k + g = v ∧ s6 = .int .i64 k ∧ s5 = .slice (some ⟨b, 0, none⟩) O.length c ∧ Hid (O = insAll ((rotL q v).take k)) ∧ Hid (wr.ownsRow w.heap.size 32 2 s5 O.length (flatA O)) ∧ Hid (Below w.heap.size w wr))
  case atStart => exact ⟨0, [], w.heap.size, 0, by omega, rfl, rfl, Lib.hid rfl, HS, HB0⟩
  case round =>
    clear HS HB0
    obtain ⟨k, O, b, c, hkg, rfl, rfl, HO, HW, HB⟩ := hrel
    cases gk with
    | zero =>
      obtain rfl : k = v := by omega
      have e2 : (rotL q k).take k = rotL q k := by rw [List.take_of_length_le]; rw [rotL_len]; exact Nat.le_refl _
      rw [e2, ← HSame.out] at HO
      have HW2 := Lib.hid (ownA_of rfl HW.out)
      clear HW e2
      go_wp2
      go_ret
      rw [← HO.out]
      exact ⟨b, c, rfl, HW2.out, HB.out⟩
    | succ g =>
      have hlt : k < v := by omega
      have HQ := Lib.hid (rot_at (q := q) hlt)
      have HOl : O.length ≤ k := by rw [HO.out]; exact Nat.le_trans (insAll_len _) (by rw [List.length_take]; omega)
      have HOk2 : Hid (allAng O = true) := Lib.hid (by
        rw [HO.out]
        refine allAng_ins ?_
        have := HOk.out
        unfold allAng at *
        rw [List.all_eq_true] at *
        exact fun x hx => this x (List.mem_of_mem_take hx))
      have HE : Hid (insA O (rotA q v k) = insAll ((rotL q v).take (k + 1))) := Lib.hid (by rw [HO.out]; exact (insAll_next HQ.out).symm)
      have HP : Hid (isAng (rotA q v k).1 (rotA q v k).2 = true) := Lib.hid (allAng_mem HOk.out (List.mem_of_getElem? HQ.out))
      clear HO
      go_wp2
      go_loopg [7, 8, 9] v (fun g2 s7 s8 s9 wx => ∃ i : Nat, i + g2 = v ∧ s7 = .int .i64 (rDg q v k i : Nat) ∧ s8 = .int .i64 (2 ^ i : Nat) ∧ s9 = .int .i64 i ∧ wx = wr)
      case atStart => exact ⟨0, by omega, rfl, rfl, rfl, rfl⟩
      case round =>
        obtain ⟨i, hig, rfl, rfl, rfl, rfl⟩ := hrel
        obtain ⟨hd, hp⟩ := rDg_le (q := q) (v := v) (k := k) (i := i) (by omega)
        cases gk with
        | zero =>
          obtain rfl : i = v := by omega
          have hp1 : 1 ≤ 2 ^ i := Nat.one_le_two_pow
          have hp2 : 4 ≤ 2 ^ i := by
            obtain ⟨m, rfl⟩ : ∃ m, i = m + 2 := ⟨i - 2, by omega⟩
            have : 1 ≤ 2 ^ m := Nat.one_le_two_pow
            rw [Nat.pow_succ, Nat.pow_succ]; omega
          have hpc : ((2 ^ i : Nat) : Int) - 1 = ((2 ^ i - 1 : Nat) : Int) := by omega
          have HR := Lib.hid (fun W => specRed (rDg q i k i : Nat) (2 ^ i - 1 : Nat) W (by omega) (by omega) (by omega) (by omega))
          have HI := Lib.hid (fun W (hB : Below wr.heap.size wr W) => specInsA w.heap.size b c O (rotA q i k).1 (rotA q i k).2 W (Nat.le_trans HB.out.size hB.size) HOk2.out HP.out (by omega) (ownKeepA HW.out hB))
          have eP : rotA q i k = (redN (rDg q i k i : Nat) (2 ^ i - 1 : Nat), redD (rDg q i k i : Nat) (2 ^ i - 1 : Nat)) := rfl
          rw [eP] at HI HE
          dsimp only at HI
          generalize redN (rDg q i k i : Nat) (2 ^ i - 1 : Nat) = X at *
          generalize redD (rDg q i k i : Nat) (2 ^ i - 1 : Nat) = Y at *
          generalize rDg q i k i = D at *
          generalize 2 ^ i = E at *
          generalize hEE : E - 1 = E1 at *
          have hw : IntKind.i64.wrap (E1 : Int) = (E1 : Int) := IntWalk.i64_in _ (by omega)
          clear eP HP hEE
          go_wp2_with fail
          refine (HR.out _).mono ?_
          rintro e w1 ⟨rfl, hb1⟩
          go_wp2_with fail
          refine (HI.out _ (by (repeat' (first | (with_reducible exact Below.refl _ _) | (with_reducible assumption) | (with_reducible refine belowNext ?_ (by with_reducible assumption)) | (with_reducible refine belowAlloc ?_ _) | (with_reducible refine Below.drew ?_) | (with_reducible refine below_drewN ?_ _) | (with_reducible refine Below.setCell ?_ ?_ _) | go_size | (with_reducible refine sizeOf' ?_) | (with_reducible refine sizeAdd ?_) | (dsimp only; first | (with_reducible refine sizeOf' ?_) | (with_reducible refine sizeAdd ?_)))))).mono ?_
          rintro e w2 ⟨b2, c2, rfl, ho2, hb2⟩
          have HW2 := Lib.hid ho2
          have HB2 : Hid (Below w.heap.size w w2) := Lib.hid (belowNext (belowNext HB.out (by (repeat' (first | (with_reducible exact Below.refl _ _) | (with_reducible assumption) | (with_reducible refine belowNext ?_ (by with_reducible assumption)) | (with_reducible refine belowAlloc ?_ _) | (with_reducible refine Below.drew ?_) | (with_reducible refine below_drewN ?_ _) | (with_reducible refine Below.setCell ?_ ?_ _) | go_size | (with_reducible refine sizeOf' ?_) | (with_reducible refine sizeAdd ?_) | (dsimp only; first | (with_reducible refine sizeOf' ?_) | (with_reducible refine sizeAdd ?_)))))) hb2)
          clear ho2 hb1 hb2 HI HW HB
          go_wp2
          go_roundg g
          case measure => omega
          case rel => exact ⟨k + 1, _, b2, c2, by omega, by go_num, rfl, HE, HW2, HB2⟩
        | succ g2 =>
          obtain ⟨M, hM, hm1, hm2, hMv, p0, p1⟩ := rot_mod hq hv hlt (show i < v by omega)
          have HD : Hid (rDg q v k (i + 1) = 2 * rDg q v k i + (if v - q ≤ M then 1 else 0)) := Lib.hid (by rw [← hM]; rfl)
          have HPw : Hid (2 ^ (i + 1) = 2 * 2 ^ i) := Lib.hid (by rw [Nat.pow_succ]; omega)
          generalize rDg q v k i = D at *
          generalize 2 ^ i = E at *
          clear hM
          by_cases hc : v - q ≤ M
          · have d1 : decide ((M : Int) ≥ (v : Int) - (q : Int)) = true := decide_eq_true (by omega)
            have d2 : (v : Int) - (q : Int) ≤ (M : Int) := by omega
            rw [if_pos hc] at HD
            go_wp2
            go_roundg g2
            case measure => omega
            case rel => exact ⟨i + 1, by omega, by rw [HD.out]; go_num, by rw [HPw.out]; go_num, by go_num, rfl⟩
          · have d1 : decide ((M : Int) ≥ (v : Int) - (q : Int)) = false := decide_eq_false (by omega)
            have d2 : ¬ ((v : Int) - (q : Int) ≤ (M : Int)) := by omega
            rw [if_neg hc] at HD
            go_wp2
            go_roundg g2
            case measure => omega
            case rel => exact ⟨i + 1, by omega, by rw [HD.out]; go_num, by rw [HPw.out]; go_num, by go_num, rfl⟩

/-- What RotationSet answers. -/
def RoIs (q v : Int) (R : List (Int × Int)) (C : Int) : Prop :=
  (∃ a b : Nat, q = (a : Int) ∧ v = (b : Int) ∧ 2 ≤ b ∧ b ≤ 13 ∧ 1 ≤ a ∧ a < b ∧ gcdI q v = 1 ∧ R = rotL a b ∧ C = 0) ∨
    ((v < 2 ∨ 13 < v ∨ q < 1 ∨ v ≤ q ∨ gcdI q v ≠ 1) ∧ R = [] ∧ C = 2)
theorem ro_ex (q v : Int) : ∃ R C, RoIs q v R C := by
  by_cases h : v < 2 ∨ 13 < v ∨ q < 1 ∨ v ≤ q ∨ gcdI q v ≠ 1
  · exact ⟨_, _, .inr ⟨h, rfl, rfl⟩⟩
  · have h5 : gcdI q v = 1 := Classical.byContradiction fun g => h (.inr (.inr (.inr (.inr g))))
    refine ⟨rotL q.toNat v.toNat, 0, .inl ⟨q.toNat, v.toNat, ?_, ?_, ?_, ?_, ?_, ?_, h5, rfl, rfl⟩⟩ <;> omega
theorem ro_len {q v : Int} {R : List (Int × Int)} {C : Int} (h : RoIs q v R C) : R.length ≤ 13 := by
  rcases h with ⟨a, b, _, _, _, h, _, _, _, rfl, _⟩ | ⟨_, rfl, _⟩
  · rw [rotL_len]; exact h
  · simp

set_option maxHeartbeats 1000000 in
theorem inRangeP (n a b : Int) (w : World) :
    Calls Try.prog 18 #[.int .i64 n, .int .i64 a, .int .i64 b] w fun e w' => e = .returned (.bool (decide (a ≤ n) && decide (n ≤ b))) ∧ w = w' := by
  by_cases h1 : a ≤ n <;> by_cases h2 : n ≤ b
  all_goals
    go_enter Try.func18, Try.ntmps18
    go_wp2
    go_ret
    exact ⟨by simp [h1, h2], rfl⟩

set_option maxRecDepth 8000 in
set_option maxHeartbeats 2000000 in
theorem specRotSet (q v : Int) (w : World) (R : List (Int × Int)) (C : Int) (h : RoIs q v R C) :
    Calls Try.prog 7 #[.int .i64 q, .int .i64 v] w (ResAng w R C) := by
  rcases h with ⟨a, b, rfl, rfl, h2, h13, h1, hq, hg, rfl, rfl⟩ | ⟨h, rfl, rfl⟩
  · obtain ⟨hok, hsame⟩ := rot_ok h13 h2 h1 hq hg
    have HR := Lib.hid (fun w => specRot a b w h2 h13 h1 hq hok hsame)
    have HG := Lib.hid (fun w => specGcd a b w (by omega) (by omega) (by omega) (by omega))
    rw [hg] at HG
    clear hok hsame hg
    have t1 : (decide ((2 : Int) ≤ (b : Int)) && decide ((b : Int) ≤ 13)) = true := by simp; omega
    have t2 : (decide ((1 : Int) ≤ (a : Int)) && decide ((a : Int) ≤ (b : Int) - 1)) = true := by simp; omega
    generalize rotL a b = l at *
    go_enter Try.func7, Try.ntmps7
    go_wp2_with fail
    refine (inRangeP _ _ _ _).mono ?_
    rintro e w1 ⟨rfl, rfl⟩
    rw [t1]
    go_wp2_with fail
    refine (inRangeP _ _ _ _).mono ?_
    rintro e w1 ⟨rfl, rfl⟩
    rw [t2]
    go_wp2_with fail
    refine (HG.out _).mono ?_
    rintro e w1 ⟨rfl, rfl⟩
    go_wp2_with fail
    refine (HR.out _).mono ?_
    rintro e w2 ⟨g, c, rfl, ho, hb2⟩
    have HO := Lib.hid ho
    clear ho
    go_wp2
    go_ret2
    exact ⟨_, c, rfl, HO.out, hb2⟩
  · by_cases c1 : 2 ≤ v ∧ v ≤ 13
    · have t1 : (decide ((2 : Int) ≤ v) && decide (v ≤ 13)) = true := by simp; omega
      have hw : IntKind.i64.wrap (v - 1) = v - 1 := IntWalk.i64_in _ (by omega)
      by_cases c2 : 1 ≤ q ∧ q ≤ v - 1
      · have t2 : (decide ((1 : Int) ≤ q) && decide (q ≤ v - 1)) = true := by simp; omega
        have hg : gcdI q v ≠ 1 := by
          rcases h with h | h | h | h | h
          · omega
          · omega
          · omega
          · omega
          · exact h
        have HG := Lib.hid (fun w => specGcd q v w (by omega) (by omega) (by omega) (by omega))
        generalize gcdI q v = G at *
        clear h
        go_enter Try.func7, Try.ntmps7
        go_wp2_with fail
        refine (inRangeP _ _ _ _).mono ?_
        rintro e w1 ⟨rfl, rfl⟩
        rw [t1]
        go_wp2_with fail
        refine (inRangeP _ _ _ _).mono ?_
        rintro e w1 ⟨rfl, rfl⟩
        rw [t2]
        go_wp2_with fail
        refine (HG.out _).mono ?_
        rintro e w1 ⟨rfl, rfl⟩
        have hG : (G == 1) = false := beq_eq_false_iff_ne.2 hg
        go_wp2
        go_ret2
        exact ⟨none, 0, rfl, own_nil, Below.refl _ _⟩
      · have t2 : (decide ((1 : Int) ≤ q) && decide (q ≤ v - 1)) = false := by simp; omega
        clear h
        go_enter Try.func7, Try.ntmps7
        go_wp2_with fail
        refine (inRangeP _ _ _ _).mono ?_
        rintro e w1 ⟨rfl, rfl⟩
        rw [t1]
        go_wp2_with fail
        refine (inRangeP _ _ _ _).mono ?_
        rintro e w1 ⟨rfl, rfl⟩
        rw [t2]
        go_wp2
        go_ret2
        exact ⟨none, 0, rfl, own_nil, Below.refl _ _⟩
    · have t1 : (decide ((2 : Int) ≤ v) && decide (v ≤ 13)) = false := by simp; omega
      clear h
      go_enter Try.func7, Try.ntmps7
      go_wp2_with fail
      refine (inRangeP _ _ _ _).mono ?_
      rintro e w1 ⟨rfl, rfl⟩
      rw [t1]
      go_wp2
      go_ret2
      exact ⟨none, 0, rfl, own_nil, Below.refl _ _⟩

theorem ownSuccP {W : World} {e : TypeId} {size : Nat} {v : Value} {n : Nat} {xs : List Value} {lo : Nat} (h : W.ownsRow lo e size v (n + 1) xs) : ∃ g c, v = .slice (some ⟨g, 0, none⟩) (n + 1) c := by
  obtain ⟨g, c, hv, _⟩ := h.form (by omega)
  exact ⟨g, c, hv⟩
theorem rot_flat (q v k : Nat) : flatA [rotA q v k] = [.int .i64 (redN (rDg q v k v : Nat) (2 ^ v - 1 : Nat)), .int .i64 (redD (rDg q v k v : Nat) (2 ^ v - 1 : Nat))] := rfl
theorem shlP {v : Nat} (h2 : 2 ≤ v) (h : v ≤ 13) : ∃ (E1 : Nat) (DD : Int), 2 ^ v - 1 = E1 ∧ wrap64 ((2 : Int) ^ v) = DD ∧ DD - 1 = (E1 : Int) ∧ 3 ≤ E1 ∧ E1 ≤ 8191 := by
  have p1 : 2 ^ v ≤ 2 ^ 13 := Nat.pow_le_pow_right (by omega) h
  have p2 : 2 ^ 2 ≤ 2 ^ v := Nat.pow_le_pow_right (by omega) h2
  have p3 : 2 ^ 13 = 8192 := by decide
  refine ⟨2 ^ v - 1, ((2 ^ v - 1 + 1 : Nat) : Int), rfl, ?_, by omega, by omega, by omega⟩
  rw [show (2 : Int) ^ v = ((2 ^ v : Nat) : Int) from by rw [Int.natCast_pow]; rfl, show 2 ^ v - 1 + 1 = 2 ^ v by omega]
  generalize 2 ^ v = E at *
  exact IntWalk.wrap64_in _ (by omega)

set_option maxRecDepth 100000 in
set_option maxHeartbeats 2000000 in
theorem implRotSet (q v : Int) (w : World) (R : List (Int × Int)) (C : Int) (h : RoIs q v R C) :
    Calls Try.prog 6 #[.int .i64 q, .int .i64 v] w (ResAng w R C) := by
  obtain ⟨i0, hi, hz0, hz1, hz2⟩ := infoAg_parts infoAg
  rcases h with ⟨a, b, rfl, rfl, h2, h13, h1, hq, hg, rfl, rfl⟩ | ⟨h, rfl, rfl⟩
  · have HG := Lib.hid (fun w => implGcd a b w (by omega) (by omega) (by omega) (by omega))
    rw [hg] at HG
    clear hg
    have n1 : ¬ ((b : Int) < 2) := by omega
    have n2 : ¬ ((13 : Int) < (b : Int)) := by omega
    have n3 : ¬ ((a : Int) < 1) := by omega
    have n4 : ¬ ((b : Int) ≤ (a : Int)) := by omega
    have hbn : ¬ (b : Int) = 0 := by omega
    go_enter Try.func6, Try.ntmps6
    go_wp2_with fail
    refine (HG.out _).mono ?_
    rintro e w1 ⟨rfl, nq, rfl⟩
    have HB0 : Hid (Below w.heap.size w (w.drewN nq)) := Lib.hid (by (repeat' (first | (with_reducible exact Below.refl _ _) | (with_reducible assumption) | (with_reducible refine belowNext ?_ (by with_reducible assumption)) | (with_reducible refine belowAlloc ?_ _) | (with_reducible refine Below.drew ?_) | (with_reducible refine below_drewN ?_ _) | (with_reducible refine Below.setCell ?_ ?_ _) | go_size | (with_reducible refine sizeOf' ?_) | (with_reducible refine sizeAdd ?_) | (dsimp only; first | (with_reducible refine sizeOf' ?_) | (with_reducible refine sizeAdd ?_)))))
    have hsz : (w.drewN nq).heap.size = w.heap.size := rfl
    generalize w.drewN nq = wc at *
    go_wp2
    go_loopg [6, 7, 8, 9, 32] b (fun g s6 _ _ _ s32 wr => ∃ (k : Nat) (A : Option Addr) (cap : Nat), k + g = b ∧ s32 = .int .i64 k ∧ s6 = .slice A k cap ∧ Hid (wr.ownsRow w.heap.size 32 2 (.slice A k cap) k (flatA ((rotL a b).take k))) ∧ Hid (Below w.heap.size w wr))
    case atStart => exact ⟨0, none, 0, by omega, rfl, rfl, Lib.hid (World.ownsRow_nil _ _ _ _), HB0⟩
    case round =>
      clear HB0
      obtain ⟨k, A, cap, hkg, rfl, rfl, HW, HB⟩ := hrel
      cases gk with
      | zero =>
        obtain rfl : k = b := by omega
        have e2 : (rotL a k).take k = rotL a k := by rw [List.take_of_length_le]; rw [rotL_len]; exact Nat.le_refl _
        rw [e2] at HW
        have HW2 := Lib.hid (ownA_of (rotL_len a k) HW.out)
        have hl := rotL_len a k
        clear HW e2
        go_wp2
        go_ret2
        exact ⟨A, cap, by rw [rotL_len]; rfl, HW2.out, HB.out⟩
      | succ g =>
        have hlt : k < b := by omega
        have HQ := Lib.hid (rot_at (q := a) hlt)
        go_wp2
        go_loopg [8, 9, 36] b (fun g2 s8 _ s36 wx => ∃ i : Nat, i + g2 = b ∧ s8 = .int .i64 (rDg a b k i : Nat) ∧ s36 = .int .i64 i ∧ wx = wr)
        case atStart => exact ⟨0, by omega, rfl, rfl, rfl⟩
        case round =>
          obtain ⟨i, hig, rfl, rfl, rfl⟩ := hrel
          obtain ⟨hd, hp⟩ := rDg_le (q := a) (v := b) (k := k) (i := i) (by omega)
          cases gk with
          | zero =>
            obtain rfl : i = b := by omega
            obtain ⟨E1, DD, hE1, hs0, hD1, hE3, hE8⟩ := shlP h2 h13
            have HSH := Lib.hid hs0
            have HD1 := Lib.hid hD1
            clear hs0 hD1
            have HR := Lib.hid (fun W => implRed (rDg a i k i : Nat) (E1 : Nat) W (by omega) (by omega) (by omega) (by omega))
            have HE : Hid (flatA ((rotL a i).take k) ++ [.int .i64 (redN (rDg a i k i : Nat) (E1 : Nat)), .int .i64 (redD (rDg a i k i : Nat) (E1 : Nat))] = flatA ((rotL a i).take (k + 1))) := Lib.hid (by
              rw [List.take_add_one, HQ.out, Option.toList_some, flatA_app, rot_flat, hE1])
            generalize redN (rDg a i k i : Nat) (E1 : Nat) = X at *
            generalize redD (rDg a i k i : Nat) (E1 : Nat) = Y at *
            generalize rDg a i k i = D at *
            have hw : IntKind.i64.wrap (DD - 1) = (E1 : Int) := by rw [HD1.out]; exact IntWalk.i64_in _ (by omega)
            have hw2 : wrap64 (DD - 1) = (E1 : Int) := by rw [HD1.out]; exact IntWalk.wrap64_in _ (by omega)
            have HW1 := Lib.hid (fun W (hB : Below wr.heap.size wr W) => ownKeepA HW.out hB)
            have hs := HSH.out
            have HKG := Lib.hid hkg
            clear hE1 HW HQ hp hkg hig HD1 HSH
            go_wp2_with fail
            refine (HR.out _).mono ?_
            rintro e w2 ⟨rfl, hb2⟩
            have B02 : Below wr.heap.size wr w2 := by
              (repeat' (first | (with_reducible exact Below.refl _ _) | (with_reducible assumption) | (with_reducible refine belowNext ?_ (by with_reducible assumption)) | (with_reducible refine belowAlloc ?_ _) | (with_reducible refine Below.drew ?_) | (with_reducible refine below_drewN ?_ _) | (with_reducible refine Below.setCell ?_ ?_ _) | go_size | (with_reducible refine sizeOf' ?_) | (with_reducible refine sizeAdd ?_) | (dsimp only; first | (with_reducible refine sizeOf' ?_) | (with_reducible refine sizeAdd ?_))))
            have B2 := belowNext HB.out B02
            have HO2 := Lib.hid (HW1.out _ B02)
            clear hb2 HW1
            go_wp2_with (at_builtin; refine wpList_append_own _ rfl _ _ 26 rfl w.heap.size 32 i0 (.agg #[.int .i64 0, .int .i64 0]) 2 16 Try.underlying26 hi hz0 hz1 hz2 rfl (by decide) _ _ _ rfl (World.ownsRow.alloc (w := w2) HO2.out _) ⟨w2.heap.size, 0, none⟩ 1 1 [.int .i64 X, .int .i64 Y] rfl rfl ?c1 ?c2 ?c3 ?c4 ?c5 ?_)
            case c1 => exact cell_two_new _ _ _ _
            case c2 => intro u hu; simp at hu; rcases hu with rfl | rfl <;> rfl
            case c3 => unfold maxLen; omega
            case c4 => omega
            case c5 => have := B2.size; simp; omega
            intro v' w3 hown' hgrow _
            rw [HE.out] at hown'
            obtain ⟨gn, capn, rfl⟩ := ownSuccP hown'
            have B3 : Below w.heap.size w w3 := by
              have hb0 : Below w.heap.size w (w2.alloc (.cells #[.int .i64 X, .int .i64 Y] 32)) := belowAlloc B2 _
              refine hb0.grown hgrow hb0.size (fun r e => ?_)
              rcases HO2.out.2 with ⟨hv, _⟩ | ⟨g0, c0, cur, hv, hv2, _⟩
              · rw [hv] at e; simp [Value.ownBlock] at e
              · rw [hv] at e; simp [Value.ownBlock] at e; omega
            have HO3 := Lib.hid hown'
            have HB3 := Lib.hid B3
            clear hown' hgrow HO2 B3 B2 B02 HB HE
            go_wp2
            go_roundg g
            case measure => omega
            case rel => exact ⟨k + 1, _, _, by have := HKG.out; omega, by go_num, rfl, HO3, HB3⟩
          | succ g2 =>
            obtain ⟨M, hM, hm1, hm2, hMv, p0, p1⟩ := rot_mod hq h13 hlt (show i < b by omega)
            have HD : Hid (rDg a b k (i + 1) = 2 * rDg a b k i + (if b - a ≤ M then 1 else 0)) := Lib.hid (by rw [← hM]; rfl)
            generalize rDg a b k i = D at *
            clear hM
            by_cases hc : b - a ≤ M
            · have d1 : decide ((M : Int) ≥ (b : Int) - (a : Int)) = true := decide_eq_true (by omega)
              have d2 : (b : Int) - (a : Int) ≤ (M : Int) := by omega
              rw [if_pos hc] at HD
              go_wp2
              go_roundg g2
              case measure => omega
              case rel => exact ⟨i + 1, by omega, by rw [HD.out]; go_num, by go_num, rfl⟩
            · have d1 : decide ((M : Int) ≥ (b : Int) - (a : Int)) = false := decide_eq_false (by omega)
              have d2 : ¬ ((b : Int) - (a : Int) ≤ (M : Int)) := by omega
              rw [if_neg hc] at HD
              go_wp2
              go_roundg g2
              case measure => omega
              case rel => exact ⟨i + 1, by omega, by rw [HD.out]; go_num, by go_num, rfl⟩
  · have hcase : v < 2 ∨ (¬ v < 2 ∧ 13 < v) ∨ (¬ v < 2 ∧ ¬ 13 < v ∧ q < 1) ∨ (¬ v < 2 ∧ ¬ 13 < v ∧ ¬ q < 1 ∧ v ≤ q) ∨ (¬ v < 2 ∧ ¬ 13 < v ∧ ¬ q < 1 ∧ ¬ v ≤ q ∧ gcdI q v ≠ 1) := by
      rcases h with h | h | h | h | h <;> omega
    clear h
    rcases hcase with h1 | ⟨h1, h2⟩ | ⟨h1, h2, h3⟩ | ⟨h1, h2, h3, h4⟩ | ⟨h1, h2, h3, h4, h5⟩
    · go_enter Try.func6, Try.ntmps6
      go_wp2
      go_ret2
      exact ⟨none, 0, rfl, own_nil, Below.refl _ _⟩
    · go_enter Try.func6, Try.ntmps6
      go_wp2
      go_ret2
      exact ⟨none, 0, rfl, own_nil, Below.refl _ _⟩
    · go_enter Try.func6, Try.ntmps6
      go_wp2
      go_ret2
      exact ⟨none, 0, rfl, own_nil, Below.refl _ _⟩
    · go_enter Try.func6, Try.ntmps6
      go_wp2
      go_ret2
      exact ⟨none, 0, rfl, own_nil, Below.refl _ _⟩
    · have HG := Lib.hid (fun w => implGcd q v w (by omega) (by omega) (by omega) (by omega))
      generalize gcdI q v = G at *
      have hG : (G == 1) = false := beq_eq_false_iff_ne.2 h5
      go_enter Try.func6, Try.ntmps6
      go_wp2_with fail
      refine (HG.out _).mono ?_
      rintro e w1 ⟨rfl, nq, rfl⟩
      go_wp2
      go_ret2
      exact ⟨none, 0, rfl, own_nil, by (repeat' (first | (with_reducible exact Below.refl _ _) | (with_reducible assumption) | (with_reducible refine belowNext ?_ (by with_reducible assumption)) | (with_reducible refine belowAlloc ?_ _) | (with_reducible refine Below.drew ?_) | (with_reducible refine below_drewN ?_ _) | (with_reducible refine Below.setCell ?_ ?_ _) | go_size | (with_reducible refine sizeOf' ?_) | (with_reducible refine sizeAdd ?_) | (dsimp only; first | (with_reducible refine sizeOf' ?_) | (with_reducible refine sizeAdd ?_))))⟩
end Go.Proofs.Ytnoaahkpcnkbnaa

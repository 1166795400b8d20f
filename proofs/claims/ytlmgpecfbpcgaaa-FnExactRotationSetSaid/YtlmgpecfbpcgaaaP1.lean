/-
  Rotation sets: plain mathematics, and the model's side.
-/
import Derived.Test.YtlmgpecfbpcgaaaW34
import Derived.Deep.LoopGhost
namespace Go.Proofs.Ytlmgpecfbpcgaaa
open Go.RowKit

/-- The first i digits of the angle told by k, as a number. -/
def rDg (q v k : Nat) : Nat → Nat
  | 0 => 0
  | i + 1 => 2 * rDg q v k i + (if v - q ≤ (k + i * q) % v then 1 else 0)
theorem rDg_lt (q v k : Nat) : ∀ i, rDg q v k i < 2 ^ i
  | 0 => by simp [rDg]
  | i + 1 => by
    have := rDg_lt q v k i
    unfold rDg
    rw [Nat.pow_succ]
    split <;> omega
theorem rDg_le {q v k i : Nat} (h : i ≤ 13) : rDg q v k i ≤ 8191 ∧ 2 ^ i ≤ 8192 := by
  have h1 := rDg_lt q v k i
  have h2 : 2 ^ i ≤ 2 ^ 13 := Nat.pow_le_pow_right (by omega) h
  have h3 : 2 ^ 13 = 8192 := by decide
  omega
/-- The angle told by k. -/
def rotA (q v k : Nat) : Int × Int := (redN (rDg q v k v : Nat) (2 ^ v - 1 : Nat), redD (rDg q v k v : Nat) (2 ^ v - 1 : Nat))
/-- The rotation set of q and v. -/
def rotL (q v : Nat) : List (Int × Int) := (List.range v).map (rotA q v)
theorem rotL_len (q v : Nat) : (rotL q v).length = v := by simp [rotL]
theorem rot_at {q v k : Nat} (h : k < v) : (rotL q v)[k]? = some (rotA q v k) := by
  unfold rotL
  rw [List.getElem?_map, List.getElem?_range h]
  rfl
/-- Angles, each lesser than all behind it. -/
def okL (l : List (Int × Int)) : Bool := allAng l && decide (l.Pairwise fun x y => lessA x y = true)
theorem rot_all : ((List.range 14).all fun v => (List.range v).all fun q => !(decide (2 ≤ v) && decide (1 ≤ q) && decide (Nat.gcd q v = 1)) || okL (rotL q v)) = true := by decide +kernel
theorem rot_ok {q v : Nat} (hv : v ≤ 13) (h2 : 2 ≤ v) (h1 : 1 ≤ q) (hq : q < v) (hg : gcdI q v = 1) : allAng (rotL q v) = true ∧ rotL q v = insAll (rotL q v) := by
  have h := rot_all
  rw [List.all_eq_true] at h
  have h := h v (List.mem_range.2 (by omega))
  rw [List.all_eq_true] at h
  have h := h q (List.mem_range.2 hq)
  have hg' : Nat.gcd q v = 1 := by
    have h' : Int.gcd (q : Int) (v : Int) = 1 := by unfold gcdI at hg; omega
    exact h'
  rw [decide_eq_true h2, decide_eq_true h1, decide_eq_true hg'] at h
  have h : okL (rotL q v) = true := by simpa using h
  unfold okL at h
  rw [Bool.and_eq_true] at h
  obtain ⟨ha, hp⟩ := h
  have hp := of_decide_eq_true hp
  refine ⟨ha, ascA_uniq _ _ hp (insAll_asc ha) fun x => (insAll_mem _ x).symm⟩
theorem rot_mod {q v k i : Nat} (hq : q < v) (hv : v ≤ 13) (hk : k < v) (hi : i < v) :
    ∃ M : Nat, (k + i * q) % v = M ∧ ((k : Int) + (i : Int) * (q : Int)).tmod (v : Int) = (M : Int) ∧ ((k : Int) + (i : Int) * (q : Int)) % (v : Int) = (M : Int) ∧ M < v ∧ 0 ≤ (i : Int) * (q : Int) ∧ (i : Int) * (q : Int) ≤ 169 := by
  have p : i * q ≤ 13 * 13 := Nat.mul_le_mul (by omega) (by omega)
  have e : ((k : Int) + (i : Int) * (q : Int)) = ((k + i * q : Nat) : Int) := by simp
  have e2 : (i : Int) * (q : Int) = ((i * q : Nat) : Int) := by simp
  refine ⟨_, rfl, ?_, ?_, Nat.mod_lt _ (by omega), ?_, ?_⟩
  · rw [e, Int.tmod_eq_emod_of_nonneg (by omega)]; norm_cast
  · rw [e]; norm_cast
  · rw [e2]; omega
  · rw [e2]; omega

set_option maxRecDepth 100000 in
set_option maxHeartbeats 2000000 in
theorem specRot (q v : Nat) (w : World) (h2 : 2 ≤ v) (hv : v ≤ 13) (h1 : 1 ≤ q) (hq : q < v) (hok : allAng (rotL q v) = true) (hsame : rotL q v = insAll (rotL q v)) :
    Calls Try.prog 78 #[.int .i64 q, .int .i64 v] w fun e w' => ∃ b c, e = .returned (.slice (some ⟨b, 0, none⟩) (rotL q v).length c) ∧ AngOwn w' w.heap.size (some ⟨b, 0, none⟩) (rotL q v) ∧ Below w.heap.size w w' := by
  have HOk := Lib.hid hok
  have HSame := Lib.hid hsame
  clear hok hsame
  have hvn : ¬ (v : Int) = 0 := by omega
  go_enter Try.func78, Try.ntmps78
  go_wp2_with fail
  have HB0 : Hid (Below w.heap.size w (w.alloc (.cells #[] 24))) := Lib.hid (belowAlloc (Below.refl _ _) _)
  have HS : Hid ((w.alloc (.cells #[] 24)).ownsRow w.heap.size 24 2 (.slice (some ⟨w.heap.size, 0, none⟩) ([] : List (Int × Int)).length 0) ([] : List (Int × Int)).length (flatA [])) := Lib.hid ⟨rfl, .inr ⟨w.heap.size, 0, #[], rfl, Nat.le_refl _, heap_alloc_new w (.cells #[] 24), by simp, by unfold maxLen; omega, rfl, rfl⟩⟩
  generalize w.alloc (.cells #[] 24) = wc at *
  go_loopg [5, 6, 7, 8, 9] v (fun g s5 s6 _ _ _ wr => ∃ (k : Nat) (O : List (Int × Int)) (b c : Nat), k + g = v ∧ s6 = .int .i64 k ∧ s5 = .slice (some ⟨b, 0, none⟩) O.length c ∧ Hid (O = insAll ((rotL q v).take k)) ∧ Hid (wr.ownsRow w.heap.size 24 2 s5 O.length (flatA O)) ∧ Hid (Below w.heap.size w wr))
  case atStart => exact ⟨0, [], w.heap.size, 0, by omega, rfl, rfl, Lib.hid rfl, HS, HB0⟩
  case round =>
    clear HS HB0
    obtain ⟨k, O, b, c, hkg, rfl, rfl, HO, HW, HB⟩ := hrel
    cases gk with
    | zero =>
      obtain rfl : k = v := by omega
      have e2 : (rotL q k).take k = rotL q k := by rw [List.take_of_length_le]; rw [rotL_len]; exact Nat.le_refl _
      rw [e2, ← HSame.out] at HO
      have HW2 := Lib.hid (ownA_of rfl HW.out)
      clear HW e2
      go_wp2
      go_ret
      rw [← HO.out]
      exact ⟨b, c, rfl, HW2.out, HB.out⟩
    | succ g =>
      have hlt : k < v := by omega
      have HQ := Lib.hid (rot_at (q := q) hlt)
      have HOl : O.length ≤ k := by rw [HO.out]; exact Nat.le_trans (insAll_len _) (by rw [List.length_take]; omega)
      have HOk2 : Hid (allAng O = true) := Lib.hid (by
        rw [HO.out]
        refine allAng_ins ?_
        have := HOk.out
        unfold allAng at *
        rw [List.all_eq_true] at *
        exact fun x hx => this x (List.mem_of_mem_take hx))
      have HE : Hid (insA O (rotA q v k) = insAll ((rotL q v).take (k + 1))) := Lib.hid (by rw [HO.out]; exact (insAll_next HQ.out).symm)
      have HP : Hid (isAng (rotA q v k).1 (rotA q v k).2 = true) := Lib.hid (allAng_mem HOk.out (List.mem_of_getElem? HQ.out))
      clear HO
      go_wp2
      go_loopg [7, 8, 9] v (fun g2 s7 s8 s9 wx => ∃ i : Nat, i + g2 = v ∧ s7 = .int .i64 (rDg q v k i : Nat) ∧ s8 = .int .i64 (2 ^ i : Nat) ∧ s9 = .int .i64 i ∧ wx = wr)
      case atStart => exact ⟨0, by omega, rfl, rfl, rfl, rfl⟩
      case round =>
        obtain ⟨i, hig, rfl, rfl, rfl, rfl⟩ := hrel
        obtain ⟨hd, hp⟩ := rDg_le (q := q) (v := v) (k := k) (i := i) (by omega)
        cases gk with
        | zero =>
          obtain rfl : i = v := by omega
          have hp1 : 1 ≤ 2 ^ i := Nat.one_le_two_pow
          have hp2 : 4 ≤ 2 ^ i := by
            obtain ⟨m, rfl⟩ : ∃ m, i = m + 2 := ⟨i - 2, by omega⟩
            have : 1 ≤ 2 ^ m := Nat.one_le_two_pow
            rw [Nat.pow_succ, Nat.pow_succ]; omega
          have hpc : ((2 ^ i : Nat) : Int) - 1 = ((2 ^ i - 1 : Nat) : Int) := by omega
          have HR := Lib.hid (fun W => specRed (rDg q i k i : Nat) (2 ^ i - 1 : Nat) W (by omega) (by omega) (by omega) (by omega))
          have HI := Lib.hid (fun W (hB : Below wr.heap.size wr W) => specInsA w.heap.size b c O (rotA q i k).1 (rotA q i k).2 W (Nat.le_trans HB.out.size hB.size) HOk2.out HP.out (by omega) (ownKeepA HW.out hB))
          have eP : rotA q i k = (redN (rDg q i k i : Nat) (2 ^ i - 1 : Nat), redD (rDg q i k i : Nat) (2 ^ i - 1 : Nat)) := rfl
          rw [eP] at HI HE
          dsimp only at HI
          generalize redN (rDg q i k i : Nat) (2 ^ i - 1 : Nat) = X at *
          generalize redD (rDg q i k i : Nat) (2 ^ i - 1 : Nat) = Y at *
          generalize rDg q i k i = D at *
          generalize 2 ^ i = E at *
          generalize hEE : E - 1 = E1 at *
          have hw : IntKind.i64.wrap (E1 : Int) = (E1 : Int) := IntWalk.i64_in _ (by omega)
          clear eP HP hEE
          go_wp2_with fail
          refine (HR.out _).mono ?_
          rintro e w1 ⟨rfl, hb1⟩
          go_wp2_with fail
          refine (HI.out _ (by (repeat' (first | (with_reducible exact Below.refl _ _) | (with_reducible assumption) | (with_reducible refine belowNext ?_ (by with_reducible assumption)) | (with_reducible refine belowAlloc ?_ _) | (with_reducible refine Below.drew ?_) | (with_reducible refine below_drewN ?_ _) | (with_reducible refine Below.setCell ?_ ?_ _) | go_size | (with_reducible refine sizeOf' ?_) | (with_reducible refine sizeAdd ?_) | (dsimp only; first | (with_reducible refine sizeOf' ?_) | (with_reducible refine sizeAdd ?_)))))).mono ?_
          rintro e w2 ⟨b2, c2, rfl, ho2, hb2⟩
          have HW2 := Lib.hid ho2
          have HB2 : Hid (Below w.heap.size w w2) := Lib.hid (belowNext (belowNext HB.out (by (repeat' (first | (with_reducible exact Below.refl _ _) | (with_reducible assumption) | (with_reducible refine belowNext ?_ (by with_reducible assumption)) | (with_reducible refine belowAlloc ?_ _) | (with_reducible refine Below.drew ?_) | (with_reducible refine below_drewN ?_ _) | (with_reducible refine Below.setCell ?_ ?_ _) | go_size | (with_reducible refine sizeOf' ?_) | (with_reducible refine sizeAdd ?_) | (dsimp only; first | (with_reducible refine sizeOf' ?_) | (with_reducible refine sizeAdd ?_)))))) hb2)
          clear ho2 hb1 hb2 HI HW HB
          go_wp2
          go_roundg g
          case measure => omega
          case rel => exact ⟨k + 1, _, b2, c2, by omega, by go_num, rfl, HE, HW2, HB2⟩
        | succ g2 =>
          obtain ⟨M, hM, hm1, hm2, hMv, p0, p1⟩ := rot_mod hq hv hlt (show i < v by omega)
          have HD : Hid (rDg q v k (i + 1) = 2 * rDg q v k i + (if v - q ≤ M then 1 else 0)) := Lib.hid (by rw [← hM]; rfl)
          have HPw : Hid (2 ^ (i + 1) = 2 * 2 ^ i) := Lib.hid (by rw [Nat.pow_succ]; omega)
          generalize rDg q v k i = D at *
          generalize 2 ^ i = E at *
          clear hM
          by_cases hc : v - q ≤ M
          · have d1 : decide ((M : Int) ≥ (v : Int) - (q : Int)) = true := decide_eq_true (by omega)
            have d2 : (v : Int) - (q : Int) ≤ (M : Int) := by omega
            rw [if_pos hc] at HD
            go_wp2
            go_roundg g2
            case measure => omega
            case rel => exact ⟨i + 1, by omega, by rw [HD.out]; go_num, by rw [HPw.out]; go_num, by go_num, rfl⟩
          · have d1 : decide ((M : Int) ≥ (v : Int) - (q : Int)) = false := decide_eq_false (by omega)
            have d2 : ¬ ((v : Int) - (q : Int) ≤ (M : Int)) := by omega
            rw [if_neg hc] at HD
            go_wp2
            go_roundg g2
            case measure => omega
            case rel => exact ⟨i + 1, by omega, by rw [HD.out]; go_num, by rw [HPw.out]; go_num, by go_num, rfl⟩
end Go.Proofs.Ytlmgpecfbpcgaaa

/-
  Contracts: whether a star-periodic sequence fails for no number, on both sides (as for IsAdmissible).
-/
import Derived.Test.YtdemgialagjomaaE15
namespace Go.Proofs.Ytdemgialagjomaa
open Go.RowKit

/-- A word whose last letter is a star, and no other one. -/
def oneStar (y : Wd) : Bool := (y.getD (y.length - 1) 0 == 42) && (List.range (y.length - 1)).all fun i => !(y.getD i 0 == 42)
/-- In a star-periodic sequence each shift by less than the period is another one. -/
theorem star_rhoG {y : Wd} (h : isSeq [] y = true) (hs : oneStar y = true) : ∀ k, 1 ≤ k → k < y.length → rhoN [] y k ≠ 0 := by
  intro k h1 h2 hz
  obtain ⟨-, -, hy, h64, -⟩ := isSeq_yes h
  unfold oneStar at hs
  simp only [Bool.and_eq_true, beq_iff_eq] at hs
  obtain ⟨h42, hin⟩ := hs
  rcases sh_diff h k with ⟨-, hat⟩ | ⟨hne, -⟩
  · have e := hat (y.length - 1)
    have e1 : atL [] y (k + (y.length - 1)) = y.getD (k - 1) 0 := by
      unfold atL
      rw [if_neg (by simp)]
      congr 1
      rw [List.length_nil, show k + (y.length - 1) - 0 = (k - 1) + y.length by omega, Nat.add_mod_right, Nat.mod_eq_of_lt (by omega)]
    have e2 : atL [] y (y.length - 1) = y.getD (y.length - 1) 0 := by
      unfold atL
      rw [if_neg (by simp)]
      congr 1
      rw [List.length_nil, Nat.sub_zero, Nat.mod_eq_of_lt (by omega)]
    rw [e1, e2, h42] at e
    have := List.all_eq_true.mp hin (k - 1) (List.mem_range.mpr (by omega))
    rw [e] at this
    simp at this
  · unfold rhoN at hz
    rw [if_neg hne] at hz
    omega

/-- No number for which the sequence fails. -/
def GoodN (x y : Wd) : Prop := ∀ m, 1 ≤ m → m < y.length → ¬ FailsN x y m
/-- The boxes of a sequence and of its table, kept. -/
structure GdS (w : World) (x y : Wd) (b g : Nat) (W : World) : Prop where
  S : SqS w x y W
  z : b < W.heap.size
  t0 : W.cell? ⟨b, 0, none⟩ = some (.string (bs x))
  t1 : W.cell? ⟨b, 1, none⟩ = some (.string (bs y))
  t2 : W.cell? ⟨b, 2, none⟩ = some (.map (some g))
  m : ∃ n, ownsT W g n (tabD x y (x.length + y.length))
theorem GdS.on {w W w1 : World} {x y : Wd} {b g : Nat} (H : GdS w x y b g W) (hb : Below W.heap.size W w1) : GdS w x y b g w1 :=
  ⟨H.S.on hb, Nat.lt_of_lt_of_le H.z hb.size, cellThru hb H.z H.t0, cellThru hb H.z H.t1, cellThru hb H.z H.t2, ownsT_on H.m hb⟩

set_option maxRecDepth 8000 in
set_option maxHeartbeats 4000000 in
theorem implGood (x y : Wd) (w : World) (h : isSeq x y = true) (hok : ∀ k, 1 ≤ k → k < y.length → rhoN x y k ≠ 0) :
    Calls Try.prog 12 #[sqV x y] w fun e w' => YesOf e (GoodN x y) ∧ Below w.heap.size w w' := by
  obtain ⟨-, -, hy, h64, -⟩ := isSeq_yes h
  have HT := Lib.hid (fun w => implTab x y w h)
  have HF := Lib.hid (fun (g m : Nat) (W : World) (hW : ∃ n, ownsT W g n (tabD x y (x.length + y.length))) (h1 : 0 < m) (h2 : m < y.length) => implFails x y g m W h hW h1 (by omega) (fun k a b => hok k a (by omega)))
  have hly := fun W => lenS 9 3 y Try.underlying9 W
  have S0 := sqs0 w x y 32
  have HG : Hid (∀ n, y.length = n → ((∀ m, 1 ≤ m → m < n → ¬ FailsN x y m) ↔ GoodN x y)) := Lib.hid (fun n hn => by subst hn; rfl)
  obtain ⟨n, hn⟩ : ∃ n, y.length = n := ⟨_, rfl⟩
  have HG' := Lib.hid (HG.out n hn)
  have HN0 := Lib.hid hn
  rw [hn] at hly HF hy h64
  clear h hok hn HG
  go_enter Try.func12, Try.ntmps12
  go_wp2_with fail
  refine (HT.out _).mono ?_
  rintro e w2 ⟨g, n2, rfl, hm2, -, hb2⟩
  have S2 := S0.on hb2
  have M2 := Lib.hid hm2
  obtain ⟨bb, zz, c0, c1⟩ := id S2
  clear S0 hb2 hm2 HT
  go_wp2
  have G0 : GdS w x y w2.heap.size g (w2.alloc (.cells #[.string (bs x), .string (bs y), .map (some g)] 39)) :=
    ⟨S2.on (belowAlloc (Below.refl _ _) _), by simp, by simp [go_sem], by simp [go_sem], by simp [go_sem], ⟨n2, M2.out.alloc _⟩⟩
  clear S2 M2 bb zz c0 c1
  go_loopw [4] (fun s wr => ∃ k : Nat, 1 ≤ k ∧ k ≤ n ∧ s = .int .i64 (k : Int) ∧ Hid (∀ m, 1 ≤ m → m < k → ¬ FailsN x y m) ∧ GdS w x y w2.heap.size g wr) (fun s _ => n - (intOf s).toNat)
  case atStart => exact ⟨1, by omega, by omega, rfl, Lib.hid (fun j h1 h2 => absurd h1 (by omega)), G0⟩
  case round =>
    clear G0
    obtain ⟨k, hk1, hkn, rfl, HN, S⟩ := hrel
    obtain ⟨⟨bb, zz, c0, c1⟩, zt, t0, t1, t2, HM⟩ := id S
    by_cases hlt : k < n
    · have d1 : decide ((k : Int) < (n : Int)) = true := decide_eq_true (by omega)
      have d1n : decide (k < n) = true := decide_eq_true hlt
      have d1p : (k < n) = True := eq_true hlt
      have HFk := Lib.hid (HF.out g k wr (by rw [HN0.out] at HM; exact HM) (by omega) hlt)
      clear HM
      go_wp2_with fail
      refine HFk.out.mono ?_
      rintro e w3 ⟨⟨r, rfl, Hr⟩, hb3⟩
      have S3 := S.on hb3
      clear S hb3 c0 c1 zt t0 t1 t2 bb zz HFk
      cases r with
      | true =>
        have HE : Hid (false = true ↔ GoodN x y) := Lib.hid ⟨fun h => (by cases h), fun h => absurd (Hr.out.1 rfl) (HG'.out.2 h k hk1 hlt)⟩
        go_wp2
        go_ret
        exact ⟨.mk false rfl HE, S3.S.B⟩
      | false =>
        have HN' : Hid (∀ m, 1 ≤ m → m < k + 1 → ¬ FailsN x y m) := Lib.hid (fun m h1 h2 hf => by
          by_cases e : m = k
          · subst e; have := Hr.out.2 hf; cases this
          · exact HN.out m h1 (by omega) hf)
        go_wp2
        go_roundw
        case rel => exact ⟨k + 1, by omega, by omega, by go_num, HN', S3⟩
        case measure => simp [intOf]; omega
    · obtain rfl : k = n := by omega
      have HE : Hid (GoodN x y) := Lib.hid (HG'.out.1 HN.out)
      go_wp2
      go_ret
      exact ⟨.mk true rfl (Lib.hid ⟨fun _ => HE.out, fun _ => rfl⟩), S.S.B⟩

set_option maxRecDepth 8000 in
set_option maxHeartbeats 4000000 in
theorem specGood (x y : Wd) (w : World) (h : isSeq x y = true) (hok : ∀ k, 1 ≤ k → k < y.length → rhoN x y k ≠ 0) :
    Calls Try.prog 10 #[sqV x y] w fun e w' => YesOf e (GoodN x y) ∧ Below w.heap.size w w' := by
  obtain ⟨-, -, hy, h64, -⟩ := isSeq_yes h
  have HF := Lib.hid (fun (m : Nat) (W : World) (h1 : 0 < m) (h2 : m < y.length) => specFails x y m W h h1 (by omega) (fun k a b => hok k a (by omega)))
  have hly := fun W => lenS 9 3 y Try.underlying9 W
  have S0 := sqs0 w x y 32
  have HG : Hid (∀ n, y.length = n → ((∀ m, 1 ≤ m → m < n → ¬ FailsN x y m) ↔ GoodN x y)) := Lib.hid (fun n hn => by subst hn; rfl)
  obtain ⟨n, hn⟩ : ∃ n, y.length = n := ⟨_, rfl⟩
  have HG' := Lib.hid (HG.out n hn)
  rw [hn] at hly HF hy h64
  clear h hok hn HG
  go_enter Try.func10, Try.ntmps10
  go_wp2
  go_loopw [3] (fun s wr => ∃ k : Nat, 1 ≤ k ∧ k ≤ n ∧ s = .int .i64 (k : Int) ∧ Hid (∀ m, 1 ≤ m → m < k → ¬ FailsN x y m) ∧ SqS w x y wr) (fun s _ => n - (intOf s).toNat)
  case atStart => exact ⟨1, by omega, by omega, rfl, Lib.hid (fun j h1 h2 => absurd h1 (by omega)), S0⟩
  case round =>
    clear S0
    obtain ⟨k, hk1, hkn, rfl, HN, S⟩ := hrel
    obtain ⟨bb, zz, c0, c1⟩ := id S
    by_cases hlt : k < n
    · have d1 : decide ((k : Int) < (n : Int)) = true := decide_eq_true (by omega)
      have d1n : decide (k < n) = true := decide_eq_true hlt
      have d1p : (k < n) = True := eq_true hlt
      have HFk := Lib.hid (HF.out k wr (by omega) hlt)
      go_wp2_with fail
      refine HFk.out.mono ?_
      rintro e w3 ⟨⟨r, rfl, Hr⟩, hb3⟩
      have S3 := S.on hb3
      clear S hb3 c0 c1 bb zz HFk
      cases r with
      | true =>
        have HE : Hid (false = true ↔ GoodN x y) := Lib.hid ⟨fun h => (by cases h), fun h => absurd (Hr.out.1 rfl) (HG'.out.2 h k hk1 hlt)⟩
        go_wp2
        go_ret
        exact ⟨.mk false rfl HE, S3.B⟩
      | false =>
        have HN' : Hid (∀ m, 1 ≤ m → m < k + 1 → ¬ FailsN x y m) := Lib.hid (fun m h1 h2 hf => by
          by_cases e : m = k
          · subst e; have := Hr.out.2 hf; cases this
          · exact HN.out m h1 (by omega) hf)
        go_wp2
        go_roundw
        case rel => exact ⟨k + 1, by omega, by omega, by go_num, HN', S3⟩
        case measure => simp [intOf]; omega
    · obtain rfl : k = n := by omega
      have HE : Hid (GoodN x y) := Lib.hid (HG'.out.1 HN.out)
      go_wp2
      go_ret
      exact ⟨.mk true rfl (Lib.hid ⟨fun _ => HE.out, fun _ => rfl⟩), S.B⟩

end Go.Proofs.Ytdemgialagjomaa

/-
  Contracts of the small functions of angles.
-/
import Derived.Test.YtnciiodgkanpjaaProg
import Derived.Test.YtnciiodgkanpjaaMath
import Derived.Handy
import Derived.WalkSpells
import Derived.WalkLawsBesides
import Derived.BigQuiet
import Derived.Deep.QuietTactic
import Derived.Lib.Hide
import Derived.RegionTactic
import Derived.BigRegion
import Derived.WalkSmall
namespace Go.Proofs.Ytnciiodgkanpjaa
open Go.RowKit

theorem belowNext {w W w1 : World} (B : Below w.heap.size w W) (hb : Below W.heap.size W w1) : Below w.heap.size w w1 := B.trans (hb.mono B.size)
theorem belowAlloc {w W : World} (B : Below w.heap.size w W) (o : Obj) : Below w.heap.size w (W.alloc o) := B.alloc B.size o
theorem sizeOf' {w W : World} (B : Below w.heap.size w W) : w.heap.size ≤ W.heap.size := B.size
theorem sizeAdd {w W : World} {k : Nat} (B : Below w.heap.size w W) : w.heap.size ≤ W.heap.size + k := Nat.le_trans B.size (Nat.le_add_right _ _)
theorem bcell {W w1 : World} (hb : Below W.heap.size W w1) : (∀ b o, b < W.heap.size → w1.cell? ⟨b, o, none⟩ = W.cell? ⟨b, o, none⟩) ∧ (∀ b o, b < W.heap.size → w1.frozen? ⟨b, o, none⟩ = W.frozen? ⟨b, o, none⟩) :=
  ⟨fun b o h => hb.cell (p := ⟨b, o, none⟩) h, fun b o h => hb.frozen (p := ⟨b, o, none⟩) h⟩

theorem cellThru {W w1 : World} (hb : Below W.heap.size W w1) {b o : Nat} {v : Value} (hlt : b < W.heap.size) (h : W.cell? ⟨b, o, none⟩ = some v) : w1.cell? ⟨b, o, none⟩ = some v := (hb.cell (p := ⟨b, o, none⟩) hlt).trans h
theorem frozThru {W w1 : World} (hb : Below W.heap.size W w1) {b o : Nat} {v : Bool} (hlt : b < W.heap.size) (h : W.frozen? ⟨b, o, none⟩ = v) : w1.frozen? ⟨b, o, none⟩ = v := (hb.frozen (p := ⟨b, o, none⟩) hlt).trans h

/-- An angle as a value. -/
abbrev ang (n d : Int) : Value := .agg #[.int .i64 n, .int .i64 d]

set_option maxHeartbeats 400000 in
theorem specGcd (a b : Int) (w : World) (ha : 0 ≤ a) (hb : 0 ≤ b) (hA : a ≤ 4611686018427387904) (hB : b ≤ 4611686018427387904) :
    Calls Try.prog 83 #[.int .i64 a, .int .i64 b] w fun e w' => e = .returned (.int .i64 (gcdI a b)) ∧ w = w' := by
  obtain ⟨g, hg⟩ : ∃ g, gcdI a b = g := ⟨_, rfl⟩
  rw [hg]
  have Hg := Lib.hid hg
  clear hg
  go_enter Try.func83, Try.ntmps83
  go_wp2
  go_loop [0, 1] (fun x y => ∃ p q : Int, 0 ≤ p ∧ 0 ≤ q ∧ p ≤ 4611686018427387904 ∧ q ≤ 4611686018427387904 ∧ x = .int .i64 p ∧ y = .int .i64 q ∧ Hid (gcdI p q = g)) (fun _ y => (intOf y).toNat)
  case atStart => exact ⟨a, b, ha, hb, hA, hB, rfl, rfl, Hg⟩
  case round =>
    obtain ⟨p, q, hp, hq, hP, hQ, rfl, rfl, H⟩ := hrel
    by_cases h : 0 < q
    · have h1 := Int.emod_nonneg p (b := q) (by omega)
      have h2 := Int.emod_lt_of_pos p h
      have H2 := Lib.hid (gcdI_step p q)
      go_wp2
      go_round
      case rel => exact ⟨q, p % q, by omega, h1, by omega, by omega, rfl, rfl, H2.out.trans H.out⟩
      case measure => simp [intOf]; omega
    · obtain rfl : q = 0 := by omega
      have e := gcdI_zero p hp
      have E := Lib.hid (e.symm.trans H.out)
      clear e
      go_wp2
      go_ret
      exact ⟨congrArg (fun z => Ending.returned (Value.int .i64 z)) E.out, rfl⟩

set_option maxHeartbeats 400000 in
theorem implGcd (a b : Int) (w : World) (ha : 0 ≤ a) (hb : 0 ≤ b) (hA : a ≤ 4611686018427387904) (hB : b ≤ 4611686018427387904) :
    Calls Try.prog 51 #[.int .i64 a, .int .i64 b] w fun e w' => e = .returned (.int .i64 (gcdI a b)) ∧ ∃ n, w' = w.drewN n := by
  obtain ⟨g, hg⟩ : ∃ g, gcdI a b = g := ⟨_, rfl⟩
  rw [hg]
  have Hg := Lib.hid hg
  clear hg
  go_enter Try.func51, Try.ntmps51
  go_wp2
  go_loopw [0, 1] (fun x y wr => ∃ p q : Int, 0 ≤ p ∧ 0 ≤ q ∧ p ≤ 4611686018427387904 ∧ q ≤ 4611686018427387904 ∧ x = .int .i64 p ∧ y = .int .i64 q ∧ Hid (gcdI p q = g) ∧ Hid (∃ n, wr = w.drewN n)) (fun _ y _ => (intOf y).toNat)
  case atStart => exact ⟨a, b, ha, hb, hA, hB, rfl, rfl, Hg, Lib.hid ⟨0, rfl⟩⟩
  case round =>
    obtain ⟨p, q, hp, hq, hP, hQ, rfl, rfl, H, HW⟩ := hrel
    by_cases h : 0 < q
    · have h1 := Int.emod_nonneg p (b := q) (by omega)
      have h2 := Int.emod_lt_of_pos p h
      have H2 := Lib.hid (gcdI_step p q)
      have hne : (q == 0) = false := beq_eq_false_iff_ne.2 (by omega)
      have hne' : (q != 0) = true := by rw [bne_iff_ne]; omega
      go_wp2
      go_quiet (fail)
      go_wp2
      go_roundw
      case rel =>
        obtain ⟨n, hn⟩ := HW.out
        exact ⟨q, p % q, by omega, h1, by omega, by omega, rfl, rfl, H2.out.trans H.out, Lib.hid ⟨_, by rw [hn, World.drewN_drewN]⟩⟩
      case measure => simp [intOf]; omega
    · obtain rfl : q = 0 := by omega
      have e := gcdI_zero p hp
      have E := Lib.hid (e.symm.trans H.out)
      clear e
      go_wp2
      go_ret
      exact ⟨congrArg (fun z => Ending.returned (Value.int .i64 z)) E.out, HW.out⟩

set_option maxHeartbeats 400000 in
theorem implRed (n d : Int) (w : World) (hd : 1 ≤ d) (hD : d ≤ 4611686018427387904) (hn : -4611686018427387904 ≤ n) (hN : n ≤ 4611686018427387904) :
    Calls Try.prog 57 #[.int .i64 n, .int .i64 d] w fun e w' => e = .returned (ang (redN n d) (redD n d)) ∧ Below w.heap.size w w' := by
  have h1 := Int.emod_nonneg n (b := d) (by omega)
  have h2 := Int.emod_lt_of_pos n (show 0 < d by omega)
  have HN : Hid (redN n d = (n % d) / gcdI (n % d) d) := Lib.hid rfl
  have HD : Hid (redD n d = d / gcdI (n % d) d) := Lib.hid rfl
  generalize redN n d = X at *
  generalize redD n d = Y at *
  have hc : (n.tmod d = n % d) ∨ (n.tmod d = n % d - d ∧ 0 < n % d) := by
    by_cases h0 : 0 ≤ n
    · exact .inl (tmod_nonneg n d h0)
    · by_cases hz : n % d = 0
      · exact .inl ((tmod_neg0 n d (by omega) hz).trans hz.symm)
      · exact .inr ⟨tmod_neg1 n d (by omega) (by omega) (by omega), by omega⟩
  generalize n % d = r at *
  have hg := gcdI_pos r d (by omega)
  have hl := gcdI_le r d (by omega)
  have hdne : (d == 0) = false := beq_eq_false_iff_ne.2 (by omega)
  have hc1 := implGcd r d
  generalize gcdI r d = g at *
  have HC := Lib.hid hc1
  clear hc1
  have hgne : (g == 0) = false := beq_eq_false_iff_ne.2 (by omega)
  rcases hc with he | ⟨he, hr⟩
  all_goals
    go_enter Try.func57, Try.ntmps57
    go_wp2_with fail
    refine (HC.out _ (by omega) (by omega) (by omega) (by omega)).mono ?_
    rintro e w1 ⟨rfl, k, rfl⟩
    go_wp2
    go_region
    all_goals
      go_wp2
      go_returns
      refine ⟨by rw [HN.out, HD.out], ?_⟩
      (repeat' (first | (with_reducible exact Below.refl _ _) | (with_reducible assumption) | (with_reducible refine belowNext ?_ (by with_reducible assumption)) | (with_reducible refine belowAlloc ?_ _) | (with_reducible refine Below.drew ?_) | (with_reducible refine below_drewN ?_ _) | (with_reducible refine Below.setCell ?_ ?_ _) | go_size | (with_reducible refine sizeOf' ?_) | (with_reducible refine sizeAdd ?_) | (dsimp only; first | (with_reducible refine sizeOf' ?_) | (with_reducible refine sizeAdd ?_))))

/-- Whether n/d is an angle as it is written. -/
def isAng (n d : Int) : Bool := decide (1 ≤ d ∧ d ≤ 8191 ∧ 0 ≤ n ∧ n < d ∧ gcdI n d = 1)
theorem isAng_yes {n d : Int} (h : isAng n d = true) : 1 ≤ d ∧ d ≤ 8191 ∧ 0 ≤ n ∧ n < d ∧ gcdI n d = 1 := by unfold isAng at h; simpa using h

/-- What is told of a reduced fraction: itself, or the zero value and a code. -/
def toldN (p q : Int) : Int := if 8191 < q then 0 else p
def toldD (q : Int) : Int := if 8191 < q then 0 else q
def toldC (q : Int) : Int := if 8191 < q then 3 else 0

set_option maxHeartbeats 400000 in
theorem specRed (n d : Int) (w : World) (hd : 1 ≤ d) (hD : d ≤ 4611686018427387904) (hn : -4611686018427387904 ≤ n) (hN : n ≤ 4611686018427387904) :
    Calls Try.prog 65 #[.int .i64 n, .int .i64 d] w fun e w' => e = .returned (ang (redN n d) (redD n d)) ∧ Below w.heap.size w w' := by
  have h1 := Int.emod_nonneg n (b := d) (by omega)
  have h2 := Int.emod_lt_of_pos n (show 0 < d by omega)
  have HN : Hid (redN n d = (n % d) / gcdI (n % d) d) := Lib.hid rfl
  have HD : Hid (redD n d = d / gcdI (n % d) d) := Lib.hid rfl
  generalize redN n d = X at *
  generalize redD n d = Y at *
  have hc : (n.tmod d = n % d) ∨ (n.tmod d = n % d - d ∧ 0 < n % d) := by
    by_cases h0 : 0 ≤ n
    · exact .inl (tmod_nonneg n d h0)
    · by_cases hz : n % d = 0
      · exact .inl ((tmod_neg0 n d (by omega) hz).trans hz.symm)
      · exact .inr ⟨tmod_neg1 n d (by omega) (by omega) (by omega), by omega⟩
  generalize n % d = r at *
  have hg := gcdI_pos r d (by omega)
  have hl := gcdI_le r d (by omega)
  have hdne : (d == 0) = false := beq_eq_false_iff_ne.2 (by omega)
  have hc1 := specGcd r d
  generalize gcdI r d = g at *
  have HC := Lib.hid hc1
  clear hc1
  have hgne : (g == 0) = false := beq_eq_false_iff_ne.2 (by omega)
  have e1 : (r + d) % d = r := by rw [Int.add_emod_right, Int.emod_eq_of_lt h1 h2]
  have e2 : r % d = r := Int.emod_eq_of_lt h1 h2
  rcases hc with he | ⟨he, hr⟩
  all_goals
    go_enter Try.func65, Try.ntmps65
    go_wp2_with fail
    refine (HC.out _ (by omega) (by omega) (by omega) (by omega)).mono ?_
    rintro e w1 ⟨rfl, rfl⟩
    go_wp2
    go_region
    all_goals
      go_wp2
      go_returns
      refine ⟨by rw [HN.out, HD.out], ?_⟩
      (repeat' (first | (with_reducible exact Below.refl _ _) | (with_reducible assumption) | (with_reducible refine belowNext ?_ (by with_reducible assumption)) | (with_reducible refine belowAlloc ?_ _) | (with_reducible refine Below.drew ?_) | (with_reducible refine below_drewN ?_ _) | (with_reducible refine Below.setCell ?_ ?_ _) | go_size | (with_reducible refine sizeOf' ?_) | (with_reducible refine sizeAdd ?_) | (dsimp only; first | (with_reducible refine sizeOf' ?_) | (with_reducible refine sizeAdd ?_))))

set_option maxHeartbeats 400000 in
theorem implLim (p q : Int) (w : World) :
    Calls Try.prog 56 #[ang p q] w fun e w' => e = .returned (.tuple #[ang (toldN p q) (toldD q), .int .i64 (toldC q)]) ∧ Below w.heap.size w w' := by
  by_cases h : 8191 < q
  · have HN : Hid (toldN p q = 0) := Lib.hid (if_pos h)
    have HD : Hid (toldD q = 0) := Lib.hid (if_pos h)
    have HC : Hid (toldC q = 3) := Lib.hid (if_pos h)
    go_enter Try.func56, Try.ntmps56
    go_wp2
    go_returns
    refine ⟨by rw [HN.out, HD.out, HC.out], ?_⟩
    (repeat' (first | (with_reducible exact Below.refl _ _) | (with_reducible assumption) | (with_reducible refine belowNext ?_ (by with_reducible assumption)) | (with_reducible refine belowAlloc ?_ _) | (with_reducible refine Below.drew ?_) | (with_reducible refine below_drewN ?_ _) | (with_reducible refine Below.setCell ?_ ?_ _) | go_size | (with_reducible refine sizeOf' ?_) | (with_reducible refine sizeAdd ?_) | (dsimp only; first | (with_reducible refine sizeOf' ?_) | (with_reducible refine sizeAdd ?_))))
  · have HN : Hid (toldN p q = p) := Lib.hid (if_neg h)
    have HD : Hid (toldD q = q) := Lib.hid (if_neg h)
    have HC : Hid (toldC q = 0) := Lib.hid (if_neg h)
    go_enter Try.func56, Try.ntmps56
    go_wp2
    go_returns
    refine ⟨by rw [HN.out, HD.out, HC.out], ?_⟩
    (repeat' (first | (with_reducible exact Below.refl _ _) | (with_reducible assumption) | (with_reducible refine belowNext ?_ (by with_reducible assumption)) | (with_reducible refine belowAlloc ?_ _) | (with_reducible refine Below.drew ?_) | (with_reducible refine below_drewN ?_ _) | (with_reducible refine Below.setCell ?_ ?_ _) | go_size | (with_reducible refine sizeOf' ?_) | (with_reducible refine sizeAdd ?_) | (dsimp only; first | (with_reducible refine sizeOf' ?_) | (with_reducible refine sizeAdd ?_))))

set_option maxHeartbeats 400000 in
theorem specTold (p q : Int) (w : World) :
    Calls Try.prog 58 #[ang p q] w fun e w' => e = .returned (.tuple #[ang (toldN p q) (toldD q), .int .i64 (toldC q)]) ∧ Below w.heap.size w w' := by
  by_cases h : 8191 < q
  · have HN : Hid (toldN p q = 0) := Lib.hid (if_pos h)
    have HD : Hid (toldD q = 0) := Lib.hid (if_pos h)
    have HC : Hid (toldC q = 3) := Lib.hid (if_pos h)
    go_enter Try.func58, Try.ntmps58
    go_wp2
    go_returns
    refine ⟨by rw [HN.out, HD.out, HC.out], ?_⟩
    (repeat' (first | (with_reducible exact Below.refl _ _) | (with_reducible assumption) | (with_reducible refine belowNext ?_ (by with_reducible assumption)) | (with_reducible refine belowAlloc ?_ _) | (with_reducible refine Below.drew ?_) | (with_reducible refine below_drewN ?_ _) | (with_reducible refine Below.setCell ?_ ?_ _) | go_size | (with_reducible refine sizeOf' ?_) | (with_reducible refine sizeAdd ?_) | (dsimp only; first | (with_reducible refine sizeOf' ?_) | (with_reducible refine sizeAdd ?_))))
  · have HN : Hid (toldN p q = p) := Lib.hid (if_neg h)
    have HD : Hid (toldD q = q) := Lib.hid (if_neg h)
    have HC : Hid (toldC q = 0) := Lib.hid (if_neg h)
    go_enter Try.func58, Try.ntmps58
    go_wp2
    go_returns
    refine ⟨by rw [HN.out, HD.out, HC.out], ?_⟩
    (repeat' (first | (with_reducible exact Below.refl _ _) | (with_reducible assumption) | (with_reducible refine belowNext ?_ (by with_reducible assumption)) | (with_reducible refine belowAlloc ?_ _) | (with_reducible refine Below.drew ?_) | (with_reducible refine below_drewN ?_ _) | (with_reducible refine Below.setCell ?_ ?_ _) | go_size | (with_reducible refine sizeOf' ?_) | (with_reducible refine sizeAdd ?_) | (dsimp only; first | (with_reducible refine sizeOf' ?_) | (with_reducible refine sizeAdd ?_))))

set_option maxHeartbeats 400000 in
theorem inYes (n lo hi : Int) (w : World) (h1 : lo ≤ n) (h2 : n ≤ hi) :
    Calls Try.prog 64 #[.int .i64 n, .int .i64 lo, .int .i64 hi] w fun e w' => e = .returned (.bool true) ∧ w = w' := by
  go_enter Try.func64, Try.ntmps64
  go_wp2
  go_ret
  exact ⟨rfl, rfl⟩
set_option maxHeartbeats 400000 in
theorem inNo (n lo hi : Int) (w : World) (h : n < lo ∨ hi < n) :
    Calls Try.prog 64 #[.int .i64 n, .int .i64 lo, .int .i64 hi] w fun e w' => e = .returned (.bool false) ∧ w = w' := by
  by_cases h1 : n < lo
  · have e1 : decide (lo ≤ n) = false := by simp; omega
    go_enter Try.func64, Try.ntmps64
    go_wp2
    go_ret
    exact ⟨rfl, rfl⟩
  · have h2 : hi < n := by omega
    have h3 : lo ≤ n := by omega
    have e1 : decide (n ≤ hi) = false := by simp; omega
    clear h
    go_enter Try.func64, Try.ntmps64
    go_wp2
    go_ret
    exact ⟨rfl, rfl⟩
end Go.Proofs.Ytnciiodgkanpjaa

/-
  Plain: sums of whole numbers as they are counted in 64 bits, tables of numbers, their products and powers.
-/
import Derived.Test.YtjomgbjiognmmaaMath
import Derived.RowKit
namespace Go.Proofs.Ytjomgbjiognmmaa
open Go.RowKit

/-- Two numbers that differ by a multiple of 2^64. -/
def Cg (x y : Int) : Prop := (x - y) % 18446744073709551616 = 0
theorem Cg.wrap (x : Int) : Cg (wrap64 x) x := by unfold Cg wrap64; omega
theorem Cg.eq {x y : Int} (h : Cg x y) : wrap64 x = wrap64 y := by unfold Cg at h; unfold wrap64; omega
theorem Cg.refl (x : Int) : Cg x x := by unfold Cg; omega
theorem Cg.symm {x y : Int} (h : Cg x y) : Cg y x := by unfold Cg at *; omega
theorem Cg.trans {x y z : Int} (h : Cg x y) (g : Cg y z) : Cg x z := by unfold Cg at *; omega
theorem Cg.add {a b c d : Int} (h : Cg a b) (g : Cg c d) : Cg (a + c) (b + d) := by unfold Cg at *; omega
theorem Cg.neg {a b : Int} (h : Cg a b) : Cg (-a) (-b) := by unfold Cg at *; omega
theorem Cg.mul {a b c d : Int} (h : Cg a b) (g : Cg c d) : Cg (a * c) (b * d) := by
  unfold Cg at *
  obtain ⟨k, hk⟩ := Int.dvd_of_emod_eq_zero h
  obtain ⟨l, hl⟩ := Int.dvd_of_emod_eq_zero g
  have e : a * c - b * d = 18446744073709551616 * (k * c + b * l) := by
    have ha : a = b + 18446744073709551616 * k := by omega
    have hc : c = d + 18446744073709551616 * l := by omega
    rw [Int.mul_add, ← Int.mul_assoc, ← hk, show (18446744073709551616 : Int) * (b * l) = b * (18446744073709551616 * l) by rw [← Int.mul_assoc, Int.mul_comm 18446744073709551616 b, Int.mul_assoc], ← hl, Int.sub_mul, Int.mul_sub]
    omega
  rw [e]; exact Int.mul_emod_right _ _

def sigN (n : Nat) (f : Nat → Int) : Int := match n with
  | 0 => 0
  | n + 1 => sigN n f + f n
theorem sigN_eq {f g : Nat → Int} : ∀ {n : Nat}, (∀ i, i < n → f i = g i) → sigN n f = sigN n g
  | 0, _ => rfl
  | n + 1, h => by simp only [sigN]; rw [sigN_eq fun i hi => h i (by omega), h n (by omega)]
theorem sigN_cg {f g : Nat → Int} : ∀ {n : Nat}, (∀ i, i < n → Cg (f i) (g i)) → Cg (sigN n f) (sigN n g)
  | 0, _ => Cg.refl _
  | n + 1, h => Cg.add (sigN_cg fun i hi => h i (by omega)) (h n (by omega))
theorem sigN_zero : ∀ (n : Nat), sigN n (fun _ => 0) = 0
  | 0 => rfl
  | n + 1 => by simp only [sigN]; rw [sigN_zero n]; rfl
theorem sigN_add (f g : Nat → Int) : ∀ (n : Nat), sigN n (fun i => f i + g i) = sigN n f + sigN n g
  | 0 => rfl
  | n + 1 => by simp only [sigN]; rw [sigN_add f g n]; omega
theorem sigN_mulL (c : Int) (f : Nat → Int) : ∀ (n : Nat), sigN n (fun i => c * f i) = c * sigN n f
  | 0 => by simp [sigN]
  | n + 1 => by simp only [sigN]; rw [sigN_mulL c f n, Int.mul_add]
theorem sigN_mulR (c : Int) (f : Nat → Int) : ∀ (n : Nat), sigN n (fun i => f i * c) = sigN n f * c
  | 0 => by simp [sigN]
  | n + 1 => by simp only [sigN]; rw [sigN_mulR c f n, Int.add_mul]
theorem sigN_swap (f : Nat → Nat → Int) (m : Nat) : ∀ (n : Nat), sigN n (fun i => sigN m (fun j => f i j)) = sigN m (fun j => sigN n (fun i => f i j))
  | 0 => (sigN_zero m).symm
  | n + 1 => by simp only [sigN]; rw [sigN_swap f m n, sigN_add]
theorem sigN_one (c : Int) (j : Nat) : ∀ {n : Nat}, j < n → sigN n (fun i => if i = j then c else 0) = c
  | 0, h => absurd h (by omega)
  | n + 1, h => by
    simp only [sigN]
    by_cases e : n = j
    · subst e
      rw [if_pos rfl, sigN_eq (g := fun _ => 0) fun i hi => if_neg (by omega), sigN_zero]; omega
    · rw [if_neg e, sigN_one c j (by omega)]; omega

/-- A number that is counted on in 64 bits. -/
theorem wrap_step (n : Nat) (f : Nat → Int) : wrap64 (wrap64 (sigN n f) + f n) = wrap64 (sigN (n + 1) f) := ((Cg.wrap _).add (Cg.refl _)).eq
theorem wrap_step2 (n : Nat) (f : Nat → Int) : wrap64 (wrap64 (sigN n f) + wrap64 (f n)) = wrap64 (sigN (n + 1) f) := ((Cg.wrap _).add (Cg.wrap _)).eq

/-- A table of numbers. -/
abbrev Tab := Nat → Nat → Int
/-- The product of a row and a table with r rows. -/
def rowF (r : Nat) (x : Nat → Int) (a : Tab) : Nat → Int := fun j => wrap64 (sigN r fun k => x k * a k j)
/-- The product of two tables. -/
def mulF (r : Nat) (x a : Tab) : Tab := fun i => rowF r (x i) a
def unitF (c : Int) : Tab := fun i j => if i = j then c else 0
def powF (r : Nat) (a : Tab) : Nat → Tab
  | 0 => unitF 1
  | k + 1 => mulF r (powF r a k) a
def trF (r : Nat) (a : Tab) : Int := wrap64 (sigN r fun i => a i i)
/-- The sum of all numbers. -/
def cntF (r : Nat) (a : Tab) : Int := wrap64 (sigN r fun i => sigN r fun j => a i j)
/-- The row after k steps. -/
def stepF (r : Nat) (x : Nat → Int) (a : Tab) : Nat → (Nat → Int)
  | 0 => x
  | k + 1 => rowF r (stepF r x a k) a
end Go.Proofs.Ytjomgbjiognmmaa

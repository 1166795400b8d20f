/-
  Contracts: leaves that are pulled back past a diameter: the program's way with an answer.
-/
import Derived.Test.YtjomgbjiognmmaaV11
namespace Go.Proofs.Ytjomgbjiognmmaa
open Go.RowKit

theorem lf4_eq {a b c d p q r s : Int} (h : lf4 a b c d = (p, q, r, s)) : lfA a b c d = p ∧ lfB a b c d = q ∧ lfC a b c d = r ∧ lfD a b c d = s := by
  unfold lf4 at h
  simpa using h

/-- What the region of the two leaves reads, kept. -/
theorem keepR {w W w1 : World} {b1 b2 o1 o2 : Nat} {x y x' y' u v u' v' : Int} (hb : Below W.heap.size W w1)
    (H : b1 < W.heap.size ∧ b2 < W.heap.size ∧ Below w.heap.size w W ∧ W.cell? ⟨b1, o1, none⟩ = some (.int .i64 x) ∧ W.cell? ⟨b1, o1 + 1, none⟩ = some (.int .i64 y) ∧ W.cell? ⟨b1, o1 + 2, none⟩ = some (.int .i64 x') ∧ W.cell? ⟨b1, o1 + 2 + 1, none⟩ = some (.int .i64 y') ∧
      W.cell? ⟨b2, o2, none⟩ = some (.int .i64 u) ∧ W.cell? ⟨b2, o2 + 1, none⟩ = some (.int .i64 v) ∧ W.cell? ⟨b2, o2 + 2, none⟩ = some (.int .i64 u') ∧ W.cell? ⟨b2, o2 + 2 + 1, none⟩ = some (.int .i64 v')) :
    b1 < w1.heap.size ∧ b2 < w1.heap.size ∧ Below w.heap.size w w1 ∧ w1.cell? ⟨b1, o1, none⟩ = some (.int .i64 x) ∧ w1.cell? ⟨b1, o1 + 1, none⟩ = some (.int .i64 y) ∧ w1.cell? ⟨b1, o1 + 2, none⟩ = some (.int .i64 x') ∧ w1.cell? ⟨b1, o1 + 2 + 1, none⟩ = some (.int .i64 y') ∧
      w1.cell? ⟨b2, o2, none⟩ = some (.int .i64 u) ∧ w1.cell? ⟨b2, o2 + 1, none⟩ = some (.int .i64 v) ∧ w1.cell? ⟨b2, o2 + 2, none⟩ = some (.int .i64 u') ∧ w1.cell? ⟨b2, o2 + 2 + 1, none⟩ = some (.int .i64 v') := by
  obtain ⟨z1, z2, hB, h0, h1, h2, h3, h4, h5, h6, h7⟩ := H
  have hs := hb.size
  exact ⟨by omega, by omega, belowNext hB hb, cellThru hb z1 h0, cellThru hb z1 h1, cellThru hb z1 h2, cellThru hb z1 h3, cellThru hb z2 h4, cellThru hb z2 h5, cellThru hb z2 h6, cellThru hb z2 h7⟩

theorem redBd (n d : Int) (hd : 0 < d) : 0 ≤ redN n d ∧ redN n d < redD n d ∧ 1 ≤ redD n d ∧ redD n d ≤ d := by
  have h1 := Int.emod_nonneg n (b := d) (by omega)
  have h2 := Int.emod_lt_of_pos n hd
  have hp := gcdI_pos (n % d) d hd
  have d1 : gcdI (n % d) d ∣ n % d := by unfold gcdI; exact Int.gcd_dvd_left ..
  have d2 : gcdI (n % d) d ∣ d := by unfold gcdI; exact Int.gcd_dvd_right ..
  obtain ⟨x, hx⟩ := d1
  obtain ⟨y, hy⟩ := d2
  unfold redN redD
  generalize gcdI (n % d) d = g at *
  generalize n % d = r at *
  subst hx hy
  rw [Int.mul_ediv_cancel_left _ (by omega), Int.mul_ediv_cancel_left _ (by omega)]
  have p0 : 0 ≤ x := by
    rcases (show x < 0 ∨ 0 ≤ x by omega) with h | h
    · have := Int.mul_neg_of_pos_of_neg hp h; omega
    · exact h
  have p1 : x < y := Int.lt_of_mul_lt_mul_left h2 (by omega)
  refine ⟨p0, p1, by omega, ?_⟩
  have := Int.mul_le_mul_of_nonneg_right (show 1 ≤ g by omega) (show 0 ≤ y by omega)
  omega

end Go.Proofs.Ytjomgbjiognmmaa

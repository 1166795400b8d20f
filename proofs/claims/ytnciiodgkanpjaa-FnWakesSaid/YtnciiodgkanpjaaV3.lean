/-
  Plain mathematics and contracts: leaves that cross.
-/
import Derived.Test.YtnciiodgkanpjaaV2
import Derived.Test.YtnciiodgkanpjaaOrb
namespace Go.Proofs.Ytnciiodgkanpjaa
open Go.RowKit

theorem dvdCop {d n e : Int} (h : Int.gcd d n = 1) (hd : d ∣ n * e) : d ∣ e := by
  rw [← Int.natAbs_dvd_natAbs] at *
  rw [Int.natAbs_mul] at hd
  exact Nat.Coprime.dvd_of_dvd_mul_left h hd
theorem redEq {p q : Int × Int} (hp : Red p) (hq : Red q) (e : p.1 * q.2 = q.1 * p.2) : p = q := by
  obtain ⟨a1, a2, a3, a4, a5⟩ := hp
  obtain ⟨b1, b2, b3, b4, b5⟩ := hq
  have g1 : Int.gcd p.2 p.1 = 1 := by unfold gcdI at a5; rw [Int.gcd_comm]; omega
  have g2 : Int.gcd q.2 q.1 = 1 := by unfold gcdI at b5; rw [Int.gcd_comm]; omega
  have d1 : p.2 ∣ q.2 := by
    refine dvdCop g1 ?_
    exact ⟨q.1, by rw [e, Int.mul_comm]⟩
  have d2 : q.2 ∣ p.2 := by
    refine dvdCop g2 ?_
    exact ⟨p.1, by rw [← e, Int.mul_comm]⟩
  have e2 : p.2 = q.2 := Int.le_antisymm (Int.le_of_dvd (by omega) d1) (Int.le_of_dvd (by omega) d2)
  have e1 : p.1 = q.1 := by
    rw [e2] at e
    exact Int.eq_of_mul_eq_mul_right (by omega) e
  exact Prod.ext e1 e2
theorem redOf {a b : Int} (h : isAng a b = true) : Red (a, b) := isAng_yes h
theorem angOf {a b : Int} (h : Red (a, b)) : isAng a b = true := by
  obtain ⟨h1, h2, h3, h4, h5⟩ := h
  dsimp only at *
  unfold isAng
  exact decide_eq_true ⟨h1, h2, h3, h4, h5⟩
theorem okOf {a b : Int} (h : Red (a, b)) : angOk a b := ⟨h.1, h.2.1, h.2.2.1, h.2.2.2.1⟩
theorem eqA_iff (a b c d : Int) : eqA a b c d = true ↔ a = c ∧ b = d := by unfold eqA; simp
theorem apart_of {a b c d : Int} (h1 : Red (a, b)) (h2 : Red (c, d)) : apartA a b c d := by
  by_cases h : a * d = c * b
  · have := redEq h1 h2 h
    simp only [Prod.mk.injEq] at this
    exact .inr this
  · exact .inl h
theorem ne_of_red {a b c d : Int} (h1 : Red (a, b)) (h2 : Red (c, d)) (h : eqA a b c d = false) : a * d ≠ c * b := fun e => by
  have := redEq h1 h2 e
  simp only [Prod.mk.injEq] at this
  rw [(eqA_iff a b c d).2 this] at h
  cases h

/-- Fractions over one Den. -/
theorem lt_scale {n d m c N M : Int} (k : Int) (hk : 0 < k) (hN : n * c * k = N) (hM : m * d * k = M) : ltA n d m c = decide (N < M) := by
  subst hN hM
  unfold ltA
  rw [decide_eq_decide]
  exact ⟨fun h => Int.mul_lt_mul_of_pos_right h hk, fun h => Int.lt_of_mul_lt_mul_right h (by omega)⟩
theorem eq_scale {n d m c N M : Int} (k : Int) (hk : 0 < k) (hN : n * c * k = N) (hM : m * d * k = M) (h : n * c ≠ m * d) : N ≠ M := by
  subst hN hM
  exact fun e => h (Int.eq_of_mul_eq_mul_right (by omega) e)

/-- Four fractions as whole numbers. -/
theorem rank4 {a b c d e f g h : Int} (hb : 0 < b) (hd : 0 < d) (hf : 0 < f) (hh : 0 < h) : ∃ P Q R S : Int,
    (ltA a b c d = decide (P < Q) ∧ ltA c d a b = decide (Q < P)) ∧ (ltA a b e f = decide (P < R) ∧ ltA e f a b = decide (R < P)) ∧ (ltA a b g h = decide (P < S) ∧ ltA g h a b = decide (S < P)) ∧
    (ltA c d e f = decide (Q < R) ∧ ltA e f c d = decide (R < Q)) ∧ (ltA c d g h = decide (Q < S) ∧ ltA g h c d = decide (S < Q)) ∧ (ltA e f g h = decide (R < S) ∧ ltA g h e f = decide (S < R)) ∧
    (a * f ≠ e * b → P ≠ R) ∧ (a * h ≠ g * b → P ≠ S) ∧ (c * f ≠ e * d → Q ≠ R) ∧ (c * h ≠ g * d → Q ≠ S) := by
  have hbd := Int.mul_pos hb hd
  have hbf := Int.mul_pos hb hf
  have hbh := Int.mul_pos hb hh
  have hdf := Int.mul_pos hd hf
  have hdh := Int.mul_pos hd hh
  have hfh := Int.mul_pos hf hh
  refine ⟨a * (d * (f * h)), c * (b * (f * h)), e * (b * (d * h)), g * (b * (d * f)), ⟨?_, ?_⟩, ⟨?_, ?_⟩, ⟨?_, ?_⟩, ⟨?_, ?_⟩, ⟨?_, ?_⟩, ⟨?_, ?_⟩, ?_, ?_, ?_, ?_⟩
  · exact lt_scale _ hfh (by ac_rfl) (by ac_rfl)
  · exact lt_scale _ hfh (by ac_rfl) (by ac_rfl)
  · exact lt_scale _ hdh (by ac_rfl) (by ac_rfl)
  · exact lt_scale _ hdh (by ac_rfl) (by ac_rfl)
  · exact lt_scale _ hdf (by ac_rfl) (by ac_rfl)
  · exact lt_scale _ hdf (by ac_rfl) (by ac_rfl)
  · exact lt_scale _ hbh (by ac_rfl) (by ac_rfl)
  · exact lt_scale _ hbh (by ac_rfl) (by ac_rfl)
  · exact lt_scale _ hbf (by ac_rfl) (by ac_rfl)
  · exact lt_scale _ hbf (by ac_rfl) (by ac_rfl)
  · exact lt_scale _ hbd (by ac_rfl) (by ac_rfl)
  · exact lt_scale _ hbd (by ac_rfl) (by ac_rfl)
  · exact eq_scale _ hdh (by ac_rfl) (by ac_rfl)
  · exact eq_scale _ hdf (by ac_rfl) (by ac_rfl)
  · exact eq_scale _ hbh (by ac_rfl) (by ac_rfl)
  · exact eq_scale _ hbf (by ac_rfl) (by ac_rfl)

/-- Leaves with an end in common. -/
def shareB (a b c d e f g h : Int) : Bool := eqA a b e f || (eqA a b g h || (eqA c d e f || eqA c d g h))
/-- Leaves that cross. -/
def crossB (a b c d e f g h : Int) : Bool := !shareB a b c d e f g h && (arcB e f a b c d != arcB g h a b c d)
theorem isLf_yes {a b c d : Int} (h : isLf a b c d = true) : Red (a, b) ∧ Red (c, d) ∧ ltA a b c d = true := by
  unfold isLf at h
  simp only [Bool.and_eq_true] at h
  exact ⟨redOf h.1.1, redOf h.1.2, h.2⟩
theorem share_no {a b c d e f g h : Int} (hs : shareB a b c d e f g h = false) : eqA a b e f = false ∧ eqA a b g h = false ∧ eqA c d e f = false ∧ eqA c d g h = false := by
  unfold shareB at hs
  simpa using hs
theorem share_cases (a b c d e f g h : Int) : (shareB a b c d e f g h = true ∧ eqA a b e f = true) ∨ (shareB a b c d e f g h = true ∧ eqA a b e f = false ∧ eqA a b g h = true) ∨
    (shareB a b c d e f g h = true ∧ eqA a b e f = false ∧ eqA a b g h = false ∧ eqA c d e f = true) ∨ (shareB a b c d e f g h = true ∧ eqA a b e f = false ∧ eqA a b g h = false ∧ eqA c d e f = false ∧ eqA c d g h = true) ∨
    (shareB a b c d e f g h = false ∧ eqA a b e f = false ∧ eqA a b g h = false ∧ eqA c d e f = false ∧ eqA c d g h = false) := by
  unfold shareB
  cases eqA a b e f <;> cases eqA a b g h <;> cases eqA c d e f <;> cases eqA c d g h <;> simp
theorem cross_turn {a b c d e f g h : Int} (hl : isLf a b c d = true) (hm : isLf e f g h = true) (hs : shareB a b c d e f g h = false) :
    (arcB e f a b c d != arcB g h a b c d) = (arcB a b e f g h != arcB c d e f g h) := by
  obtain ⟨r1, r2, l1⟩ := isLf_yes hl
  obtain ⟨r3, r4, l2⟩ := isLf_yes hm
  obtain ⟨s1, s2, s3, s4⟩ := share_no hs
  have n1 := ne_of_red r1 r3 s1
  have n2 := ne_of_red r1 r4 s2
  have n3 := ne_of_red r2 r3 s3
  have n4 := ne_of_red r2 r4 s4
  obtain ⟨P, Q, R, S, ⟨x1, x2⟩, ⟨x3, x4⟩, ⟨x5, x6⟩, ⟨x7, x8⟩, ⟨x9, x10⟩, ⟨x11, x12⟩, y1, y2, y3, y4⟩ := rank4 (a := a) (b := b) (c := c) (d := d) (e := e) (f := f) (g := g) (h := h) r1.1 r2.1 r3.1 r4.1
  have m1 := y1 n1
  have m2 := y2 n2
  have m3 := y3 n3
  have m4 := y4 n4
  clear y1 y2 y3 y4 n1 n2 n3 n4 s1 s2 s3 s4 r1 r2 r3 r4 hl hm hs
  unfold arcB
  rw [l1, l2]
  rw [x1] at l1
  rw [x11] at l2
  rw [x3, x4, x5, x8, x9, x10]
  have o1 := of_decide_eq_true l1
  have o2 := of_decide_eq_true l2
  clear l1 l2 x1 x2 x3 x4 x5 x6 x7 x8 x9 x10 x11 x12
  by_cases h1 : P < R
  all_goals
    by_cases h2 : P < S
    all_goals
      by_cases h3 : Q < R
      all_goals
        by_cases h4 : Q < S
        all_goals
          first
          | (exfalso; omega)
          | (have k1 : decide (R < P) = !decide (P < R) := by rw [Bool.eq_iff_iff]; simp; omega
             have k3 : decide (R < Q) = !decide (Q < R) := by rw [Bool.eq_iff_iff]; simp; omega
             have k4 : decide (S < Q) = !decide (Q < S) := by rw [Bool.eq_iff_iff]; simp; omega
             simp [k1, k3, k4, h1, h2, h3, h4])
end Go.Proofs.Ytnciiodgkanpjaa

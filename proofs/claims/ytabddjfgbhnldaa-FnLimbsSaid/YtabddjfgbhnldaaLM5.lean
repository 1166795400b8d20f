/-
  Plain mathematics and contracts: what the law of limbs asks. The walk of the law: its code is drawn from; written by genLM5.py.
-/
import Derived.Test.YtabddjfgbhnldaaLMA
import Derived.Test.YtabddjfgbhnldaaDZ
namespace Go.Proofs.Ytabddjfgbhnldaa
open Go.RowKit

structure Box2 (G : Nat) (x y : Int) (W : World) : Prop where
  z : G < W.heap.size
  c0 : W.cell? ⟨G, 0, none⟩ = some (.int .i64 x)
  c1 : W.cell? ⟨G, 1, none⟩ = some (.int .i64 y)
structure Box4 (G : Nat) (x y u v : Int) (W : World) : Prop where
  z : G < W.heap.size
  c0 : W.cell? ⟨G, 0, none⟩ = some (.int .i64 x)
  c1 : W.cell? ⟨G, 1, none⟩ = some (.int .i64 y)
  c2 : W.cell? ⟨G, 2, none⟩ = some (.int .i64 u)
  c3 : W.cell? ⟨G, 3, none⟩ = some (.int .i64 v)
theorem Box2.on {G : Nat} {x y : Int} {W W1 : World} (H : Box2 G x y W) (hb : Below W.heap.size W W1) : Box2 G x y W1 := ⟨Nat.lt_of_lt_of_le H.z hb.size, cellThru hb H.z H.c0, cellThru hb H.z H.c1⟩
theorem Box4.on {G : Nat} {x y u v : Int} {W W1 : World} (H : Box4 G x y u v W) (hb : Below W.heap.size W W1) : Box4 G x y u v W1 := ⟨Nat.lt_of_lt_of_le H.z hb.size, cellThru hb H.z H.c0, cellThru hb H.z H.c1, cellThru hb H.z H.c2, cellThru hb H.z H.c3⟩
theorem box2 (W : World) (x y : Int) (T : TypeId) : Box2 W.heap.size x y (W.alloc (.cells #[.int .i64 x, .int .i64 y] T)) := ⟨by simp, by simp [go_sem], by simp [go_sem]⟩
theorem box4 (W : World) (x y u v : Int) (T : TypeId) : Box4 W.heap.size x y u v (W.alloc (.cells #[.int .i64 x, .int .i64 y, .int .i64 u, .int .i64 v] T)) := ⟨by simp, by simp [go_sem], by simp [go_sem], by simp [go_sem], by simp [go_sem]⟩
theorem neqRpSame (a b c d : Int) (W : World) : (binOp .neq 28 (leafV a b c d) (leafV a b c d)).run Try.prog W = .ok (.bool false) W := by simp [go_sem]
theorem neqAngSame (a b : Int) (W : World) : (binOp .neq 25 (ang a b) (ang a b)).run Try.prog W = .ok (.bool false) W := by simp [go_sem]
theorem lm_bad {n d : Int} (h : lmC n d ≠ 0) : lmP n d = (0, 0, 0, 0) := by
  rcases lm_cases n d with ⟨_, h1, _⟩ | ⟨_, _, _, _, h4⟩ | ⟨_, _, _, _, _, h4⟩ | ⟨_, _, _, h1, _⟩
  · exact h1
  · exact absurd h4 h
  · exact absurd h4 h
  · exact h1
theorem lm_good {n d : Int} (h : lmC n d = 0) : angOk n d ∧ okP (lmP n d) = true ∧ ltA n d (lmP n d).1 (lmP n d).2.1 = false ∧ ltA (lmP n d).2.2.1 (lmP n d).2.2.2 n d = false := by
  have hb : isAng n d = true ∧ lmB n d = true := by
    rcases lm_cases n d with ⟨_, _, _, h1⟩ | ⟨ha, _, _, hb, _⟩ | ⟨ha, _, _, _, hb, _⟩ | ⟨_, _, _, _, _, h1⟩
    · omega
    · exact ⟨ha, hb⟩
    · exact ⟨ha, hb⟩
    · omega
  exact ⟨isAng_ok hb.1, limB_ok hb.2, lm_has hb.2⟩
theorem obC_two (n d m c : Int) : obC n d m c = 0 ∨ obC n d m c = 1 := by unfold obC; split <;> simp
theorem obC_sym (n d m c : Int) : obC n d m c = obC m c n d := by unfold obC; rw [Bool.and_comm]
theorem opp_two (n d : Int) : oppC n d = 0 ∨ oppC n d = 1 := by unfold oppC; split <;> simp
theorem red_self {D : Int} (h : 0 < D) : redN D D = 0 ∧ redD D D = 1 := by
  unfold redN redD
  rw [Int.emod_self]
  have e : gcdI 0 D = D := by unfold gcdI; rw [Int.gcd_zero_left]; omega
  rw [e]
  exact ⟨by simp, Int.ediv_self (by omega)⟩
theorem opp_sum {n d : Int} (h : oppC n d = 0) : sumN n d (oppN n d) (oppD n d) = 0 ∧ sumD n d (oppN n d) (oppD n d) = 1 ∧ sumC n d (oppN n d) (oppD n d) = 0 := by
  cases ha : isAng n d
  · rw [(opp_no ha).2.2] at h; cases h
  · obtain ⟨e1, e2, _⟩ := opp_yes ha
    rw [e1, e2]
    have ho := opp_isAng ha
    obtain ⟨x1, x2⟩ := Prod.mk.inj (show (redN (-n) d, redD (-n) d) = ((opX (n, d)).1, (opX (n, d)).2) from op_eq ha)
    have hs : sumOk n d (redN (-n) d) (redD (-n) d) = true := by unfold sumOk; rw [ha, ho]; rfl
    obtain ⟨s1, s2, s3⟩ := sum_yes hs
    rw [s1, s2, s3, x1, x2]
    obtain ⟨d1, d2, n0, n1, hg⟩ := isAng_yes ha
    have key : redN (n * (opX (n, d)).2 + (opX (n, d)).1 * d) (d * (opX (n, d)).2) = 0 ∧ redD (n * (opX (n, d)).2 + (opX (n, d)).1 * d) (d * (opX (n, d)).2) = 1 := by
      unfold opX
      dsimp only
      by_cases h0 : n = 0
      · subst h0
        have hd : d = 1 := by
          unfold gcdI at hg
          rw [Int.gcd_zero_left] at hg
          omega
        subst hd
        decide
      · rw [if_neg h0]
        dsimp only
        have e : n * d + (d - n) * d = d * d := by rw [Int.sub_mul]; omega
        rw [e]
        exact red_self (Int.mul_pos (by omega) (by omega))
    rw [key.1, key.2]
    exact ⟨by unfold toldN; simp, by unfold toldD; simp, by unfold toldC; simp⟩

set_option maxHeartbeats 400000 in
theorem lawLess9 (n d m c : Int) (w : World) (h1 : angOk n d) (h2 : angOk m c) :
    Calls Try.prog 18 #[ang n d, ang m c] w fun e w' => e = .returned (.bool (ltA n d m c)) ∧ Below w.heap.size w w' := by
  obtain ⟨a1, a2, a3, a4⟩ := h1
  obtain ⟨b1, b2, b3, b4⟩ := h2
  obtain ⟨p1, p2⟩ := mul_bound (a := n) (b := c) (by omega) (by omega) (by omega) (by omega)
  obtain ⟨q1, q2⟩ := mul_bound (a := m) (b := d) (by omega) (by omega) (by omega) (by omega)
  have E : Hid (ltA n d m c = decide (n * c < m * d)) := Lib.hid rfl
  generalize ltA n d m c = L at *
  go_enter Try.func18, Try.ntmps18
  go_wp2
  go_ret
  refine ⟨retB ?_, ?_⟩
  · rw [E.out]
  · (repeat' (first | (with_reducible exact Below.refl _ _) | (with_reducible assumption) | (with_reducible refine belowNext ?_ (by with_reducible assumption)) | (with_reducible refine belowAlloc ?_ _) | (with_reducible refine Below.drew ?_) | (with_reducible refine below_drewN ?_ _) | (with_reducible refine Below.setCell ?_ ?_ _) | go_size | (with_reducible refine sizeOf' ?_) | (with_reducible refine sizeAdd ?_) | (dsimp only; first | (with_reducible refine sizeOf' ?_) | (with_reducible refine sizeAdd ?_))))

set_option maxRecDepth 8000 in
set_option maxHeartbeats 4000000 in
theorem lawLimbs (A : Option Addr) (n cap : Nat) (w : World) (h : CodeRow w w.heap.size A n) :
    Calls Try.prog 3 #[.slice A n cap] w fun e w' => e = .returned (.bool true) ∧ Below w.heap.size w w' := by
  have HG := Lib.hid (lawBig A n cap w)
  by_cases hn : 4096 < n
  · have dn : decide (4096 < n) = true := decide_eq_true hn
    rw [dn] at HG
    clear h
    go_enter Try.func3, Try.ntmps3
    go_wp2_with fail
    refine HG.out.mono ?_
    rintro e w1 ⟨rfl, rfl⟩
    go_wp2
    go_ret
    exact ⟨rfl, Below.refl _ _⟩
  have dn : decide (4096 < n) = false := decide_eq_false hn
  rw [dn] at HG
  clear dn
  have HB : Hid (Below w.heap.size w w) := Lib.hid (Below.refl _ _)
  have HR := Lib.hid h
  have hn' : n ≤ 4096 := by omega
  have HD := Lib.hid (fun W (hB : Below w.heap.size w W) => And.intro (drawOb A n cap W (codeOn HR.out hB) hn') (drawOpp A n cap W (codeOn HR.out hB) hn'))
  clear h
  go_enter Try.func3, Try.ntmps3
  go_wp2_with fail
  refine HG.out.mono ?_
  rintro e w1 ⟨rfl, rfl⟩
  clear HG
  go_wp2_with fail
  refine (drawLimb A n cap w HR.out hn').mono ?_
  rintro e v0 ⟨⟨x, y, rfl⟩, hb⟩
  replace HB := Lib.hid (belowNext HB.out hb)
  clear hb
  clear HR
  go_wp2_with fail
  have HG3 := Lib.hid (box2 v0 x y 25)
  replace HB := Lib.hid (belowAlloc HB.out (.cells #[.int .i64 x, .int .i64 y] 25))
  generalize v0.alloc (.cells #[.int .i64 x, .int .i64 y] 25) = u1 at *
  generalize v0.heap.size = G3 at *
  have HL1 := Lib.hid (fun w => implLimbOf x y w)
  have HL2 := Lib.hid (fun w => specLimbOf x y w)
  have HE1 : Hid (lmC x y ≠ 0 → lmP x y = (0, 0, 0, 0)) := Lib.hid lm_bad
  have HE2 : Hid (lmC x y = 0 → angOk x y ∧ okP (lmP x y) = true ∧ ltA x y (lmP x y).1 (lmP x y).2.1 = false ∧ ltA (lmP x y).2.2.1 (lmP x y).2.2.2 x y = false) := Lib.hid lm_good
  generalize lmP x y = P at *
  generalize lmC x y = C1 at *
  obtain ⟨l1, l2, l3, l4⟩ := P
  dsimp only at HE2 HL1 HL2
  have N1 := fun W => neqRpSame l1 l2 l3 l4 W
  refine (HL1.out _).mono ?_
  rintro e v1 ⟨rfl, hb⟩
  replace HG3 := Lib.hid (HG3.out.on hb)
  replace HB := Lib.hid (belowNext HB.out hb)
  clear hb
  clear HL1
  obtain ⟨fG30, fG31, fG32⟩ := id HG3.out
  go_wp2_with fail
  clear fG30 fG31 fG32
  replace HG3 := Lib.hid (HG3.out.on (belowAlloc (Below.refl _ _) (.cells #[.int .i64 l1, .int .i64 l2, .int .i64 l3, .int .i64 l4] 28)))
  have HG4 := Lib.hid (box4 v1 l1 l2 l3 l4 28)
  replace HB := Lib.hid (belowAlloc HB.out (.cells #[.int .i64 l1, .int .i64 l2, .int .i64 l3, .int .i64 l4] 28))
  generalize v1.alloc (.cells #[.int .i64 l1, .int .i64 l2, .int .i64 l3, .int .i64 l4] 28) = u2 at *
  generalize v1.heap.size = G4 at *
  refine (HL2.out _).mono ?_
  rintro e v2 ⟨rfl, hb⟩
  replace HG3 := Lib.hid (HG3.out.on hb)
  replace HG4 := Lib.hid (HG4.out.on hb)
  replace HB := Lib.hid (belowNext HB.out hb)
  clear hb
  clear HL2
  obtain ⟨fG40, fG41, fG42, fG43, fG44⟩ := id HG4.out
  go_wp2_with fail
  clear fG40 fG41 fG42 fG43 fG44
  replace HG3 := Lib.hid (HG3.out.on (belowAlloc (Below.refl _ _) (.cells #[.int .i64 l1, .int .i64 l2, .int .i64 l3, .int .i64 l4] 28)))
  replace HG4 := Lib.hid (HG4.out.on (belowAlloc (Below.refl _ _) (.cells #[.int .i64 l1, .int .i64 l2, .int .i64 l3, .int .i64 l4] 28)))
  have HG6 := Lib.hid (box4 v2 l1 l2 l3 l4 28)
  replace HB := Lib.hid (belowAlloc HB.out (.cells #[.int .i64 l1, .int .i64 l2, .int .i64 l3, .int .i64 l4] 28))
  generalize v2.alloc (.cells #[.int .i64 l1, .int .i64 l2, .int .i64 l3, .int .i64 l4] 28) = u3 at *
  generalize v2.heap.size = G6 at *
  clear N1
  refine (HD.out _ HB.out).1.mono ?_
  rintro e v3 ⟨⟨p, q, r, s, rfl⟩, hb⟩
  replace HG3 := Lib.hid (HG3.out.on hb)
  replace HG4 := Lib.hid (HG4.out.on hb)
  replace HG6 := Lib.hid (HG6.out.on hb)
  replace HB := Lib.hid (belowNext HB.out hb)
  clear hb
  go_wp2_with fail
  replace HG3 := Lib.hid (HG3.out.on (belowAlloc (Below.refl _ _) (.cells #[.int .i64 p, .int .i64 q] 25)))
  replace HG4 := Lib.hid (HG4.out.on (belowAlloc (Below.refl _ _) (.cells #[.int .i64 p, .int .i64 q] 25)))
  replace HG6 := Lib.hid (HG6.out.on (belowAlloc (Below.refl _ _) (.cells #[.int .i64 p, .int .i64 q] 25)))
  have HG8 := Lib.hid (box2 v3 p q 25)
  replace HB := Lib.hid (belowAlloc HB.out (.cells #[.int .i64 p, .int .i64 q] 25))
  replace HG3 := Lib.hid (HG3.out.on (belowAlloc (Below.refl _ _) (.cells #[.int .i64 r, .int .i64 s] 25)))
  replace HG4 := Lib.hid (HG4.out.on (belowAlloc (Below.refl _ _) (.cells #[.int .i64 r, .int .i64 s] 25)))
  replace HG6 := Lib.hid (HG6.out.on (belowAlloc (Below.refl _ _) (.cells #[.int .i64 r, .int .i64 s] 25)))
  replace HG8 := Lib.hid (HG8.out.on (belowAlloc (Below.refl _ _) (.cells #[.int .i64 r, .int .i64 s] 25)))
  have HG9 := Lib.hid (box2 (v3.alloc (.cells #[.int .i64 p, .int .i64 q] 25)) r s 25)
  replace HB := Lib.hid (belowAlloc HB.out (.cells #[.int .i64 r, .int .i64 s] 25))
  simp only [World.size_alloc] at HG9
  generalize (v3.alloc (.cells #[.int .i64 p, .int .i64 q] 25)).alloc (.cells #[.int .i64 r, .int .i64 s] 25) = u4 at *
  generalize v3.heap.size + 1 = G9 at *
  generalize v3.heap.size = G8 at *
  have HO1 := Lib.hid (fun w => implOb p q r s w)
  have HO2 := Lib.hid (fun w => specOb p q r s w)
  have HO3 := Lib.hid (fun w => implOb r s p q w)
  rw [ob_sym r s p q, obC_sym r s p q] at HO3
  have HC2 := Lib.hid (obC_two p q r s)
  generalize obB p q r s = V at *
  generalize obC p q r s = C2 at *
  refine (HO1.out _).mono ?_
  rintro e v4 ⟨rfl, hb⟩
  replace HG3 := Lib.hid (HG3.out.on hb)
  replace HG4 := Lib.hid (HG4.out.on hb)
  replace HG6 := Lib.hid (HG6.out.on hb)
  replace HG8 := Lib.hid (HG8.out.on hb)
  replace HG9 := Lib.hid (HG9.out.on hb)
  replace HB := Lib.hid (belowNext HB.out hb)
  clear hb
  clear HO1
  obtain ⟨fG80, fG81, fG82⟩ := id HG8.out
  obtain ⟨fG90, fG91, fG92⟩ := id HG9.out
  go_wp2_with fail
  clear fG80 fG81 fG82 fG90 fG91 fG92
  refine (HO2.out _).mono ?_
  rintro e v5 ⟨rfl, hb⟩
  replace HG3 := Lib.hid (HG3.out.on hb)
  replace HG4 := Lib.hid (HG4.out.on hb)
  replace HG6 := Lib.hid (HG6.out.on hb)
  replace HG8 := Lib.hid (HG8.out.on hb)
  replace HG9 := Lib.hid (HG9.out.on hb)
  replace HB := Lib.hid (belowNext HB.out hb)
  clear hb
  clear HO2
  go_wp2_with fail
  refine (HD.out _ HB.out).2.mono ?_
  rintro e v6 ⟨⟨a, b, rfl⟩, hb⟩
  replace HG3 := Lib.hid (HG3.out.on hb)
  replace HG4 := Lib.hid (HG4.out.on hb)
  replace HG6 := Lib.hid (HG6.out.on hb)
  replace HG8 := Lib.hid (HG8.out.on hb)
  replace HG9 := Lib.hid (HG9.out.on hb)
  replace HB := Lib.hid (belowNext HB.out hb)
  clear hb
  clear HD
  go_wp2_with fail
  replace HG3 := Lib.hid (HG3.out.on (belowAlloc (Below.refl _ _) (.cells #[.int .i64 a, .int .i64 b] 25)))
  replace HG4 := Lib.hid (HG4.out.on (belowAlloc (Below.refl _ _) (.cells #[.int .i64 a, .int .i64 b] 25)))
  replace HG6 := Lib.hid (HG6.out.on (belowAlloc (Below.refl _ _) (.cells #[.int .i64 a, .int .i64 b] 25)))
  replace HG8 := Lib.hid (HG8.out.on (belowAlloc (Below.refl _ _) (.cells #[.int .i64 a, .int .i64 b] 25)))
  replace HG9 := Lib.hid (HG9.out.on (belowAlloc (Below.refl _ _) (.cells #[.int .i64 a, .int .i64 b] 25)))
  have HG14 := Lib.hid (box2 v6 a b 25)
  replace HB := Lib.hid (belowAlloc HB.out (.cells #[.int .i64 a, .int .i64 b] 25))
  generalize v6.alloc (.cells #[.int .i64 a, .int .i64 b] 25) = u7 at *
  generalize v6.heap.size = G14 at *
  have HP1 := Lib.hid (fun w => implOpposite a b w)
  have HP2 := Lib.hid (fun w => specOpposite a b w)
  have HS := Lib.hid (fun w => implAdd a b (oppN a b) (oppD a b) w)
  have HC3 := Lib.hid (opp_two a b)
  have HE3 : Hid (oppC a b = 0 → sumN a b (oppN a b) (oppD a b) = 0 ∧ sumD a b (oppN a b) (oppD a b) = 1 ∧ sumC a b (oppN a b) (oppD a b) = 0) := Lib.hid opp_sum
  generalize sumN a b (oppN a b) (oppD a b) = S1 at *
  generalize sumD a b (oppN a b) (oppD a b) = S2 at *
  generalize sumC a b (oppN a b) (oppD a b) = S3 at *
  generalize oppN a b = m at *
  generalize oppD a b = c at *
  generalize oppC a b = C3 at *
  have N2 := fun W => neqAngSame m c W
  refine (HP1.out _).mono ?_
  rintro e v7 ⟨rfl, hb⟩
  replace HG3 := Lib.hid (HG3.out.on hb)
  replace HG4 := Lib.hid (HG4.out.on hb)
  replace HG6 := Lib.hid (HG6.out.on hb)
  replace HG8 := Lib.hid (HG8.out.on hb)
  replace HG9 := Lib.hid (HG9.out.on hb)
  replace HG14 := Lib.hid (HG14.out.on hb)
  replace HB := Lib.hid (belowNext HB.out hb)
  clear hb
  clear HP1
  obtain ⟨fG140, fG141, fG142⟩ := id HG14.out
  go_wp2_with fail
  clear fG140 fG141 fG142
  replace HG3 := Lib.hid (HG3.out.on (belowAlloc (Below.refl _ _) (.cells #[.int .i64 m, .int .i64 c] 25)))
  replace HG4 := Lib.hid (HG4.out.on (belowAlloc (Below.refl _ _) (.cells #[.int .i64 m, .int .i64 c] 25)))
  replace HG6 := Lib.hid (HG6.out.on (belowAlloc (Below.refl _ _) (.cells #[.int .i64 m, .int .i64 c] 25)))
  replace HG8 := Lib.hid (HG8.out.on (belowAlloc (Below.refl _ _) (.cells #[.int .i64 m, .int .i64 c] 25)))
  replace HG9 := Lib.hid (HG9.out.on (belowAlloc (Below.refl _ _) (.cells #[.int .i64 m, .int .i64 c] 25)))
  replace HG14 := Lib.hid (HG14.out.on (belowAlloc (Below.refl _ _) (.cells #[.int .i64 m, .int .i64 c] 25)))
  have HG15 := Lib.hid (box2 v7 m c 25)
  replace HB := Lib.hid (belowAlloc HB.out (.cells #[.int .i64 m, .int .i64 c] 25))
  generalize v7.alloc (.cells #[.int .i64 m, .int .i64 c] 25) = u8 at *
  generalize v7.heap.size = G15 at *
  -- spec.OppositeAngle
  refine (HP2.out _).mono ?_
  rintro e v8 ⟨rfl, hb⟩
  replace HG3 := Lib.hid (HG3.out.on hb)
  replace HG4 := Lib.hid (HG4.out.on hb)
  replace HG6 := Lib.hid (HG6.out.on hb)
  replace HG8 := Lib.hid (HG8.out.on hb)
  replace HG9 := Lib.hid (HG9.out.on hb)
  replace HG14 := Lib.hid (HG14.out.on hb)
  replace HG15 := Lib.hid (HG15.out.on hb)
  replace HB := Lib.hid (belowNext HB.out hb)
  clear hb
  clear HP2
  rcases HC2.out with rfl | rfl
  · clear HC2
    obtain ⟨fG150, fG151, fG152⟩ := id HG15.out
    obtain ⟨fG80, fG81, fG82⟩ := id HG8.out
    obtain ⟨fG90, fG91, fG92⟩ := id HG9.out
    go_wp2_with fail
    clear fG150 fG151 fG152 fG80 fG81 fG82 fG90 fG91 fG92
    replace HG3 := Lib.hid (HG3.out.on (belowAlloc (Below.refl _ _) (.cells #[.int .i64 m, .int .i64 c] 25)))
    replace HG4 := Lib.hid (HG4.out.on (belowAlloc (Below.refl _ _) (.cells #[.int .i64 m, .int .i64 c] 25)))
    replace HG6 := Lib.hid (HG6.out.on (belowAlloc (Below.refl _ _) (.cells #[.int .i64 m, .int .i64 c] 25)))
    replace HG8 := Lib.hid (HG8.out.on (belowAlloc (Below.refl _ _) (.cells #[.int .i64 m, .int .i64 c] 25)))
    replace HG9 := Lib.hid (HG9.out.on (belowAlloc (Below.refl _ _) (.cells #[.int .i64 m, .int .i64 c] 25)))
    replace HG14 := Lib.hid (HG14.out.on (belowAlloc (Below.refl _ _) (.cells #[.int .i64 m, .int .i64 c] 25)))
    replace HG15 := Lib.hid (HG15.out.on (belowAlloc (Below.refl _ _) (.cells #[.int .i64 m, .int .i64 c] 25)))
    have HG17 := Lib.hid (box2 v8 m c 25)
    replace HB := Lib.hid (belowAlloc HB.out (.cells #[.int .i64 m, .int .i64 c] 25))
    generalize v8.alloc (.cells #[.int .i64 m, .int .i64 c] 25) = u9 at *
    generalize v8.heap.size = G17 at *
    refine (HO3.out _).mono ?_
    rintro e v9 ⟨rfl, hb⟩
    replace HG3 := Lib.hid (HG3.out.on hb)
    replace HG4 := Lib.hid (HG4.out.on hb)
    replace HG6 := Lib.hid (HG6.out.on hb)
    replace HG8 := Lib.hid (HG8.out.on hb)
    replace HG9 := Lib.hid (HG9.out.on hb)
    replace HG14 := Lib.hid (HG14.out.on hb)
    replace HG15 := Lib.hid (HG15.out.on hb)
    replace HG17 := Lib.hid (HG17.out.on hb)
    replace HB := Lib.hid (belowNext HB.out hb)
    clear hb
    clear HO3
    rcases HC3.out with rfl | rfl
    · clear HC3
      obtain ⟨rfl, rfl, rfl⟩ := HE3.out rfl
      have N3 := fun W => neqAngSame 0 1 W
      obtain ⟨fG140, fG141, fG142⟩ := id HG14.out
      obtain ⟨fG150, fG151, fG152⟩ := id HG15.out
      go_wp2_with fail
      clear fG140 fG141 fG142 fG150 fG151 fG152
      refine (HS.out _).mono ?_
      rintro e v10 ⟨rfl, hb⟩
      replace HG3 := Lib.hid (HG3.out.on hb)
      replace HG4 := Lib.hid (HG4.out.on hb)
      replace HG6 := Lib.hid (HG6.out.on hb)
      replace HG8 := Lib.hid (HG8.out.on hb)
      replace HG9 := Lib.hid (HG9.out.on hb)
      replace HG14 := Lib.hid (HG14.out.on hb)
      replace HG15 := Lib.hid (HG15.out.on hb)
      replace HG17 := Lib.hid (HG17.out.on hb)
      replace HB := Lib.hid (belowNext HB.out hb)
      clear hb
      clear HS HE3
      by_cases hC1 : C1 = 0
      · subst hC1
        obtain ⟨o1, o2, o3, o4⟩ := HE2.out rfl
        have HX1 := Lib.hid (fun w => lawLess9 x y l1 l2 w o1 (ok_low o2))
        have HX2 := Lib.hid (fun w => lawLess9 l3 l4 x y w (okP_uppers o2) o1)
        try dsimp only at HX1 HX2
        rw [o3] at HX1
        rw [o4] at HX2
        clear o1 o2 o3 o4 HE1 HE2
        obtain ⟨fG30, fG31, fG32⟩ := id HG3.out
        obtain ⟨fG40, fG41, fG42, fG43, fG44⟩ := id HG4.out
        go_wp2_with fail
        clear fG30 fG31 fG32 fG40 fG41 fG42 fG43 fG44
        replace HG3 := Lib.hid (HG3.out.on (belowAlloc (Below.refl _ _) (.cells #[.int .i64 0, .int .i64 1] 25)))
        replace HG4 := Lib.hid (HG4.out.on (belowAlloc (Below.refl _ _) (.cells #[.int .i64 0, .int .i64 1] 25)))
        replace HG6 := Lib.hid (HG6.out.on (belowAlloc (Below.refl _ _) (.cells #[.int .i64 0, .int .i64 1] 25)))
        replace HG8 := Lib.hid (HG8.out.on (belowAlloc (Below.refl _ _) (.cells #[.int .i64 0, .int .i64 1] 25)))
        replace HG9 := Lib.hid (HG9.out.on (belowAlloc (Below.refl _ _) (.cells #[.int .i64 0, .int .i64 1] 25)))
        replace HG14 := Lib.hid (HG14.out.on (belowAlloc (Below.refl _ _) (.cells #[.int .i64 0, .int .i64 1] 25)))
        replace HG15 := Lib.hid (HG15.out.on (belowAlloc (Below.refl _ _) (.cells #[.int .i64 0, .int .i64 1] 25)))
        replace HG17 := Lib.hid (HG17.out.on (belowAlloc (Below.refl _ _) (.cells #[.int .i64 0, .int .i64 1] 25)))
        have HG21 := Lib.hid (box2 v10 0 1 25)
        replace HB := Lib.hid (belowAlloc HB.out (.cells #[.int .i64 0, .int .i64 1] 25))
        generalize v10.alloc (.cells #[.int .i64 0, .int .i64 1] 25) = u11 at *
        generalize v10.heap.size = G21 at *
        refine (HX1.out _).mono ?_
        rintro e v11 ⟨rfl, hb⟩
        replace HG3 := Lib.hid (HG3.out.on hb)
        replace HG4 := Lib.hid (HG4.out.on hb)
        replace HG6 := Lib.hid (HG6.out.on hb)
        replace HG8 := Lib.hid (HG8.out.on hb)
        replace HG9 := Lib.hid (HG9.out.on hb)
        replace HG14 := Lib.hid (HG14.out.on hb)
        replace HG15 := Lib.hid (HG15.out.on hb)
        replace HG17 := Lib.hid (HG17.out.on hb)
        replace HG21 := Lib.hid (HG21.out.on hb)
        replace HB := Lib.hid (belowNext HB.out hb)
        clear hb
        obtain ⟨fG30, fG31, fG32⟩ := id HG3.out
        obtain ⟨fG40, fG41, fG42, fG43, fG44⟩ := id HG4.out
        go_wp2_with fail
        clear fG30 fG31 fG32 fG40 fG41 fG42 fG43 fG44
        refine (HX2.out _).mono ?_
        rintro e v12 ⟨rfl, hb⟩
        replace HG3 := Lib.hid (HG3.out.on hb)
        replace HG4 := Lib.hid (HG4.out.on hb)
        replace HG6 := Lib.hid (HG6.out.on hb)
        replace HG8 := Lib.hid (HG8.out.on hb)
        replace HG9 := Lib.hid (HG9.out.on hb)
        replace HG14 := Lib.hid (HG14.out.on hb)
        replace HG15 := Lib.hid (HG15.out.on hb)
        replace HG17 := Lib.hid (HG17.out.on hb)
        replace HG21 := Lib.hid (HG21.out.on hb)
        replace HB := Lib.hid (belowNext HB.out hb)
        clear hb
        go_wp2
        go_ret
        have hB := HB.out
        refine ⟨rfl, ?_⟩
        (repeat' (first | (with_reducible exact Below.refl _ _) | (with_reducible assumption) | (with_reducible refine belowNext ?_ (by with_reducible assumption)) | (with_reducible refine belowAlloc ?_ _) | (with_reducible refine Below.drew ?_) | (with_reducible refine below_drewN ?_ _) | (with_reducible refine Below.setCell ?_ ?_ _) | go_size | (with_reducible refine sizeOf' ?_) | (with_reducible refine sizeAdd ?_) | (dsimp only; first | (with_reducible refine sizeOf' ?_) | (with_reducible refine sizeAdd ?_))))
      · obtain ⟨rfl, rfl, rfl, rfl⟩ : l1 = 0 ∧ l2 = 0 ∧ l3 = 0 ∧ l4 = 0 := by simpa using HE1.out hC1
        clear HE1 HE2
        have hC1b : (C1 == 0) = false := beq_eq_false_iff_ne.2 hC1
        have N4 := fun W => eqlRp 0 0 0 0 0 0 0 0 W
        simp only [decide_true] at N4
        obtain ⟨fG40, fG41, fG42, fG43, fG44⟩ := id HG4.out
        go_wp2
        go_ret
        have hB := HB.out
        refine ⟨rfl, ?_⟩
        (repeat' (first | (with_reducible exact Below.refl _ _) | (with_reducible assumption) | (with_reducible refine belowNext ?_ (by with_reducible assumption)) | (with_reducible refine belowAlloc ?_ _) | (with_reducible refine Below.drew ?_) | (with_reducible refine below_drewN ?_ _) | (with_reducible refine Below.setCell ?_ ?_ _) | go_size | (with_reducible refine sizeOf' ?_) | (with_reducible refine sizeAdd ?_) | (dsimp only; first | (with_reducible refine sizeOf' ?_) | (with_reducible refine sizeAdd ?_))))
    · clear HC3
      clear HE3 HS
      by_cases hC1 : C1 = 0
      · subst hC1
        obtain ⟨o1, o2, o3, o4⟩ := HE2.out rfl
        have HX1 := Lib.hid (fun w => lawLess9 x y l1 l2 w o1 (ok_low o2))
        have HX2 := Lib.hid (fun w => lawLess9 l3 l4 x y w (okP_uppers o2) o1)
        try dsimp only at HX1 HX2
        rw [o3] at HX1
        rw [o4] at HX2
        clear o1 o2 o3 o4 HE1 HE2
        obtain ⟨fG30, fG31, fG32⟩ := id HG3.out
        obtain ⟨fG40, fG41, fG42, fG43, fG44⟩ := id HG4.out
        go_wp2_with fail
        clear fG30 fG31 fG32 fG40 fG41 fG42 fG43 fG44
        refine (HX1.out _).mono ?_
        rintro e v10 ⟨rfl, hb⟩
        replace HG3 := Lib.hid (HG3.out.on hb)
        replace HG4 := Lib.hid (HG4.out.on hb)
        replace HG6 := Lib.hid (HG6.out.on hb)
        replace HG8 := Lib.hid (HG8.out.on hb)
        replace HG9 := Lib.hid (HG9.out.on hb)
        replace HG14 := Lib.hid (HG14.out.on hb)
        replace HG15 := Lib.hid (HG15.out.on hb)
        replace HG17 := Lib.hid (HG17.out.on hb)
        replace HB := Lib.hid (belowNext HB.out hb)
        clear hb
        obtain ⟨fG30, fG31, fG32⟩ := id HG3.out
        obtain ⟨fG40, fG41, fG42, fG43, fG44⟩ := id HG4.out
        go_wp2_with fail
        clear fG30 fG31 fG32 fG40 fG41 fG42 fG43 fG44
        refine (HX2.out _).mono ?_
        rintro e v11 ⟨rfl, hb⟩
        replace HG3 := Lib.hid (HG3.out.on hb)
        replace HG4 := Lib.hid (HG4.out.on hb)
        replace HG6 := Lib.hid (HG6.out.on hb)
        replace HG8 := Lib.hid (HG8.out.on hb)
        replace HG9 := Lib.hid (HG9.out.on hb)
        replace HG14 := Lib.hid (HG14.out.on hb)
        replace HG15 := Lib.hid (HG15.out.on hb)
        replace HG17 := Lib.hid (HG17.out.on hb)
        replace HB := Lib.hid (belowNext HB.out hb)
        clear hb
        go_wp2
        go_ret
        have hB := HB.out
        refine ⟨rfl, ?_⟩
        (repeat' (first | (with_reducible exact Below.refl _ _) | (with_reducible assumption) | (with_reducible refine belowNext ?_ (by with_reducible assumption)) | (with_reducible refine belowAlloc ?_ _) | (with_reducible refine Below.drew ?_) | (with_reducible refine below_drewN ?_ _) | (with_reducible refine Below.setCell ?_ ?_ _) | go_size | (with_reducible refine sizeOf' ?_) | (with_reducible refine sizeAdd ?_) | (dsimp only; first | (with_reducible refine sizeOf' ?_) | (with_reducible refine sizeAdd ?_))))
      · obtain ⟨rfl, rfl, rfl, rfl⟩ : l1 = 0 ∧ l2 = 0 ∧ l3 = 0 ∧ l4 = 0 := by simpa using HE1.out hC1
        clear HE1 HE2
        have hC1b : (C1 == 0) = false := beq_eq_false_iff_ne.2 hC1
        have N4 := fun W => eqlRp 0 0 0 0 0 0 0 0 W
        simp only [decide_true] at N4
        obtain ⟨fG40, fG41, fG42, fG43, fG44⟩ := id HG4.out
        go_wp2
        go_ret
        have hB := HB.out
        refine ⟨rfl, ?_⟩
        (repeat' (first | (with_reducible exact Below.refl _ _) | (with_reducible assumption) | (with_reducible refine belowNext ?_ (by with_reducible assumption)) | (with_reducible refine belowAlloc ?_ _) | (with_reducible refine Below.drew ?_) | (with_reducible refine below_drewN ?_ _) | (with_reducible refine Below.setCell ?_ ?_ _) | go_size | (with_reducible refine sizeOf' ?_) | (with_reducible refine sizeAdd ?_) | (dsimp only; first | (with_reducible refine sizeOf' ?_) | (with_reducible refine sizeAdd ?_))))
  · clear HC2
    clear HO3
    rcases HC3.out with rfl | rfl
    · clear HC3
      obtain ⟨rfl, rfl, rfl⟩ := HE3.out rfl
      have N3 := fun W => neqAngSame 0 1 W
      obtain ⟨fG150, fG151, fG152⟩ := id HG15.out
      obtain ⟨fG140, fG141, fG142⟩ := id HG14.out
      go_wp2_with fail
      clear fG150 fG151 fG152 fG140 fG141 fG142
      replace HG3 := Lib.hid (HG3.out.on (belowAlloc (Below.refl _ _) (.cells #[.int .i64 m, .int .i64 c] 25)))
      replace HG4 := Lib.hid (HG4.out.on (belowAlloc (Below.refl _ _) (.cells #[.int .i64 m, .int .i64 c] 25)))
      replace HG6 := Lib.hid (HG6.out.on (belowAlloc (Below.refl _ _) (.cells #[.int .i64 m, .int .i64 c] 25)))
      replace HG8 := Lib.hid (HG8.out.on (belowAlloc (Below.refl _ _) (.cells #[.int .i64 m, .int .i64 c] 25)))
      replace HG9 := Lib.hid (HG9.out.on (belowAlloc (Below.refl _ _) (.cells #[.int .i64 m, .int .i64 c] 25)))
      replace HG14 := Lib.hid (HG14.out.on (belowAlloc (Below.refl _ _) (.cells #[.int .i64 m, .int .i64 c] 25)))
      replace HG15 := Lib.hid (HG15.out.on (belowAlloc (Below.refl _ _) (.cells #[.int .i64 m, .int .i64 c] 25)))
      have HG17 := Lib.hid (box2 v8 m c 25)
      replace HB := Lib.hid (belowAlloc HB.out (.cells #[.int .i64 m, .int .i64 c] 25))
      generalize v8.alloc (.cells #[.int .i64 m, .int .i64 c] 25) = u9 at *
      generalize v8.heap.size = G17 at *
      refine (HS.out _).mono ?_
      rintro e v9 ⟨rfl, hb⟩
      replace HG3 := Lib.hid (HG3.out.on hb)
      replace HG4 := Lib.hid (HG4.out.on hb)
      replace HG6 := Lib.hid (HG6.out.on hb)
      replace HG8 := Lib.hid (HG8.out.on hb)
      replace HG9 := Lib.hid (HG9.out.on hb)
      replace HG14 := Lib.hid (HG14.out.on hb)
      replace HG15 := Lib.hid (HG15.out.on hb)
      replace HG17 := Lib.hid (HG17.out.on hb)
      replace HB := Lib.hid (belowNext HB.out hb)
      clear hb
      clear HS HE3
      by_cases hC1 : C1 = 0
      · subst hC1
        obtain ⟨o1, o2, o3, o4⟩ := HE2.out rfl
        have HX1 := Lib.hid (fun w => lawLess9 x y l1 l2 w o1 (ok_low o2))
        have HX2 := Lib.hid (fun w => lawLess9 l3 l4 x y w (okP_uppers o2) o1)
        try dsimp only at HX1 HX2
        rw [o3] at HX1
        rw [o4] at HX2
        clear o1 o2 o3 o4 HE1 HE2
        obtain ⟨fG30, fG31, fG32⟩ := id HG3.out
        obtain ⟨fG40, fG41, fG42, fG43, fG44⟩ := id HG4.out
        go_wp2_with fail
        clear fG30 fG31 fG32 fG40 fG41 fG42 fG43 fG44
        replace HG3 := Lib.hid (HG3.out.on (belowAlloc (Below.refl _ _) (.cells #[.int .i64 0, .int .i64 1] 25)))
        replace HG4 := Lib.hid (HG4.out.on (belowAlloc (Below.refl _ _) (.cells #[.int .i64 0, .int .i64 1] 25)))
        replace HG6 := Lib.hid (HG6.out.on (belowAlloc (Below.refl _ _) (.cells #[.int .i64 0, .int .i64 1] 25)))
        replace HG8 := Lib.hid (HG8.out.on (belowAlloc (Below.refl _ _) (.cells #[.int .i64 0, .int .i64 1] 25)))
        replace HG9 := Lib.hid (HG9.out.on (belowAlloc (Below.refl _ _) (.cells #[.int .i64 0, .int .i64 1] 25)))
        replace HG14 := Lib.hid (HG14.out.on (belowAlloc (Below.refl _ _) (.cells #[.int .i64 0, .int .i64 1] 25)))
        replace HG15 := Lib.hid (HG15.out.on (belowAlloc (Below.refl _ _) (.cells #[.int .i64 0, .int .i64 1] 25)))
        replace HG17 := Lib.hid (HG17.out.on (belowAlloc (Below.refl _ _) (.cells #[.int .i64 0, .int .i64 1] 25)))
        have HG21 := Lib.hid (box2 v9 0 1 25)
        replace HB := Lib.hid (belowAlloc HB.out (.cells #[.int .i64 0, .int .i64 1] 25))
        generalize v9.alloc (.cells #[.int .i64 0, .int .i64 1] 25) = u10 at *
        generalize v9.heap.size = G21 at *
        refine (HX1.out _).mono ?_
        rintro e v10 ⟨rfl, hb⟩
        replace HG3 := Lib.hid (HG3.out.on hb)
        replace HG4 := Lib.hid (HG4.out.on hb)
        replace HG6 := Lib.hid (HG6.out.on hb)
        replace HG8 := Lib.hid (HG8.out.on hb)
        replace HG9 := Lib.hid (HG9.out.on hb)
        replace HG14 := Lib.hid (HG14.out.on hb)
        replace HG15 := Lib.hid (HG15.out.on hb)
        replace HG17 := Lib.hid (HG17.out.on hb)
        replace HG21 := Lib.hid (HG21.out.on hb)
        replace HB := Lib.hid (belowNext HB.out hb)
        clear hb
        obtain ⟨fG30, fG31, fG32⟩ := id HG3.out
        obtain ⟨fG40, fG41, fG42, fG43, fG44⟩ := id HG4.out
        go_wp2_with fail
        clear fG30 fG31 fG32 fG40 fG41 fG42 fG43 fG44
        refine (HX2.out _).mono ?_
        rintro e v11 ⟨rfl, hb⟩
        replace HG3 := Lib.hid (HG3.out.on hb)
        replace HG4 := Lib.hid (HG4.out.on hb)
        replace HG6 := Lib.hid (HG6.out.on hb)
        replace HG8 := Lib.hid (HG8.out.on hb)
        replace HG9 := Lib.hid (HG9.out.on hb)
        replace HG14 := Lib.hid (HG14.out.on hb)
        replace HG15 := Lib.hid (HG15.out.on hb)
        replace HG17 := Lib.hid (HG17.out.on hb)
        replace HG21 := Lib.hid (HG21.out.on hb)
        replace HB := Lib.hid (belowNext HB.out hb)
        clear hb
        go_wp2
        go_ret
        have hB := HB.out
        refine ⟨rfl, ?_⟩
        (repeat' (first | (with_reducible exact Below.refl _ _) | (with_reducible assumption) | (with_reducible refine belowNext ?_ (by with_reducible assumption)) | (with_reducible refine belowAlloc ?_ _) | (with_reducible refine Below.drew ?_) | (with_reducible refine below_drewN ?_ _) | (with_reducible refine Below.setCell ?_ ?_ _) | go_size | (with_reducible refine sizeOf' ?_) | (with_reducible refine sizeAdd ?_) | (dsimp only; first | (with_reducible refine sizeOf' ?_) | (with_reducible refine sizeAdd ?_))))
      · obtain ⟨rfl, rfl, rfl, rfl⟩ : l1 = 0 ∧ l2 = 0 ∧ l3 = 0 ∧ l4 = 0 := by simpa using HE1.out hC1
        clear HE1 HE2
        have hC1b : (C1 == 0) = false := beq_eq_false_iff_ne.2 hC1
        have N4 := fun W => eqlRp 0 0 0 0 0 0 0 0 W
        simp only [decide_true] at N4
        obtain ⟨fG40, fG41, fG42, fG43, fG44⟩ := id HG4.out
        go_wp2
        go_ret
        have hB := HB.out
        refine ⟨rfl, ?_⟩
        (repeat' (first | (with_reducible exact Below.refl _ _) | (with_reducible assumption) | (with_reducible refine belowNext ?_ (by with_reducible assumption)) | (with_reducible refine belowAlloc ?_ _) | (with_reducible refine Below.drew ?_) | (with_reducible refine below_drewN ?_ _) | (with_reducible refine Below.setCell ?_ ?_ _) | go_size | (with_reducible refine sizeOf' ?_) | (with_reducible refine sizeAdd ?_) | (dsimp only; first | (with_reducible refine sizeOf' ?_) | (with_reducible refine sizeAdd ?_))))
    · clear HC3
      clear HE3 HS
      by_cases hC1 : C1 = 0
      · subst hC1
        obtain ⟨o1, o2, o3, o4⟩ := HE2.out rfl
        have HX1 := Lib.hid (fun w => lawLess9 x y l1 l2 w o1 (ok_low o2))
        have HX2 := Lib.hid (fun w => lawLess9 l3 l4 x y w (okP_uppers o2) o1)
        try dsimp only at HX1 HX2
        rw [o3] at HX1
        rw [o4] at HX2
        clear o1 o2 o3 o4 HE1 HE2
        obtain ⟨fG30, fG31, fG32⟩ := id HG3.out
        obtain ⟨fG40, fG41, fG42, fG43, fG44⟩ := id HG4.out
        obtain ⟨fG150, fG151, fG152⟩ := id HG15.out
        go_wp2_with fail
        clear fG30 fG31 fG32 fG40 fG41 fG42 fG43 fG44 fG150 fG151 fG152
        replace HG3 := Lib.hid (HG3.out.on (belowAlloc (Below.refl _ _) (.cells #[.int .i64 m, .int .i64 c] 25)))
        replace HG4 := Lib.hid (HG4.out.on (belowAlloc (Below.refl _ _) (.cells #[.int .i64 m, .int .i64 c] 25)))
        replace HG6 := Lib.hid (HG6.out.on (belowAlloc (Below.refl _ _) (.cells #[.int .i64 m, .int .i64 c] 25)))
        replace HG8 := Lib.hid (HG8.out.on (belowAlloc (Below.refl _ _) (.cells #[.int .i64 m, .int .i64 c] 25)))
        replace HG9 := Lib.hid (HG9.out.on (belowAlloc (Below.refl _ _) (.cells #[.int .i64 m, .int .i64 c] 25)))
        replace HG14 := Lib.hid (HG14.out.on (belowAlloc (Below.refl _ _) (.cells #[.int .i64 m, .int .i64 c] 25)))
        replace HG15 := Lib.hid (HG15.out.on (belowAlloc (Below.refl _ _) (.cells #[.int .i64 m, .int .i64 c] 25)))
        have HG17 := Lib.hid (box2 v8 m c 25)
        replace HB := Lib.hid (belowAlloc HB.out (.cells #[.int .i64 m, .int .i64 c] 25))
        generalize v8.alloc (.cells #[.int .i64 m, .int .i64 c] 25) = u9 at *
        generalize v8.heap.size = G17 at *
        refine (HX1.out _).mono ?_
        rintro e v9 ⟨rfl, hb⟩
        replace HG3 := Lib.hid (HG3.out.on hb)
        replace HG4 := Lib.hid (HG4.out.on hb)
        replace HG6 := Lib.hid (HG6.out.on hb)
        replace HG8 := Lib.hid (HG8.out.on hb)
        replace HG9 := Lib.hid (HG9.out.on hb)
        replace HG14 := Lib.hid (HG14.out.on hb)
        replace HG15 := Lib.hid (HG15.out.on hb)
        replace HG17 := Lib.hid (HG17.out.on hb)
        replace HB := Lib.hid (belowNext HB.out hb)
        clear hb
        obtain ⟨fG30, fG31, fG32⟩ := id HG3.out
        obtain ⟨fG40, fG41, fG42, fG43, fG44⟩ := id HG4.out
        go_wp2_with fail
        clear fG30 fG31 fG32 fG40 fG41 fG42 fG43 fG44
        refine (HX2.out _).mono ?_
        rintro e v10 ⟨rfl, hb⟩
        replace HG3 := Lib.hid (HG3.out.on hb)
        replace HG4 := Lib.hid (HG4.out.on hb)
        replace HG6 := Lib.hid (HG6.out.on hb)
        replace HG8 := Lib.hid (HG8.out.on hb)
        replace HG9 := Lib.hid (HG9.out.on hb)
        replace HG14 := Lib.hid (HG14.out.on hb)
        replace HG15 := Lib.hid (HG15.out.on hb)
        replace HG17 := Lib.hid (HG17.out.on hb)
        replace HB := Lib.hid (belowNext HB.out hb)
        clear hb
        go_wp2
        go_ret
        have hB := HB.out
        refine ⟨rfl, ?_⟩
        (repeat' (first | (with_reducible exact Below.refl _ _) | (with_reducible assumption) | (with_reducible refine belowNext ?_ (by with_reducible assumption)) | (with_reducible refine belowAlloc ?_ _) | (with_reducible refine Below.drew ?_) | (with_reducible refine below_drewN ?_ _) | (with_reducible refine Below.setCell ?_ ?_ _) | go_size | (with_reducible refine sizeOf' ?_) | (with_reducible refine sizeAdd ?_) | (dsimp only; first | (with_reducible refine sizeOf' ?_) | (with_reducible refine sizeAdd ?_))))
      · obtain ⟨rfl, rfl, rfl, rfl⟩ : l1 = 0 ∧ l2 = 0 ∧ l3 = 0 ∧ l4 = 0 := by simpa using HE1.out hC1
        clear HE1 HE2
        have hC1b : (C1 == 0) = false := beq_eq_false_iff_ne.2 hC1
        have N4 := fun W => eqlRp 0 0 0 0 0 0 0 0 W
        simp only [decide_true] at N4
        obtain ⟨fG40, fG41, fG42, fG43, fG44⟩ := id HG4.out
        obtain ⟨fG150, fG151, fG152⟩ := id HG15.out
        go_wp2
        go_ret
        have hB := HB.out
        refine ⟨rfl, ?_⟩
        (repeat' (first | (with_reducible exact Below.refl _ _) | (with_reducible assumption) | (with_reducible refine belowNext ?_ (by with_reducible assumption)) | (with_reducible refine belowAlloc ?_ _) | (with_reducible refine Below.drew ?_) | (with_reducible refine below_drewN ?_ _) | (with_reducible refine Below.setCell ?_ ?_ _) | go_size | (with_reducible refine sizeOf' ?_) | (with_reducible refine sizeAdd ?_) | (dsimp only; first | (with_reducible refine sizeOf' ?_) | (with_reducible refine sizeAdd ?_))))
end Go.Proofs.Ytabddjfgbhnldaa

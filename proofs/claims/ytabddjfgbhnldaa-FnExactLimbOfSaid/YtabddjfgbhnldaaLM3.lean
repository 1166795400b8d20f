/-
  Contracts: the limb of an angle, as the model searches for it; written by genLM3.py.
-/
import Derived.Test.YtabddjfgbhnldaaLM1
import Derived.Deep.DeepCutAuto
namespace Go.Proofs.Ytabddjfgbhnldaa
open Go.RowKit

theorem neqlL (a1 a2 b1 b2 : Int) (W : World) : (binOp .neq 25 (ang a1 a2) (ang b1 b2)).run Try.prog W = .ok (.bool (!eqA a1 a2 b1 b2)) W := by
  by_cases h1 : a1 = b1
  · by_cases h2 : a2 = b2
    · subst h1 h2
      simp [go_sem, eqA]
    · subst h1
      simp [go_sem, eqA, h2]
  · simp [go_sem, eqA, h1]
/-- A pair's four cells in the block F. -/
structure BoxP (F : Nat) (p : Lf4) (W : World) : Prop where
  z : F < W.heap.size
  c0 : W.cell? ⟨F, 0, none⟩ = some (.int .i64 p.1)
  c1 : W.cell? ⟨F, 1, none⟩ = some (.int .i64 p.2.1)
  c2 : W.cell? ⟨F, 2, none⟩ = some (.int .i64 p.2.2.1)
  c3 : W.cell? ⟨F, 3, none⟩ = some (.int .i64 p.2.2.2)
  f0 : W.frozen? ⟨F, 0, none⟩ = false
  f1 : W.frozen? ⟨F, 1, none⟩ = false
  f2 : W.frozen? ⟨F, 2, none⟩ = false
  f3 : W.frozen? ⟨F, 3, none⟩ = false
theorem BoxP.on {F : Nat} {p : Lf4} {W W1 : World} (H : BoxP F p W) (hb : Below W.heap.size W W1) : BoxP F p W1 :=
  ⟨Nat.lt_of_lt_of_le H.z hb.size, cellThru hb H.z H.c0, cellThru hb H.z H.c1, cellThru hb H.z H.c2, cellThru hb H.z H.c3, frozThru hb H.z H.f0, frozThru hb H.z H.f1, frozThru hb H.z H.f2, frozThru hb H.z H.f3⟩
/-- Four cells are written into. -/
abbrev put4 (W : World) (F : Nat) (a b c d : Int) : World := (((W.setCell ⟨F, 0, none⟩ (.int .i64 a)).setCell ⟨F, 1, none⟩ (.int .i64 b)).setCell ⟨F, 2, none⟩ (.int .i64 c)).setCell ⟨F, 3, none⟩ (.int .i64 d)
theorem oth4 {W : World} {F : Nat} {a b c d : Int} {B o : Nat} {u : Value} (h : B ≠ F) (hc : W.cell? ⟨B, o, none⟩ = some u) : (put4 W F a b c d).cell? ⟨B, o, none⟩ = some u := by
  have e : ∀ j, (⟨F, j, none⟩ : Addr) ≠ ⟨B, o, none⟩ := fun j e => h (by injection e with e1; exact e1.symm)
  unfold put4
  rw [World.cell?_setCell_other _ _ _ _ (e 3), World.cell?_setCell_other _ _ _ _ (e 2), World.cell?_setCell_other _ _ _ _ (e 1), World.cell?_setCell_other _ _ _ _ (e 0)]
  exact hc
theorem BoxP.put {F : Nat} {p : Lf4} {W : World} (H : BoxP F p W) (a b c d : Int) : BoxP F (a, b, c, d) (put4 W F a b c d) := by
  have n : ∀ i j, i ≠ j → (⟨F, j, none⟩ : Addr) ≠ ⟨F, i, none⟩ := fun i j h e => h (by injection e with _ e1; exact e1.symm)
  unfold put4
  refine ⟨by simpa using H.z, ?_, ?_, ?_, ?_, by simpa using H.f0, by simpa using H.f1, by simpa using H.f2, by simpa using H.f3⟩
  · rw [World.cell?_setCell_other _ _ _ _ (n 0 3 (by omega)), World.cell?_setCell_other _ _ _ _ (n 0 2 (by omega)), World.cell?_setCell_other _ _ _ _ (n 0 1 (by omega))]
    exact World.cell?_setCell_same _ _ _ H.c0
  · rw [World.cell?_setCell_other _ _ _ _ (n 1 3 (by omega)), World.cell?_setCell_other _ _ _ _ (n 1 2 (by omega))]
    exact World.cell?_setCell_same _ _ _ ((World.cell?_setCell_other _ _ _ _ (n 1 0 (by omega))).trans H.c1)
  · rw [World.cell?_setCell_other _ _ _ _ (n 2 3 (by omega))]
    exact World.cell?_setCell_same _ _ _ ((World.cell?_setCell_other _ _ _ _ (n 2 1 (by omega))).trans ((World.cell?_setCell_other _ _ _ _ (n 2 0 (by omega))).trans H.c2))
  · exact World.cell?_setCell_same _ _ _ ((World.cell?_setCell_other _ _ _ _ (n 3 2 (by omega))).trans ((World.cell?_setCell_other _ _ _ _ (n 3 1 (by omega))).trans ((World.cell?_setCell_other _ _ _ _ (n 3 0 (by omega))).trans H.c3)))
theorem BoxP.off {F G : Nat} {p : Lf4} {W : World} (H : BoxP F p W) (h : F ≠ G) (a b c d : Int) : BoxP F p (put4 W G a b c d) :=
  ⟨by simpa using H.z, oth4 h H.c0, oth4 h H.c1, oth4 h H.c2, oth4 h H.c3, by simpa using H.f0, by simpa using H.f1, by simpa using H.f2, by simpa using H.f3⟩
/-- A list of pairs that is not in the block F. -/
def LRow (F : Nat) (A : Option Addr) (l : List Lf4) (W : World) : Prop := l ≠ [] → ∃ g off, A = some ⟨g, off, none⟩ ∧ g ≠ F ∧ g < W.heap.size ∧ ∀ k a b c d, l[k]? = some (a, b, c, d) → W.cell? ⟨g, off + k * 4, none⟩ = some (.int .i64 a) ∧ W.cell? ⟨g, off + k * 4 + 1, none⟩ = some (.int .i64 b) ∧ W.cell? ⟨g, off + k * 4 + 2, none⟩ = some (.int .i64 c) ∧ W.cell? ⟨g, off + k * 4 + 3, none⟩ = some (.int .i64 d)
theorem LRow.on {F : Nat} {A : Option Addr} {l : List Lf4} {W W1 : World} (H : LRow F A l W) (hb : Below W.heap.size W W1) : LRow F A l W1 := by
  intro hl
  obtain ⟨g, off, e, h1, h2, hc⟩ := H hl
  refine ⟨g, off, e, h1, Nat.lt_of_lt_of_le h2 hb.size, fun k a b c d hk => ?_⟩
  obtain ⟨x0, x1, x2, x3⟩ := hc k a b c d hk
  exact ⟨cellThru hb h2 x0, cellThru hb h2 x1, cellThru hb h2 x2, cellThru hb h2 x3⟩
theorem LRow.put {F : Nat} {A : Option Addr} {l : List Lf4} {W : World} (H : LRow F A l W) (a b c d : Int) : LRow F A l (put4 W F a b c d) := by
  intro hl
  obtain ⟨g, off, e, h1, h2, hc⟩ := H hl
  refine ⟨g, off, e, h1, by simpa using h2, fun k p q r s hk => ?_⟩
  obtain ⟨x0, x1, x2, x3⟩ := hc k p q r s hk
  exact ⟨oth4 h1 x0, oth4 h1 x1, oth4 h1 x2, oth4 h1 x3⟩
theorem LRow.of {F : Nat} {A : Option Addr} {l : List Lf4} {W W1 : World} (h : LfRow W W.heap.size A l) (hb : Below W.heap.size W W1) (hF : ∀ g off, A = some ⟨g, off, none⟩ → g < W.heap.size → g ≠ F) : LRow F A l W1 := by
  intro hl
  obtain ⟨g, off, e, h2, hc⟩ := h hl
  refine ⟨g, off, e, hF g off e h2, Nat.lt_of_lt_of_le h2 hb.size, fun k a b c d hk => ?_⟩
  obtain ⟨x0, x1, x2, x3⟩ := hc k a b c d hk
  exact ⟨cellThru hb h2 x0, cellThru hb h2 x1, cellThru hb h2 x2, cellThru hb h2 x3⟩
/-- What the search holds: the angle, the answer's block, the best pair so far. -/
structure LimS (w : World) (F : Nat) (n d : Int) (b : Lf4) (W : World) : Prop where
  B : Below w.heap.size w W
  lF : w.heap.size + 1 < F
  k0 : W.cell? ⟨w.heap.size, 0, none⟩ = some (.int .i64 n)
  k1 : W.cell? ⟨w.heap.size, 1, none⟩ = some (.int .i64 d)
  b : BoxP F b W
  r : ∃ q, BoxP (w.heap.size + 1) q W
theorem LimS.on {w : World} {F : Nat} {n d : Int} {b : Lf4} {W W1 : World} (H : LimS w F n d b W) (hb : Below W.heap.size W W1) : LimS w F n d b W1 := by
  have h := H.lF
  have z := H.b.z
  exact ⟨belowNext H.B hb, H.lF, cellThru hb (by omega) H.k0, cellThru hb (by omega) H.k1, H.b.on hb, H.r.imp fun _ h => h.on hb⟩
theorem LimS.put {w : World} {F : Nat} {n d : Int} {p : Lf4} {W : World} (H : LimS w F n d p W) (a b c e : Int) : LimS w F n d (a, b, c, e) (put4 W F a b c e) := by
  have h := H.lF
  have h1 : w.heap.size ≤ F := by omega
  exact ⟨(((H.B.setCell h1 _).setCell h1 _).setCell h1 _).setCell h1 _, H.lF, oth4 (by omega) H.k0, oth4 (by omega) H.k1, H.b.put a b c e, H.r.imp fun _ h => h.off (by omega) a b c e⟩
/-- With the pair that is looked at. -/
structure LimT (w : World) (F : Nat) (n d : Int) (b : Lf4) (G : Nat) (p : Lf4) (W : World) : Prop where
  s : LimS w F n d b W
  ne : F ≠ G
  p : BoxP G p W
theorem LimT.on {w : World} {F : Nat} {n d : Int} {b : Lf4} {G : Nat} {p : Lf4} {W W1 : World} (H : LimT w F n d b G p W) (hb : Below W.heap.size W W1) : LimT w F n d b G p W1 := ⟨H.s.on hb, H.ne, H.p.on hb⟩

theorem LimS.zx {w : World} {F : Nat} {n d : Int} {b : Lf4} {W : World} (H : LimS w F n d b W) : w.heap.size < W.heap.size := by have := H.lF; have := H.b.z; omega
theorem boxNew (W : World) (a b c d : Int) (T : TypeId) : BoxP W.heap.size (a, b, c, d) (W.alloc (.cells #[.int .i64 a, .int .i64 b, .int .i64 c, .int .i64 d] T)) :=
  ⟨by simp, by simp [go_sem], by simp [go_sem], by simp [go_sem], by simp [go_sem], by simp [go_sem], by simp [go_sem], by simp [go_sem], by simp [go_sem]⟩
theorem eqA_swap (a b c d : Int) : eqA a b c d = eqA c d a b := by unfold eqA; rw [BEq.comm (a := a), BEq.comm (a := b)]
theorem pairs8 (w : World) : Calls Try.prog 47 #[.int .i64 8] w fun e w' => ∃ A cap, e = .returned (.slice A (upK 7).length cap) ∧ w'.ownsRow w.heap.size 28 4 (.slice A (upK 7).length cap) (upK 7).length (flatP ((upK 7).map (·.1))) ∧ Below w.heap.size w w' := specPairs 8 w (by omega) (by omega)
set_option maxRecDepth 8000 in
set_option maxHeartbeats 4000000 in
theorem specLimb (n d : Int) (w : World) (ha : isAng n d = true) :
    Calls Try.prog 30 #[ang n d] w fun e w' => e = .returned (.tuple #[leafV (lmP n d).1 (lmP n d).2.1 (lmP n d).2.2.1 (lmP n d).2.2.2, .bool (lmB n d)]) ∧ Below w.heap.size w w' := by
  have HU := Lib.hid (fun w => pairs8 w)
  have HE := Lib.hid (lm_same ha)
  have HX := Lib.hid (isAng_ok ha)
  have HOk := Lib.hid (fun p hp => mapOk (m := 7) (by omega) p hp)
  have hll := upK_len 7 (by omega)
  generalize lmP n d = V at *
  generalize lmB n d = VB at *
  have hlen : (upK 7).length = ((upK 7).map (·.1)).length := (List.length_map _).symm
  rw [hlen] at HU hll
  clear hlen
  generalize (upK 7).map (·.1) = l at *
  obtain ⟨len, hl⟩ : ∃ len, l.length = len := ⟨_, rfl⟩
  rw [hl] at HU hll
  have HL := Lib.hid hl
  clear ha hl
  go_enter Try.func30, Try.ntmps30
  go_wp2_with fail
  refine (HU.out _).mono ?_
  rintro e w1 ⟨A, cap, rfl, ho1, hb1⟩
  have HS0 : Hid (LimS w w1.heap.size n d (0, 0, 0, 0) (w1.alloc (.cells #[.int .i64 0, .int .i64 0, .int .i64 0, .int .i64 0] 28))) := Lib.hid (by
    have up := belowAlloc (w := w1) (Below.refl _ _) (.cells #[.int .i64 0, .int .i64 0, .int .i64 0, .int .i64 0] 28)
    have hz := hb1.size
    simp at hz
    refine ⟨?_, by omega, cellThru up (by omega) (cellThru hb1 (by simp; omega) (by simp [go_sem])), cellThru up (by omega) (cellThru hb1 (by simp; omega) (by simp [go_sem])), ⟨by simp, by simp [go_sem], by simp [go_sem], by simp [go_sem], by simp [go_sem], by simp [go_sem], by simp [go_sem], by simp [go_sem], by simp [go_sem]⟩, (0, 0, 0, 0), ?_⟩
    · (repeat' (first | (with_reducible exact Below.refl _ _) | (with_reducible assumption) | (with_reducible refine belowNext ?_ (by with_reducible assumption)) | (with_reducible refine belowAlloc ?_ _) | (with_reducible refine Below.drew ?_) | (with_reducible refine below_drewN ?_ _) | (with_reducible refine Below.setCell ?_ ?_ _) | go_size | (with_reducible refine sizeOf' ?_) | (with_reducible refine sizeAdd ?_) | (dsimp only; first | (with_reducible refine sizeOf' ?_) | (with_reducible refine sizeAdd ?_))))
    · exact ⟨by simp; omega, cellThru up (by omega) (cellThru hb1 (by simp) (by simp [go_sem])), cellThru up (by omega) (cellThru hb1 (by simp) (by simp [go_sem])), cellThru up (by omega) (cellThru hb1 (by simp) (by simp [go_sem])), cellThru up (by omega) (cellThru hb1 (by simp) (by simp [go_sem])), frozThru up (by omega) (frozThru hb1 (by simp) (by simp [go_sem])), frozThru up (by omega) (frozThru hb1 (by simp) (by simp [go_sem])), frozThru up (by omega) (frozThru hb1 (by simp) (by simp [go_sem])), frozThru up (by omega) (frozThru hb1 (by simp) (by simp [go_sem]))⟩)
  have HR0 : Hid (LRow w1.heap.size A l (w1.alloc (.cells #[.int .i64 0, .int .i64 0, .int .i64 0, .int .i64 0] 28))) := Lib.hid (LRow.of (rowP_of HL.out ho1) (belowAlloc (Below.refl _ _) _) (fun g off _ h => by omega))
  clear ho1 HU
  go_wp2_with fail
  obtain ⟨F, hF⟩ : ∃ F, w1.heap.size = F := ⟨_, rfl⟩
  rw [hF] at HS0 HR0 ⊢
  clear hb1 hF
  go_loopg [6, 7] len (fun g s6 s7 wr => ∃ (k : Nat) (b : Lf4) (f : Bool), k + g = len ∧ s6 = .bool f ∧ s7 = .int .i64 k ∧ Hid (limF (n, d) (l.take k) = (b, f)) ∧ Hid (f = true → okP b = true) ∧ Hid (LimS w F n d b wr) ∧ Hid (LRow F A l wr))
  case atStart => exact ⟨0, (0, 0, 0, 0), false, by omega, rfl, rfl, Lib.hid rfl, Lib.hid (fun h => by cases h), HS0, HR0⟩
  case round =>
    clear HS0 HR0
    obtain ⟨k, b, f, hkg, rfl, rfl, HF, HOb, HS, HR⟩ := hrel
    cases gk with
    | zero =>
      obtain rfl : k = len := by omega
      have e : (b, f) = (V, VB) := by
        have h1 := HF.out
        rw [← HL.out, List.take_length] at h1
        exact h1.symm.trans HE.out
      obtain ⟨rfl, rfl⟩ := Prod.mk.inj e
      obtain ⟨q, R⟩ := HS.out.r
      obtain ⟨b1, b2, b3, b4⟩ := b
      obtain ⟨z, c0, c1, c2, c3, f0, f1, f2, f3⟩ := HS.out.b
      obtain ⟨y, r0, r1, r2, r3, g0, g1, g2, g3⟩ := id R
      have hn : ¬ ((k : Int) < (k : Int)) := by omega
      have hB := HS.out.B
      have P := R.put b1 b2 b3 b4
      dsimp only at c0 c1 c2 c3 r0 r1 r2 r3
      clear HS HR HF HOb HE HOk HX HL e
      go_wp2
      refine bodyPost_ret (v := .tuple #[leafV b1 b2 b3 b4, .bool f]) (by simp [results, Try.results30, go_sem, P.c0, P.c1, P.c2, P.c3]) rfl ⟨rfl, ?_⟩
      have hle1 : w.heap.size ≤ w.heap.size + 1 := Nat.le_succ _
      (repeat' (first | (with_reducible exact Below.refl _ _) | (with_reducible assumption) | (with_reducible refine belowNext ?_ (by with_reducible assumption)) | (with_reducible refine belowAlloc ?_ _) | (with_reducible refine Below.drew ?_) | (with_reducible refine below_drewN ?_ _) | (with_reducible refine Below.setCell ?_ ?_ _) | go_size | (with_reducible refine sizeOf' ?_) | (with_reducible refine sizeAdd ?_) | (dsimp only; first | (with_reducible refine sizeOf' ?_) | (with_reducible refine sizeAdd ?_))))
    | succ g =>
      have hlt : k < len := by omega
      have hkl : k < l.length := by have := HL.out; omega
      have hk2 : (k : Int) < (len : Int) := by omega
      obtain ⟨⟨p1, p2, p3, p4⟩, hq⟩ : ∃ q, l[k]? = some q := ⟨_, List.getElem?_eq_getElem hkl⟩
      have hne : l ≠ [] := by intro h; rw [h] at hkl; simp at hkl
      obtain ⟨g0, off, rfl, hgF, hgz, hcells⟩ := HR.out hne
      obtain ⟨y0, y1, y2, y3⟩ := hcells k p1 p2 p3 p4 hq
      obtain ⟨b1, b2, b3, b4⟩ := b
      have HPo := Lib.hid (HOk.out _ (List.mem_of_getElem? hq))
      have HI := Lib.hid (fun w => specIns n d p1 p2 p3 p4 w HX.out (ok_low HPo.out) (okP_uppers HPo.out))
      have HLs : Hid (f = true → ∀ w, Calls Try.prog 49 #[ang p1 p2, ang b1 b2] w fun e w' => e = .returned (.bool (lowLt (p1, p2, p3, p4) (b1, b2, b3, b4))) ∧ Below w.heap.size w w') := Lib.hid (fun h w => specLess p1 p2 b1 b2 w (ok_low HPo.out) (ok_low (HOb.out h)))
      have HNx : Hid (limF (n, d) (l.take (k + 1)) = limS (n, d) ((b1, b2, b3, b4), f) (p1, p2, p3, p4)) := Lib.hid (by rw [limF_next hq, HF.out])
      obtain ⟨c, hc⟩ : ∃ c, clsX (n, d) (p1, p2, p3, p4) = c := ⟨_, rfl⟩
      obtain ⟨lt, hlt2⟩ : ∃ lt, lowLt (p1, p2, p3, p4) (b1, b2, b3, b4) = lt := ⟨_, rfl⟩
      have HN2 : Hid (limF (n, d) (l.take (k + 1)) = if c then (if !f || lt then ((p1, p2, p3, p4), true) else ((b1, b2, b3, b4), f)) else ((b1, b2, b3, b4), f)) := Lib.hid (by rw [HNx.out]; unfold limS; rw [hc]; dsimp only; rw [hlt2])
      rw [hlt2] at HLs
      obtain ⟨t, ht⟩ : ∃ t, arcB n d p1 p2 p3 p4 = t := ⟨_, rfl⟩
      obtain ⟨t1, ht1⟩ : ∃ t, eqA n d p1 p2 = t := ⟨_, rfl⟩
      obtain ⟨t2, ht2⟩ : ∃ t, eqA n d p3 p4 = t := ⟨_, rfl⟩
      have Q1 := fun W => neqlL n d p1 p2 W
      have Q2 := fun W => neqlL n d p3 p4 W
      rw [ht] at HI
      rw [ht1] at Q1
      rw [ht2] at Q2
      have HC : Hid (c = (t || (t1 || t2))) := Lib.hid (by rw [← hc, ← ht, ← ht1, ← ht2]; unfold clsX insX inP; rw [eqA_swap p1, eqA_swap p3])
      have zb : w.heap.size < wr.heap.size := HS.out.zx
      have k0 := HS.out.k0
      have k1 := HS.out.k1
      clear hq hne hcells hkl hc hlt2 HNx HF ht ht1 ht2
      go_upto_region 6 with fail
      go_cut [8, 36] (fun s8 s36 wy => ∃ G, s8 = .pointer (some ⟨G, 0, none⟩) ∧ s36 = .bool (!c) ∧ Hid (LimT w F n d (b1, b2, b3, b4) G (p1, p2, p3, p4) wy) ∧ Hid (LRow F (some ⟨g0, off, none⟩) l wy))
      case first =>
        go_wp2_with fail
        refine (HI.out _).mono ?_
        rintro e w5 ⟨rfl, hb5⟩
        have HT : Hid (LimT w F n d (b1, b2, b3, b4) wr.heap.size (p1, p2, p3, p4) w5) := Lib.hid (LimT.on ⟨HS.out.on (belowAlloc (Below.refl _ _) _), by have := HS.out.b.z; omega, boxNew wr p1 p2 p3 p4 _⟩ hb5)
        have HR5 : Hid (LRow F (some ⟨g0, off, none⟩) l w5) := Lib.hid ((HR.out.on (belowAlloc (Below.refl _ _) _)).on hb5)
        obtain ⟨⟨_, _, m0, m1, _, _⟩, _, ⟨_, v0, v1, v2, v3, _, _, _, _⟩⟩ := id HT.out
        dsimp only at v0 v1 v2 v3
        clear hb5 HS HR k0 k1 y0 y1 y2 y3
        generalize wr.heap.size = G at *
        cases t <;> cases t1 <;> cases t2
        all_goals
          go_wp2_with fail
          go_meet
          case rel => exact ⟨_, rfl, congrArg Value.bool (by rw [HC.out]; rfl), HT, HR5⟩
      case rest =>
        obtain ⟨G, rfl, rfl, HT, HR5⟩ := hcut
        clear HS HR k0 k1 y0 y1 y2 y3 HC Q1 Q2 HI zb
        obtain ⟨⟨_, _, m0, m1, ⟨_, c0, c1, c2, c3, f0, f1, f2, f3⟩, _⟩, _, ⟨_, v0, v1, v2, v3, _, _, _, _⟩⟩ := id HT.out
        dsimp only at v0 v1 v2 v3 c0 c1 c2 c3
        cases c
        · go_wp2
          go_roundg g
          case measure => omega
          case rel => exact ⟨k + 1, (b1, b2, b3, b4), f, by omega, rfl, by go_num, Lib.hid HN2.out, HOb, Lib.hid HT.out.s, HR5⟩
        · cases f
          · have HS6 := Lib.hid (HT.out.s.put p1 p2 p3 p4)
            have HR6 := Lib.hid (HR5.out.put p1 p2 p3 p4)
            have HB6 := Lib.hid HT.out.s.B
            clear HLs HT HR5
            go_wp2
            go_roundg g
            case measure => omega
            case rel => exact ⟨k + 1, (p1, p2, p3, p4), true, by omega, rfl, by go_num, Lib.hid HN2.out, Lib.hid (fun _ => HPo.out), Lib.hid HS6.out, HR6⟩
          · go_wp2_with fail
            refine (HLs.out (by first | trivial | rfl) _).mono ?_
            rintro e w6 ⟨rfl, hb6⟩
            have HT6 := Lib.hid (HT.out.on hb6)
            have HR6 := Lib.hid (HR5.out.on hb6)
            clear hb6 HT HR5 m0 m1 v0 v1 v2 v3 c0 c1 c2 c3 f0 f1 f2 f3 HLs
            obtain ⟨⟨_, _, m0, m1, ⟨_, c0, c1, c2, c3, f0, f1, f2, f3⟩, _⟩, _, ⟨_, v0, v1, v2, v3, _, _, _, _⟩⟩ := id HT6.out
            dsimp only at v0 v1 v2 v3 c0 c1 c2 c3
            cases lt
            · go_wp2
              go_roundg g
              case measure => omega
              case rel => exact ⟨k + 1, (b1, b2, b3, b4), true, by omega, rfl, by go_num, Lib.hid HN2.out, Lib.hid (fun _ => HOb.out (by first | trivial | rfl)), Lib.hid HT6.out.s, HR6⟩
            · have HS7 := Lib.hid (HT6.out.s.put p1 p2 p3 p4)
              have HR7 := Lib.hid (HR6.out.put p1 p2 p3 p4)
              clear HT6 HR6
              go_wp2
              go_roundg g
              case measure => omega
              case rel => exact ⟨k + 1, (p1, p2, p3, p4), true, by omega, rfl, by go_num, Lib.hid HN2.out, Lib.hid (fun _ => HPo.out), Lib.hid HS7.out, HR7⟩
end Go.Proofs.Ytabddjfgbhnldaa

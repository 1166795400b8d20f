/-
  Contracts: PortraitOf, on both sides; written by genJ11.py.
  Contracts: PortraitOf, as the model tells it; written by genJ12.py.
  The walk of the exact law of PortraitOf; written by genJ13.py.
-/
import Derived.Test.YtdmppdfncbljoaaJ10
import Derived.Test.YtdmppdfncbljoaaJB
namespace Go.Proofs.Ytdmppdfncbljoaa
open Go.RowKit

/-- A list of lists of angles in new memory, and a code. -/
def ResSO (w : World) (ls : List (List (Int × Int))) (c : Int) (e : Ending) (w' : World) : Prop :=
  ∃ A cap xs, e = .returned (.tuple #[.slice A ls.length cap, .int .i64 c]) ∧ (SetsAt w' w.heap.size (.slice A ls.length cap) ls xs ∧ ∃ hi, DisX hi xs) ∧ Below w.heap.size w w'
/-- The same, told only to be read. -/
def ResSR (w : World) (ls : List (List (Int × Int))) (c : Int) (e : Ending) (w' : World) : Prop :=
  ∃ A cap, e = .returned (.tuple #[.slice A ls.length cap, .int .i64 c]) ∧ SetsRow w' w'.heap.size A ls ∧ Below w.heap.size w w'
theorem setsNilJ {W : World} {lo : Nat} : SetsAt W lo (.slice none 0 0) [] [] ∧ ∃ hi, DisX hi [] := ⟨SetsAt.nil, 0, by simp [DisX]⟩
theorem SetsAt.row {W : World} {lo : Nat} {A : Option Addr} {n c : Nat} {ls : List (List (Int × Int))} {xs : List Value} (h : SetsAt W lo (.slice A n c) ls xs) (hn : ls.length = n) : SetsRow W W.heap.size A ls := by
  subst hn
  exact RowIn.sets (W := W) (xs := xs) ⟨by have := h.own.1; omega, fun i l hi => by
    obtain ⟨A', c', h1, h2⟩ := h.got i l hi
    exact ⟨A', c', h1, h2.own.row⟩⟩ h.own
theorem pL_some {a1 a2 : Int} {n : Nat} (h : isAng a1 a2 = true) (f : findOrb (a1, a2) 65 0 = some n) : pL a1 a2 = [(pre (a1, a2) : Int), (n : Int) - (pre (a1, a2) : Int)] ∧ oC a1 a2 = 0 := by
  unfold pL oC
  simp [h, f]
theorem pL_none {a1 a2 : Int} (h : isAng a1 a2 = true) (f : findOrb (a1, a2) 65 0 = none) : pL a1 a2 = [] ∧ oC a1 a2 = 3 := by
  unfold pL oC
  simp [h, f]
theorem flat_rowJ {W : World} {lo n c : Nat} {A : Option Addr} {p : Int × Int} (h : W.ownsRow lo 29 2 (.slice A n c) n (flat p n)) : AngRow W W.heap.size A (orbL p n) := by
  intro hne
  have hn : 0 < n := by
    rcases Nat.eq_zero_or_pos n with e | e
    · subst e; exact absurd rfl hne
    · exact e
  obtain ⟨g, c', hv, _⟩ := h.form hn
  injection hv with hA _ _
  subst hA
  refine ⟨g, 0, rfl, (h.lt g rfl).2, fun i x d hi => ?_⟩
  have hin : i < n := by
    rcases Nat.lt_or_ge i n with e | e
    · exact e
    · rw [List.getElem?_eq_none (by rw [orbL_len]; exact e)] at hi; cases hi
  rw [orbL_at hin] at hi
  injection hi with hi
  injection hi with e1 e2
  obtain ⟨f0, f1⟩ := flat_at p hin
  have c0 := h.cells (g := g) rfl _ _ f0
  have c1 := h.cells (g := g) rfl _ _ f1
  rw [e1] at c0
  rw [e2] at c1
  constructor
  · refine Eq.trans ?_ c0
    rw [Nat.zero_add]
    cases hq : i * 2 <;> simp [Addr.add]
  · refine Eq.trans ?_ c1
    rw [Nat.zero_add]
    simp [Addr.add]

theorem SetsAt.lowJ {W : World} {lo lo' : Nat} {v : Value} {ls : List (List (Int × Int))} {xs : List Value} (h : SetsAt W lo v ls xs) (hl : lo' ≤ lo) : SetsAt W lo' v ls xs := by
  refine ⟨⟨h.own.1, ?_⟩, fun i l hi => ?_⟩
  · rcases h.own.2 with h1 | ⟨g, cap, cur, h1, h2, h3⟩
    · exact .inl h1
    · exact .inr ⟨g, cap, cur, h1, Nat.le_trans hl h2, h3⟩
  · obtain ⟨A, c, h1, h2⟩ := h.got i l hi
    refine ⟨A, c, h1, fun hne => ?_⟩
    obtain ⟨b, off, e, g1, g2⟩ := h2 hne
    exact ⟨b, off, e, Nat.le_trans hl g1, g2⟩
set_option maxHeartbeats 1000000 in
theorem spec7Is (A : Option Addr) (n cap : Nat) (ls : List (List (Int × Int))) (w : World) (hr : ArgS w A n cap ls) (C : Int) (h : CoIs ls C) :
    Calls Try.prog 54 #[.slice A n cap] w fun e w' => e = .returned (.bool (decide (C = 0))) ∧ Below w.heap.size w w' := by
  rcases h with ⟨h1, h2⟩ | ⟨rfl, h2, F, h3, h4⟩ | ⟨rfl, h2, h3⟩
  · obtain ⟨HL0, -⟩ := spec_two hr h2
    have HL := Lib.hid HL0
    have hC : (C == 0) = false := beq_eq_false_iff_ne.2 h1
    rw [decide_eq_false h1]
    clear h2 hr
    go_enter Try.func54, Try.ntmps54
    go_wp2_with fail
    refine HL.out.mono ?_
    rintro e w1 ⟨rfl, hb1⟩
    go_wp2
    go_ret
    exact ⟨rfl, hb1⟩
  · obtain ⟨HL0, HF0⟩ := spec_two hr h2
    have HL := Lib.hid HL0
    have HF := Lib.hid (HF0 rfl F h4)
    have hF : (F == 0) = false := beq_eq_false_iff_ne.2 h3
    clear h2 hr h4 HL0 HF0
    go_enter Try.func54, Try.ntmps54
    go_wp2_with fail
    refine HL.out.mono ?_
    rintro e w1 ⟨rfl, hb1⟩
    go_wp2_with fail
    refine (HF.out _ hb1).mono ?_
    rintro e w2 ⟨rfl, hb2⟩
    go_wp2
    go_ret
    exact ⟨rfl, belowNext hb1 hb2⟩
  · obtain ⟨HL0, HF0⟩ := spec_two hr h2
    have HL := Lib.hid HL0
    have HF := Lib.hid (HF0 rfl 0 h3)
    clear h2 hr h3 HL0 HF0
    go_enter Try.func54, Try.ntmps54
    go_wp2_with fail
    refine HL.out.mono ?_
    rintro e w1 ⟨rfl, hb1⟩
    go_wp2_with fail
    refine (HF.out _ hb1).mono ?_
    rintro e w2 ⟨rfl, hb2⟩
    go_wp2
    go_ret
    exact ⟨rfl, belowNext hb1 hb2⟩

set_option maxRecDepth 8000 in
set_option maxHeartbeats 4000000 in
theorem implPo (a1 a2 b1 b2 : Int) (ls : List (List (Int × Int))) (c : Int) (h : PoJ (a1, a2) (b1, b2) ls c) (w : World) : Calls Try.prog 28 #[ang a1 a2, ang b1 b2] w (ResSO w ls c) := by
  cases h with
  | bad h =>
    have HA : Hid (∀ (w : World) b cap, AngRow w w.heap.size (some ⟨b, 0, none⟩) [(a1, a2), (b1, b2)] → Calls Try.prog 55 #[.slice (some ⟨b, 0, none⟩) 2 cap] w fun e w' => e = .returned (.bool false) ∧ Below w.heap.size w w') := Lib.hid (fun w b cap hrow => by
      have := areAng (some ⟨b, 0, none⟩) 2 cap [(a1, a2), (b1, b2)] w hrow rfl (by omega)
      rw [all2] at this
      rw [h] at this
      exact this)
    clear h
    go_enter Try.func28, Try.ntmps28
    go_wp2_with fail
    refine (HA.out _ _ _ (by exact row2 _ _ _ _ _ _ _ (by simp))).mono ?_
    rintro e w1 ⟨rfl, hb1⟩
    have B1 : Below w.heap.size w w1 := by
      (repeat' (first | (with_reducible exact Below.refl _ _) | (with_reducible assumption) | (with_reducible refine belowNext ?_ (by with_reducible assumption)) | (with_reducible refine belowAlloc ?_ _) | (with_reducible refine Below.drew ?_) | (with_reducible refine below_drewN ?_ _) | (with_reducible refine Below.setCell ?_ ?_ _) | go_size | (with_reducible refine sizeOf' ?_) | (with_reducible refine sizeAdd ?_) | (dsimp only; first | (with_reducible refine sizeOf' ?_) | (with_reducible refine sizeAdd ?_))))
    clear hb1
    go_wp2
    go_ret2
    exact ⟨none, 0, [], rfl, setsNilJ, B1⟩
  | long ha hb h =>
    have HA : Hid (∀ (w : World) b cap, AngRow w w.heap.size (some ⟨b, 0, none⟩) [(a1, a2), (b1, b2)] → Calls Try.prog 55 #[.slice (some ⟨b, 0, none⟩) 2 cap] w fun e w' => e = .returned (.bool true) ∧ Below w.heap.size w w') := Lib.hid (fun w b cap hrow => by
      have := areAng (some ⟨b, 0, none⟩) 2 cap [(a1, a2), (b1, b2)] w hrow rfl (by omega)
      rw [all2] at this
      rw [show (isAng a1 a2 && isAng b1 b2) = true by rw [show isAng a1 a2 = true from ha, show isAng b1 b2 = true from hb]; rfl] at this
      exact this)
    have HPa := Lib.hid (fun w => implPeriodsOf a1 a2 w)
    have HPb := Lib.hid (fun w => implPeriodsOf b1 b2 w)
    obtain ⟨La, hLa⟩ : ∃ l, pL a1 a2 = l := ⟨_, rfl⟩
    obtain ⟨Lb, hLb⟩ : ∃ l, pL b1 b2 = l := ⟨_, rfl⟩
    have hcode : (oC a1 a2 = 3 ∧ (oC b1 b2 = 3 ∨ oC b1 b2 = 0)) ∨ (oC a1 a2 = 0 ∧ oC b1 b2 = 3) := by
      have ob : oC b1 b2 = 3 ∨ oC b1 b2 = 0 := by
        cases fb : findOrb (b1, b2) 65 0 with
        | none => exact .inl (pL_none hb fb).2
        | some m => exact .inr (pL_some hb fb).2
      cases fa : findOrb (a1, a2) 65 0 with
      | none => exact .inl ⟨(pL_none ha fa).2, ob⟩
      | some n =>
        rcases h with h | h
        · rw [fa] at h; cases h
        · exact .inr ⟨(pL_some ha fa).2, (pL_none hb h).2⟩
    rw [hLa] at HPa
    rw [hLb] at HPb
    generalize oC a1 a2 = Ca at *
    generalize oC b1 b2 = Cb at *
    clear ha hb h hLa hLb
    rcases hcode with ⟨rfl, rfl | rfl⟩ | ⟨rfl, rfl⟩
    all_goals
      go_enter Try.func28, Try.ntmps28
      go_wp2_with fail
      refine (HA.out _ _ _ (by exact row2 _ _ _ _ _ _ _ (by simp))).mono ?_
      rintro e w1 ⟨rfl, hb1⟩
      have hz0 : w.heap.size + 1 < w1.heap.size := by have := hb1.size; simp at this; omega
      have r0 : w1.cell? ⟨w.heap.size, 0, none⟩ = some (.int .i64 a1) := cellThru hb1 (by simp; omega) (by simp [go_sem])
      have r1 : w1.cell? ⟨w.heap.size, 1, none⟩ = some (.int .i64 a2) := cellThru hb1 (by simp; omega) (by simp [go_sem])
      have s0 : w1.cell? ⟨w.heap.size + 1, 0, none⟩ = some (.int .i64 b1) := cellThru hb1 (by simp) (by simp [go_sem])
      have s1 : w1.cell? ⟨w.heap.size + 1, 1, none⟩ = some (.int .i64 b2) := cellThru hb1 (by simp) (by simp [go_sem])
      have hz1 : w.heap.size < w1.heap.size := by omega
      have B1 : Below w.heap.size w w1 := by
        (repeat' (first | (with_reducible exact Below.refl _ _) | (with_reducible assumption) | (with_reducible refine belowNext ?_ (by with_reducible assumption)) | (with_reducible refine belowAlloc ?_ _) | (with_reducible refine Below.drew ?_) | (with_reducible refine below_drewN ?_ _) | (with_reducible refine Below.setCell ?_ ?_ _) | go_size | (with_reducible refine sizeOf' ?_) | (with_reducible refine sizeAdd ?_) | (dsimp only; first | (with_reducible refine sizeOf' ?_) | (with_reducible refine sizeAdd ?_))))
      clear hb1
      go_wp2_with fail
      refine (HPa.out _).mono ?_
      rintro e w2 ⟨A2, c2, rfl, ho2, hb2⟩
      have B2 := belowNext B1 hb2
      have hz2 : w.heap.size + 1 < w2.heap.size := by have := hb2.size; omega
      have r0 := cellThru hb2 hz1 r0
      have r1 := cellThru hb2 hz1 r1
      have s0 := cellThru hb2 hz0 s0
      have s1 := cellThru hb2 hz0 s1
      have hz3 : w.heap.size < w2.heap.size := by omega
      clear hb2 B1
      go_wp2_with fail
      refine (HPb.out _).mono ?_
      rintro e w3 ⟨A3, c3, rfl, ho3, hb3⟩
      have B3 := belowNext B2 hb3
      have hz4 : w.heap.size + 1 < w3.heap.size := by have := hb3.size; omega
      have hz5 : w.heap.size < w3.heap.size := by omega
      have r0 := cellThru hb3 hz3 r0
      have r1 := cellThru hb3 hz3 r1
      have s0 := cellThru hb3 hz2 s0
      have s1 := cellThru hb3 hz2 s1
      have ho2 := ho2.next hb3
      clear hb3 B2
      go_wp2
      go_ret2
      exact ⟨none, 0, [], rfl, setsNilJ, B3⟩
  | @other n m ha hb fa fb h =>
    have HA : Hid (∀ (w : World) b cap, AngRow w w.heap.size (some ⟨b, 0, none⟩) [(a1, a2), (b1, b2)] → Calls Try.prog 55 #[.slice (some ⟨b, 0, none⟩) 2 cap] w fun e w' => e = .returned (.bool true) ∧ Below w.heap.size w w') := Lib.hid (fun w b cap hrow => by
      have := areAng (some ⟨b, 0, none⟩) 2 cap [(a1, a2), (b1, b2)] w hrow rfl (by omega)
      rw [all2] at this
      rw [show (isAng a1 a2 && isAng b1 b2) = true by rw [show isAng a1 a2 = true from ha, show isAng b1 b2 = true from hb]; rfl] at this
      exact this)
    have HPa := Lib.hid (fun w => implPeriodsOf a1 a2 w)
    have HPb := Lib.hid (fun w => implPeriodsOf b1 b2 w)
    have hpa := pL_some ha fa
    have hpb := pL_some hb fb
    rw [hpa.1, hpa.2] at HPa
    rw [hpb.1, hpb.2] at HPb
    have hq : eqA a1 a2 b1 b2 = true ∨ (eqA a1 a2 b1 b2 = false ∧ pre (a1, a2) ≠ 0) ∨ (eqA a1 a2 b1 b2 = false ∧ pre (a1, a2) = 0 ∧ ¬ ([(pre (a1, a2) : Int), (n : Int) - (pre (a1, a2) : Int)] = [(pre (b1, b2) : Int), (m : Int) - (pre (b1, b2) : Int)])) := by
      cases e : eqA a1 a2 b1 b2
      · have hne : ((a1, a2) : Int × Int) ≠ (b1, b2) := fun g => by rw [(eqA_iffO (a1, a2) (b1, b2)).mpr g] at e; cases e
        by_cases h0 : pre (a1, a2) = 0
        · refine .inr (.inr ⟨rfl, h0, fun g => ?_⟩)
          injection g with g1 g2
          injection g2 with g2 _
          rcases h with h | h | h | h
          · exact hne h
          · exact h h0
          · omega
          · omega
        · exact .inr (.inl ⟨rfl, h0⟩)
      · exact .inl rfl
    have Q : ∀ W, (binOp .eql 29 (ang a1 a2) (ang b1 b2)).run Try.prog W = .ok (.bool (eqA a1 a2 b1 b2)) W := fun W => eqlAng _ _ _ _ W
    have hn65 : n ≤ 65 := by have := find_le _ _ _ fa; omega
    have hpr : pre (a1, a2) ≤ 14 := twos_le 14 a2
    generalize pre (a1, a2) = Pa at *
    generalize pre (b1, b2) = Pb at *
    generalize (n : Int) - (Pa : Int) = Na at *
    generalize (m : Int) - (Pb : Int) = Nb at *
    clear ha hb h hpa hpb fa fb
    go_enter Try.func28, Try.ntmps28
    go_wp2_with fail
    refine (HA.out _ _ _ (by exact row2 _ _ _ _ _ _ _ (by simp))).mono ?_
    rintro e w1 ⟨rfl, hb1⟩
    have hz0 : w.heap.size + 1 < w1.heap.size := by have := hb1.size; simp at this; omega
    have r0 : w1.cell? ⟨w.heap.size, 0, none⟩ = some (.int .i64 a1) := cellThru hb1 (by simp; omega) (by simp [go_sem])
    have r1 : w1.cell? ⟨w.heap.size, 1, none⟩ = some (.int .i64 a2) := cellThru hb1 (by simp; omega) (by simp [go_sem])
    have s0 : w1.cell? ⟨w.heap.size + 1, 0, none⟩ = some (.int .i64 b1) := cellThru hb1 (by simp) (by simp [go_sem])
    have s1 : w1.cell? ⟨w.heap.size + 1, 1, none⟩ = some (.int .i64 b2) := cellThru hb1 (by simp) (by simp [go_sem])
    have hz1 : w.heap.size < w1.heap.size := by omega
    have B1 : Below w.heap.size w w1 := by
      (repeat' (first | (with_reducible exact Below.refl _ _) | (with_reducible assumption) | (with_reducible refine belowNext ?_ (by with_reducible assumption)) | (with_reducible refine belowAlloc ?_ _) | (with_reducible refine Below.drew ?_) | (with_reducible refine below_drewN ?_ _) | (with_reducible refine Below.setCell ?_ ?_ _) | go_size | (with_reducible refine sizeOf' ?_) | (with_reducible refine sizeAdd ?_) | (dsimp only; first | (with_reducible refine sizeOf' ?_) | (with_reducible refine sizeAdd ?_))))
    clear hb1
    go_wp2_with fail
    refine (HPa.out _).mono ?_
    rintro e w2 ⟨A2, c2, rfl, ho2, hb2⟩
    have B2 := belowNext B1 hb2
    have hz2 : w.heap.size + 1 < w2.heap.size := by have := hb2.size; omega
    have r0 := cellThru hb2 hz1 r0
    have r1 := cellThru hb2 hz1 r1
    have s0 := cellThru hb2 hz0 s0
    have s1 := cellThru hb2 hz0 s1
    have hz3 : w.heap.size < w2.heap.size := by omega
    clear hb2 B1
    go_wp2_with fail
    refine (HPb.out _).mono ?_
    rintro e w3 ⟨A3, c3, rfl, ho3, hb3⟩
    have B3 := belowNext B2 hb3
    have hz4 : w.heap.size + 1 < w3.heap.size := by have := hb3.size; omega
    have hz5 : w.heap.size < w3.heap.size := by omega
    have r0 := cellThru hb3 hz3 r0
    have r1 := cellThru hb3 hz3 r1
    have s0 := cellThru hb3 hz2 s0
    have s1 := cellThru hb3 hz2 s1
    have ho2 := ho2.next hb3
    clear hb3 B2
    obtain ⟨g2, o2, rfl, h21, h22, hc2⟩ := ho2 (by simp)
    have p0 := (hc2 0 (Pa : Int) rfl).1
    have p0' : w3.cell? ⟨g2, o2, none⟩ = some (.int .i64 (Pa : Int)) := by rw [Nat.add_zero] at p0; exact p0
    have HEq := Lib.hid (implEqualI (some ⟨g2, o2, none⟩) 2 c2 [(Pa : Int), Na] A3 2 c3 [(Pb : Int), Nb] w3 (IntOwn.row (lo := w1.heap.size) (fun _ => ⟨g2, o2, rfl, h21, h22, hc2⟩)) rfl (by omega) ho3.row rfl)
    clear ho2 ho3 hc2 HPa HPb HA
    rcases hq with e1 | ⟨e1, h0⟩ | ⟨e1, h0, hne⟩
    · rw [e1] at Q
      go_wp2
      go_ret2
      exact ⟨none, 0, [], rfl, setsNilJ, B3⟩
    · rw [e1] at Q
      have d0 : ((Pa : Int) == 0) = false := beq_eq_false_iff_ne.2 (by omega)
      go_wp2
      go_ret2
      exact ⟨none, 0, [], rfl, setsNilJ, B3⟩
    · rw [e1] at Q
      subst h0
      go_wp2_with fail
      refine HEq.out.mono ?_
      rintro e w4 ⟨⟨r, rfl, hr⟩, hb4⟩
      obtain rfl : r = false := by
        cases r
        · rfl
        · exact absurd (hr.out.mp rfl) hne
      have B4 := belowNext B3 hb4
      clear hb4 hr
      go_wp2
      go_ret2
      exact ⟨none, 0, [], rfl, setsNilJ, B4⟩
  | @many n k S H hne hc hs hkn hk =>
    have ha := redAng H.ra
    have hb := redAng H.rb
    obtain ⟨ea, hn0, hn64⟩ := find_back H.fa H.pa
    obtain ⟨eb, _, _⟩ := find_back H.fb H.pb
    have HA : Hid (∀ (w : World) b cap, AngRow w w.heap.size (some ⟨b, 0, none⟩) [(a1, a2), (b1, b2)] → Calls Try.prog 55 #[.slice (some ⟨b, 0, none⟩) 2 cap] w fun e w' => e = .returned (.bool true) ∧ Below w.heap.size w w') := Lib.hid (fun w b cap hrow => by
      have := areAng (some ⟨b, 0, none⟩) 2 cap [(a1, a2), (b1, b2)] w hrow rfl (by omega)
      rw [all2] at this
      rw [show (isAng a1 a2 && isAng b1 b2) = true by rw [show isAng a1 a2 = true from ha, show isAng b1 b2 = true from hb]; rfl] at this
      exact this)
    have HPa := Lib.hid (fun w => implPeriodsOf a1 a2 w)
    have HPb := Lib.hid (fun w => implPeriodsOf b1 b2 w)
    have hpa := pL_some ha H.fa
    have hpb := pL_some hb H.fb
    rw [hpa.1, hpa.2] at HPa
    rw [hpb.1, hpb.2] at HPb
    rw [H.pa] at HPa
    rw [H.pb] at HPb
    have HPa : Hid (∀ w, Calls Try.prog 56 #[ang a1 a2] w (ResInt w [0, (n : Int)] 0)) := Lib.hid (fun w => by have h := HPa.out w; simpa using h)
    have HPb : Hid (∀ w, Calls Try.prog 56 #[ang b1 b2] w (ResInt w [0, (n : Int)] 0)) := Lib.hid (fun w => by have h := HPb.out w; simpa using h)
    have HJn := Lib.hid (fun w => implJoined a1 a2 b1 b2 n w ha hb hn0 (by omega) ea eb)
    have Q : ∀ W, (binOp .eql 29 (ang a1 a2) (ang b1 b2)).run Try.prog W = .ok (.bool false) W := fun W => by
      have hn : eqA a1 a2 b1 b2 = false := by
        cases h : eqA a1 a2 b1 b2
        · rfl
        · exact absurd ((eqA_iffO (a1, a2) (b1, b2)).mp h) hne
      rw [eqlAng, hn]
    have HC := Lib.hid hc
    have HSt := Lib.hid hs
    have hkn64 : k ≤ 64 := by omega
    clear ha hb ea eb hpa hpb hc hs
    go_enter Try.func28, Try.ntmps28
    go_wp2_with fail
    refine (HA.out _ _ _ (by exact row2 _ _ _ _ _ _ _ (by simp))).mono ?_
    rintro e w1 ⟨rfl, hb1⟩
    have hz0 : w.heap.size + 1 < w1.heap.size := by have := hb1.size; simp at this; omega
    have r0 : w1.cell? ⟨w.heap.size, 0, none⟩ = some (.int .i64 a1) := cellThru hb1 (by simp; omega) (by simp [go_sem])
    have r1 : w1.cell? ⟨w.heap.size, 1, none⟩ = some (.int .i64 a2) := cellThru hb1 (by simp; omega) (by simp [go_sem])
    have s0 : w1.cell? ⟨w.heap.size + 1, 0, none⟩ = some (.int .i64 b1) := cellThru hb1 (by simp) (by simp [go_sem])
    have s1 : w1.cell? ⟨w.heap.size + 1, 1, none⟩ = some (.int .i64 b2) := cellThru hb1 (by simp) (by simp [go_sem])
    have hz1 : w.heap.size < w1.heap.size := by omega
    have B1 : Below w.heap.size w w1 := by
      (repeat' (first | (with_reducible exact Below.refl _ _) | (with_reducible assumption) | (with_reducible refine belowNext ?_ (by with_reducible assumption)) | (with_reducible refine belowAlloc ?_ _) | (with_reducible refine Below.drew ?_) | (with_reducible refine below_drewN ?_ _) | (with_reducible refine Below.setCell ?_ ?_ _) | go_size | (with_reducible refine sizeOf' ?_) | (with_reducible refine sizeAdd ?_) | (dsimp only; first | (with_reducible refine sizeOf' ?_) | (with_reducible refine sizeAdd ?_))))
    clear hb1
    go_wp2_with fail
    refine (HPa.out _).mono ?_
    rintro e w2 ⟨A2, c2, rfl, ho2, hb2⟩
    have B2 := belowNext B1 hb2
    have hz2 : w.heap.size + 1 < w2.heap.size := by have := hb2.size; omega
    have r0 := cellThru hb2 hz1 r0
    have r1 := cellThru hb2 hz1 r1
    have s0 := cellThru hb2 hz0 s0
    have s1 := cellThru hb2 hz0 s1
    have hz3 : w.heap.size < w2.heap.size := by omega
    clear hb2 B1
    go_wp2_with fail
    refine (HPb.out _).mono ?_
    rintro e w3 ⟨A3, c3, rfl, ho3, hb3⟩
    have B3 := belowNext B2 hb3
    have hz4 : w.heap.size + 1 < w3.heap.size := by have := hb3.size; omega
    have hz5 : w.heap.size < w3.heap.size := by omega
    have r0 := cellThru hb3 hz3 r0
    have r1 := cellThru hb3 hz3 r1
    have s0 := cellThru hb3 hz2 s0
    have s1 := cellThru hb3 hz2 s1
    have ho2 := ho2.next hb3
    clear hb3 B2
    obtain ⟨g2, o2, rfl, h21, h22, hc2⟩ := ho2 (by simp)
    have p0 := (hc2 0 0 rfl).1
    have p1 := (hc2 1 (n : Int) rfl).1
    have p0' : w3.cell? ⟨g2, o2, none⟩ = some (.int .i64 0) := by rw [Nat.add_zero] at p0; exact p0
    have HEq := Lib.hid (implEqualI (some ⟨g2, o2, none⟩) 2 c2 [0, (n : Int)] A3 2 c3 [0, (n : Int)] w3 (IntOwn.row (lo := w1.heap.size) (fun _ => ⟨g2, o2, rfl, h21, h22, hc2⟩)) rfl (by omega) ho3.row rfl)
    clear ho2 ho3 hc2 HPa HPb HA
    go_wp2_with fail
    refine HEq.out.mono ?_
    rintro e w4 ⟨⟨r, rfl, hr⟩, hb4⟩
    obtain rfl : r = true := hr.out.mpr (by first | rfl | trivial)
    have B4 := belowNext B3 hb4
    have hzz : w3.heap.size ≤ w4.heap.size := hb4.size
    have S1 : (C6 w ⟨w.heap.size, 0, none⟩ ⟨w.heap.size, 1, none⟩ ⟨w.heap.size + 1, 0, none⟩ ⟨w.heap.size + 1, 1, none⟩ ⟨g2, o2 + 1, none⟩ ⟨g2, o2 + 1, none⟩ (.int .i64 a1) (.int .i64 a2) (.int .i64 b1) (.int .i64 b2) (.int .i64 (n : Int)) (.int .i64 (n : Int))) w4 := ⟨B4, by simp; omega, by simp; omega, by simp; omega, by simp; omega, by simp; omega, by simp; omega, cellThru hb4 hz5 r0, cellThru hb4 hz5 r1, cellThru hb4 hz4 s0, cellThru hb4 hz4 s1, cellThru hb4 h22 p1, cellThru hb4 h22 p1⟩
    have r0 := cellThru hb4 hz5 r0
    have r1 := cellThru hb4 hz5 r1
    have s0 := cellThru hb4 hz4 s0
    have s1 := cellThru hb4 hz4 s1
    clear hb4 hr p0 p0' p1 HEq
    go_wp2_with fail
    refine wp_region_held_drew (S := (C6 w ⟨w.heap.size, 0, none⟩ ⟨w.heap.size, 1, none⟩ ⟨w.heap.size + 1, 0, none⟩ ⟨w.heap.size + 1, 1, none⟩ ⟨g2, o2 + 1, none⟩ ⟨g2, o2 + 1, none⟩ (.int .i64 a1) (.int .i64 a2) (.int .i64 b1) (.int .i64 b2) (.int .i64 (n : Int)) (.int .i64 (n : Int)))) (by kernel_rfl) ?_ (fun hHeld => ?_)
    · exact S1.on (Below.refl _ _).drew
    refine wpAnyH_take (i := 0) (v := ?_) rfl (by kernel_rfl) (by kernel_rfl) (by kernel_rfl) (fun _ _ _ h => h) (Or.inl ⟨by kernel_rfl, ?_⟩) hHeld ?_
    rotate_left
    · intro w hSw; obtain ⟨B, z1, z2, z3, z4, z5, z6, x1, x2, x3, x4, x5, x6⟩ := hSw; first | (go_simp; done) | (go_simp; with_reducible rfl)
    refine wpAnyH_take (i := 1) (v := ?_) rfl (by kernel_rfl) (by kernel_rfl) (by kernel_rfl) (fun _ _ _ h => h) (Or.inl ⟨by kernel_rfl, ?_⟩) hHeld ?_
    rotate_left
    · intro w hSw; obtain ⟨B, z1, z2, z3, z4, z5, z6, x1, x2, x3, x4, x5, x6⟩ := hSw; first | (go_simp; done) | (go_simp; with_reducible rfl)
    refine wpAnyH_take (i := 2) (v := ?_) rfl (by kernel_rfl) (by kernel_rfl) (by kernel_rfl) (fun _ _ _ h => h) (Or.inl ⟨by kernel_rfl, ?_⟩) hHeld ?_
    rotate_left
    · intro w hSw; obtain ⟨B, z1, z2, z3, z4, z5, z6, x1, x2, x3, x4, x5, x6⟩ := hSw; first | (go_simp; done) | (go_simp; with_reducible rfl)
    refine wpAnyH_take (i := 3) (v := ?_) rfl (by kernel_rfl) (by kernel_rfl) (by kernel_rfl) (fun _ _ _ h => h) (Or.inl ⟨by kernel_rfl, ?_⟩) hHeld ?_
    rotate_left
    · intro w hSw; obtain ⟨B, z1, z2, z3, z4, z5, z6, x1, x2, x3, x4, x5, x6⟩ := hSw; first | (go_simp; done) | (go_simp; with_reducible rfl)
    refine wpAnyH_take (i := 4) (v := ?_) rfl (by kernel_rfl) (by kernel_rfl) (by kernel_rfl) (fun _ _ _ h => h) (Or.inl ⟨by kernel_rfl, ?_⟩) hHeld ?_
    rotate_left
    · intro w hSw; obtain ⟨B, z1, z2, z3, z4, z5, z6, x1, x2, x3, x4, x5, x6⟩ := hSw; first | (go_simp; done) | (go_simp; with_reducible rfl)
    refine wpAnyH_ready (rs := [5]) (by kernel_rfl) (by simp) ?_
    refine AllReadyH.cons rfl (fun K hK => ?_) AllReadyH.nil
    go_simp
    go_wp2_with fail
    refine (HJn.out _).mono ?_
    rintro e w5 ⟨S', k', A5, c5, xs, hc', hs', hk', rfl, hat5, hdis, hb5⟩
    have S5 := hHeld.on hb5
    refine hK.out _ _ ?_ (fun hHeld => ?_)
    · exact S5
    clear hK K
    refine wpAnyH_take (i := 6) (v := ?_) rfl (by kernel_rfl) (by kernel_rfl) (by kernel_rfl) (fun _ _ _ h => h) (Or.inl ⟨by kernel_rfl, ?_⟩) hHeld ?_
    rotate_left
    · intro w hSw; obtain ⟨B, z1, z2, z3, z4, z5, z6, x1, x2, x3, x4, x5, x6⟩ := hSw; first | (go_simp; done) | (go_simp; with_reducible rfl)
    refine wpAnyH_done (by kernel_rfl) ?_ _
    obtain rfl : S' = S := (cls_lf hc').uniq HC.out
    obtain rfl : k' = k := stop_one hs' HSt.out
    have B5 : Below w.heap.size w w5 := S5.B
    have hlo : w.heap.size ≤ w4.heap.size := B4.size
    clear hc' hs' hk' S5 S1 hHeld hb5 r0 r1 s0 s1
    have hkk : ((k' : Int) > 12) = True := eq_true (by omega)
    clear hat5 hdis
    go_wp2
    go_ret2
    exact ⟨none, 0, [], rfl, setsNilJ, B5⟩
  | @none n k S C H hne hc hs hkn hk ht hC h0 =>
    have ha := redAng H.ra
    have hb := redAng H.rb
    obtain ⟨ea, hn0, hn64⟩ := find_back H.fa H.pa
    obtain ⟨eb, _, _⟩ := find_back H.fb H.pb
    have HA : Hid (∀ (w : World) b cap, AngRow w w.heap.size (some ⟨b, 0, none⟩) [(a1, a2), (b1, b2)] → Calls Try.prog 55 #[.slice (some ⟨b, 0, none⟩) 2 cap] w fun e w' => e = .returned (.bool true) ∧ Below w.heap.size w w') := Lib.hid (fun w b cap hrow => by
      have := areAng (some ⟨b, 0, none⟩) 2 cap [(a1, a2), (b1, b2)] w hrow rfl (by omega)
      rw [all2] at this
      rw [show (isAng a1 a2 && isAng b1 b2) = true by rw [show isAng a1 a2 = true from ha, show isAng b1 b2 = true from hb]; rfl] at this
      exact this)
    have HPa := Lib.hid (fun w => implPeriodsOf a1 a2 w)
    have HPb := Lib.hid (fun w => implPeriodsOf b1 b2 w)
    have hpa := pL_some ha H.fa
    have hpb := pL_some hb H.fb
    rw [hpa.1, hpa.2] at HPa
    rw [hpb.1, hpb.2] at HPb
    rw [H.pa] at HPa
    rw [H.pb] at HPb
    have HPa : Hid (∀ w, Calls Try.prog 56 #[ang a1 a2] w (ResInt w [0, (n : Int)] 0)) := Lib.hid (fun w => by have h := HPa.out w; simpa using h)
    have HPb : Hid (∀ w, Calls Try.prog 56 #[ang b1 b2] w (ResInt w [0, (n : Int)] 0)) := Lib.hid (fun w => by have h := HPb.out w; simpa using h)
    have HJn := Lib.hid (fun w => implJoined a1 a2 b1 b2 n w ha hb hn0 (by omega) ea eb)
    have Q : ∀ W, (binOp .eql 29 (ang a1 a2) (ang b1 b2)).run Try.prog W = .ok (.bool false) W := fun W => by
      have hn : eqA a1 a2 b1 b2 = false := by
        cases h : eqA a1 a2 b1 b2
        · rfl
        · exact absurd ((eqA_iffO (a1, a2) (b1, b2)).mp h) hne
      rw [eqlAng, hn]
    have HC := Lib.hid hc
    have HSt := Lib.hid hs
    have hkn64 : k ≤ 64 := by omega
    clear ha hb ea eb hpa hpb hc hs
    go_enter Try.func28, Try.ntmps28
    go_wp2_with fail
    refine (HA.out _ _ _ (by exact row2 _ _ _ _ _ _ _ (by simp))).mono ?_
    rintro e w1 ⟨rfl, hb1⟩
    have hz0 : w.heap.size + 1 < w1.heap.size := by have := hb1.size; simp at this; omega
    have r0 : w1.cell? ⟨w.heap.size, 0, none⟩ = some (.int .i64 a1) := cellThru hb1 (by simp; omega) (by simp [go_sem])
    have r1 : w1.cell? ⟨w.heap.size, 1, none⟩ = some (.int .i64 a2) := cellThru hb1 (by simp; omega) (by simp [go_sem])
    have s0 : w1.cell? ⟨w.heap.size + 1, 0, none⟩ = some (.int .i64 b1) := cellThru hb1 (by simp) (by simp [go_sem])
    have s1 : w1.cell? ⟨w.heap.size + 1, 1, none⟩ = some (.int .i64 b2) := cellThru hb1 (by simp) (by simp [go_sem])
    have hz1 : w.heap.size < w1.heap.size := by omega
    have B1 : Below w.heap.size w w1 := by
      (repeat' (first | (with_reducible exact Below.refl _ _) | (with_reducible assumption) | (with_reducible refine belowNext ?_ (by with_reducible assumption)) | (with_reducible refine belowAlloc ?_ _) | (with_reducible refine Below.drew ?_) | (with_reducible refine below_drewN ?_ _) | (with_reducible refine Below.setCell ?_ ?_ _) | go_size | (with_reducible refine sizeOf' ?_) | (with_reducible refine sizeAdd ?_) | (dsimp only; first | (with_reducible refine sizeOf' ?_) | (with_reducible refine sizeAdd ?_))))
    clear hb1
    go_wp2_with fail
    refine (HPa.out _).mono ?_
    rintro e w2 ⟨A2, c2, rfl, ho2, hb2⟩
    have B2 := belowNext B1 hb2
    have hz2 : w.heap.size + 1 < w2.heap.size := by have := hb2.size; omega
    have r0 := cellThru hb2 hz1 r0
    have r1 := cellThru hb2 hz1 r1
    have s0 := cellThru hb2 hz0 s0
    have s1 := cellThru hb2 hz0 s1
    have hz3 : w.heap.size < w2.heap.size := by omega
    clear hb2 B1
    go_wp2_with fail
    refine (HPb.out _).mono ?_
    rintro e w3 ⟨A3, c3, rfl, ho3, hb3⟩
    have B3 := belowNext B2 hb3
    have hz4 : w.heap.size + 1 < w3.heap.size := by have := hb3.size; omega
    have hz5 : w.heap.size < w3.heap.size := by omega
    have r0 := cellThru hb3 hz3 r0
    have r1 := cellThru hb3 hz3 r1
    have s0 := cellThru hb3 hz2 s0
    have s1 := cellThru hb3 hz2 s1
    have ho2 := ho2.next hb3
    clear hb3 B2
    obtain ⟨g2, o2, rfl, h21, h22, hc2⟩ := ho2 (by simp)
    have p0 := (hc2 0 0 rfl).1
    have p1 := (hc2 1 (n : Int) rfl).1
    have p0' : w3.cell? ⟨g2, o2, none⟩ = some (.int .i64 0) := by rw [Nat.add_zero] at p0; exact p0
    have HEq := Lib.hid (implEqualI (some ⟨g2, o2, none⟩) 2 c2 [0, (n : Int)] A3 2 c3 [0, (n : Int)] w3 (IntOwn.row (lo := w1.heap.size) (fun _ => ⟨g2, o2, rfl, h21, h22, hc2⟩)) rfl (by omega) ho3.row rfl)
    clear ho2 ho3 hc2 HPa HPb HA
    go_wp2_with fail
    refine HEq.out.mono ?_
    rintro e w4 ⟨⟨r, rfl, hr⟩, hb4⟩
    obtain rfl : r = true := hr.out.mpr (by first | rfl | trivial)
    have B4 := belowNext B3 hb4
    have hzz : w3.heap.size ≤ w4.heap.size := hb4.size
    have S1 : (C6 w ⟨w.heap.size, 0, none⟩ ⟨w.heap.size, 1, none⟩ ⟨w.heap.size + 1, 0, none⟩ ⟨w.heap.size + 1, 1, none⟩ ⟨g2, o2 + 1, none⟩ ⟨g2, o2 + 1, none⟩ (.int .i64 a1) (.int .i64 a2) (.int .i64 b1) (.int .i64 b2) (.int .i64 (n : Int)) (.int .i64 (n : Int))) w4 := ⟨B4, by simp; omega, by simp; omega, by simp; omega, by simp; omega, by simp; omega, by simp; omega, cellThru hb4 hz5 r0, cellThru hb4 hz5 r1, cellThru hb4 hz4 s0, cellThru hb4 hz4 s1, cellThru hb4 h22 p1, cellThru hb4 h22 p1⟩
    have r0 := cellThru hb4 hz5 r0
    have r1 := cellThru hb4 hz5 r1
    have s0 := cellThru hb4 hz4 s0
    have s1 := cellThru hb4 hz4 s1
    clear hb4 hr p0 p0' p1 HEq
    go_wp2_with fail
    refine wp_region_held_drew (S := (C6 w ⟨w.heap.size, 0, none⟩ ⟨w.heap.size, 1, none⟩ ⟨w.heap.size + 1, 0, none⟩ ⟨w.heap.size + 1, 1, none⟩ ⟨g2, o2 + 1, none⟩ ⟨g2, o2 + 1, none⟩ (.int .i64 a1) (.int .i64 a2) (.int .i64 b1) (.int .i64 b2) (.int .i64 (n : Int)) (.int .i64 (n : Int)))) (by kernel_rfl) ?_ (fun hHeld => ?_)
    · exact S1.on (Below.refl _ _).drew
    refine wpAnyH_take (i := 0) (v := ?_) rfl (by kernel_rfl) (by kernel_rfl) (by kernel_rfl) (fun _ _ _ h => h) (Or.inl ⟨by kernel_rfl, ?_⟩) hHeld ?_
    rotate_left
    · intro w hSw; obtain ⟨B, z1, z2, z3, z4, z5, z6, x1, x2, x3, x4, x5, x6⟩ := hSw; first | (go_simp; done) | (go_simp; with_reducible rfl)
    refine wpAnyH_take (i := 1) (v := ?_) rfl (by kernel_rfl) (by kernel_rfl) (by kernel_rfl) (fun _ _ _ h => h) (Or.inl ⟨by kernel_rfl, ?_⟩) hHeld ?_
    rotate_left
    · intro w hSw; obtain ⟨B, z1, z2, z3, z4, z5, z6, x1, x2, x3, x4, x5, x6⟩ := hSw; first | (go_simp; done) | (go_simp; with_reducible rfl)
    refine wpAnyH_take (i := 2) (v := ?_) rfl (by kernel_rfl) (by kernel_rfl) (by kernel_rfl) (fun _ _ _ h => h) (Or.inl ⟨by kernel_rfl, ?_⟩) hHeld ?_
    rotate_left
    · intro w hSw; obtain ⟨B, z1, z2, z3, z4, z5, z6, x1, x2, x3, x4, x5, x6⟩ := hSw; first | (go_simp; done) | (go_simp; with_reducible rfl)
    refine wpAnyH_take (i := 3) (v := ?_) rfl (by kernel_rfl) (by kernel_rfl) (by kernel_rfl) (fun _ _ _ h => h) (Or.inl ⟨by kernel_rfl, ?_⟩) hHeld ?_
    rotate_left
    · intro w hSw; obtain ⟨B, z1, z2, z3, z4, z5, z6, x1, x2, x3, x4, x5, x6⟩ := hSw; first | (go_simp; done) | (go_simp; with_reducible rfl)
    refine wpAnyH_take (i := 4) (v := ?_) rfl (by kernel_rfl) (by kernel_rfl) (by kernel_rfl) (fun _ _ _ h => h) (Or.inl ⟨by kernel_rfl, ?_⟩) hHeld ?_
    rotate_left
    · intro w hSw; obtain ⟨B, z1, z2, z3, z4, z5, z6, x1, x2, x3, x4, x5, x6⟩ := hSw; first | (go_simp; done) | (go_simp; with_reducible rfl)
    refine wpAnyH_ready (rs := [5]) (by kernel_rfl) (by simp) ?_
    refine AllReadyH.cons rfl (fun K hK => ?_) AllReadyH.nil
    go_simp
    go_wp2_with fail
    refine (HJn.out _).mono ?_
    rintro e w5 ⟨S', k', A5, c5, xs, hc', hs', hk', rfl, hat5, hdis, hb5⟩
    have S5 := hHeld.on hb5
    refine hK.out _ _ ?_ (fun hHeld => ?_)
    · exact S5
    clear hK K
    refine wpAnyH_take (i := 6) (v := ?_) rfl (by kernel_rfl) (by kernel_rfl) (by kernel_rfl) (fun _ _ _ h => h) (Or.inl ⟨by kernel_rfl, ?_⟩) hHeld ?_
    rotate_left
    · intro w hSw; obtain ⟨B, z1, z2, z3, z4, z5, z6, x1, x2, x3, x4, x5, x6⟩ := hSw; first | (go_simp; done) | (go_simp; with_reducible rfl)
    refine wpAnyH_done (by kernel_rfl) ?_ _
    obtain rfl : S' = S := (cls_lf hc').uniq HC.out
    obtain rfl : k' = k := stop_one hs' HSt.out
    have B5 : Below w.heap.size w w5 := S5.B
    have hlo : w.heap.size ≤ w4.heap.size := B4.size
    clear hc' hs' hk' S5 S1 hHeld hb5 r0 r1 s0 s1
    have hat : SetsAt w5 w4.heap.size (.slice A5 k' c5) (lsJ S' k') xs := hat5
    have HIs := Lib.hid (implIsP A5 k' c5 (lsJ S' k') w5 ⟨hat.row (lsJ_len _ _), lsJ_len _ _, by omega, cap_leJ hat.own (lsJ_len _ _), by omega⟩ C hC false (by rw [decide_eq_false h0]))
    clear hat hat5 hdis
    go_wp2_with fail
    refine HIs.out.mono ?_
    rintro e w6 ⟨rfl, hb6⟩
    have B6 := belowNext B5 hb6
    clear hb6
    go_wp2
    go_ret2
    exact ⟨none, 0, [], rfl, setsNilJ, B6⟩
  | @sets n k S H hne hc hs hkn hk ht hC =>
    have ha := redAng H.ra
    have hb := redAng H.rb
    obtain ⟨ea, hn0, hn64⟩ := find_back H.fa H.pa
    obtain ⟨eb, _, _⟩ := find_back H.fb H.pb
    have HA : Hid (∀ (w : World) b cap, AngRow w w.heap.size (some ⟨b, 0, none⟩) [(a1, a2), (b1, b2)] → Calls Try.prog 55 #[.slice (some ⟨b, 0, none⟩) 2 cap] w fun e w' => e = .returned (.bool true) ∧ Below w.heap.size w w') := Lib.hid (fun w b cap hrow => by
      have := areAng (some ⟨b, 0, none⟩) 2 cap [(a1, a2), (b1, b2)] w hrow rfl (by omega)
      rw [all2] at this
      rw [show (isAng a1 a2 && isAng b1 b2) = true by rw [show isAng a1 a2 = true from ha, show isAng b1 b2 = true from hb]; rfl] at this
      exact this)
    have HPa := Lib.hid (fun w => implPeriodsOf a1 a2 w)
    have HPb := Lib.hid (fun w => implPeriodsOf b1 b2 w)
    have hpa := pL_some ha H.fa
    have hpb := pL_some hb H.fb
    rw [hpa.1, hpa.2] at HPa
    rw [hpb.1, hpb.2] at HPb
    rw [H.pa] at HPa
    rw [H.pb] at HPb
    have HPa : Hid (∀ w, Calls Try.prog 56 #[ang a1 a2] w (ResInt w [0, (n : Int)] 0)) := Lib.hid (fun w => by have h := HPa.out w; simpa using h)
    have HPb : Hid (∀ w, Calls Try.prog 56 #[ang b1 b2] w (ResInt w [0, (n : Int)] 0)) := Lib.hid (fun w => by have h := HPb.out w; simpa using h)
    have HJn := Lib.hid (fun w => implJoined a1 a2 b1 b2 n w ha hb hn0 (by omega) ea eb)
    have Q : ∀ W, (binOp .eql 29 (ang a1 a2) (ang b1 b2)).run Try.prog W = .ok (.bool false) W := fun W => by
      have hn : eqA a1 a2 b1 b2 = false := by
        cases h : eqA a1 a2 b1 b2
        · rfl
        · exact absurd ((eqA_iffO (a1, a2) (b1, b2)).mp h) hne
      rw [eqlAng, hn]
    have HC := Lib.hid hc
    have HSt := Lib.hid hs
    have hkn64 : k ≤ 64 := by omega
    clear ha hb ea eb hpa hpb hc hs
    go_enter Try.func28, Try.ntmps28
    go_wp2_with fail
    refine (HA.out _ _ _ (by exact row2 _ _ _ _ _ _ _ (by simp))).mono ?_
    rintro e w1 ⟨rfl, hb1⟩
    have hz0 : w.heap.size + 1 < w1.heap.size := by have := hb1.size; simp at this; omega
    have r0 : w1.cell? ⟨w.heap.size, 0, none⟩ = some (.int .i64 a1) := cellThru hb1 (by simp; omega) (by simp [go_sem])
    have r1 : w1.cell? ⟨w.heap.size, 1, none⟩ = some (.int .i64 a2) := cellThru hb1 (by simp; omega) (by simp [go_sem])
    have s0 : w1.cell? ⟨w.heap.size + 1, 0, none⟩ = some (.int .i64 b1) := cellThru hb1 (by simp) (by simp [go_sem])
    have s1 : w1.cell? ⟨w.heap.size + 1, 1, none⟩ = some (.int .i64 b2) := cellThru hb1 (by simp) (by simp [go_sem])
    have hz1 : w.heap.size < w1.heap.size := by omega
    have B1 : Below w.heap.size w w1 := by
      (repeat' (first | (with_reducible exact Below.refl _ _) | (with_reducible assumption) | (with_reducible refine belowNext ?_ (by with_reducible assumption)) | (with_reducible refine belowAlloc ?_ _) | (with_reducible refine Below.drew ?_) | (with_reducible refine below_drewN ?_ _) | (with_reducible refine Below.setCell ?_ ?_ _) | go_size | (with_reducible refine sizeOf' ?_) | (with_reducible refine sizeAdd ?_) | (dsimp only; first | (with_reducible refine sizeOf' ?_) | (with_reducible refine sizeAdd ?_))))
    clear hb1
    go_wp2_with fail
    refine (HPa.out _).mono ?_
    rintro e w2 ⟨A2, c2, rfl, ho2, hb2⟩
    have B2 := belowNext B1 hb2
    have hz2 : w.heap.size + 1 < w2.heap.size := by have := hb2.size; omega
    have r0 := cellThru hb2 hz1 r0
    have r1 := cellThru hb2 hz1 r1
    have s0 := cellThru hb2 hz0 s0
    have s1 := cellThru hb2 hz0 s1
    have hz3 : w.heap.size < w2.heap.size := by omega
    clear hb2 B1
    go_wp2_with fail
    refine (HPb.out _).mono ?_
    rintro e w3 ⟨A3, c3, rfl, ho3, hb3⟩
    have B3 := belowNext B2 hb3
    have hz4 : w.heap.size + 1 < w3.heap.size := by have := hb3.size; omega
    have hz5 : w.heap.size < w3.heap.size := by omega
    have r0 := cellThru hb3 hz3 r0
    have r1 := cellThru hb3 hz3 r1
    have s0 := cellThru hb3 hz2 s0
    have s1 := cellThru hb3 hz2 s1
    have ho2 := ho2.next hb3
    clear hb3 B2
    obtain ⟨g2, o2, rfl, h21, h22, hc2⟩ := ho2 (by simp)
    have p0 := (hc2 0 0 rfl).1
    have p1 := (hc2 1 (n : Int) rfl).1
    have p0' : w3.cell? ⟨g2, o2, none⟩ = some (.int .i64 0) := by rw [Nat.add_zero] at p0; exact p0
    have HEq := Lib.hid (implEqualI (some ⟨g2, o2, none⟩) 2 c2 [0, (n : Int)] A3 2 c3 [0, (n : Int)] w3 (IntOwn.row (lo := w1.heap.size) (fun _ => ⟨g2, o2, rfl, h21, h22, hc2⟩)) rfl (by omega) ho3.row rfl)
    clear ho2 ho3 hc2 HPa HPb HA
    go_wp2_with fail
    refine HEq.out.mono ?_
    rintro e w4 ⟨⟨r, rfl, hr⟩, hb4⟩
    obtain rfl : r = true := hr.out.mpr (by first | rfl | trivial)
    have B4 := belowNext B3 hb4
    have hzz : w3.heap.size ≤ w4.heap.size := hb4.size
    have S1 : (C6 w ⟨w.heap.size, 0, none⟩ ⟨w.heap.size, 1, none⟩ ⟨w.heap.size + 1, 0, none⟩ ⟨w.heap.size + 1, 1, none⟩ ⟨g2, o2 + 1, none⟩ ⟨g2, o2 + 1, none⟩ (.int .i64 a1) (.int .i64 a2) (.int .i64 b1) (.int .i64 b2) (.int .i64 (n : Int)) (.int .i64 (n : Int))) w4 := ⟨B4, by simp; omega, by simp; omega, by simp; omega, by simp; omega, by simp; omega, by simp; omega, cellThru hb4 hz5 r0, cellThru hb4 hz5 r1, cellThru hb4 hz4 s0, cellThru hb4 hz4 s1, cellThru hb4 h22 p1, cellThru hb4 h22 p1⟩
    have r0 := cellThru hb4 hz5 r0
    have r1 := cellThru hb4 hz5 r1
    have s0 := cellThru hb4 hz4 s0
    have s1 := cellThru hb4 hz4 s1
    clear hb4 hr p0 p0' p1 HEq
    go_wp2_with fail
    refine wp_region_held_drew (S := (C6 w ⟨w.heap.size, 0, none⟩ ⟨w.heap.size, 1, none⟩ ⟨w.heap.size + 1, 0, none⟩ ⟨w.heap.size + 1, 1, none⟩ ⟨g2, o2 + 1, none⟩ ⟨g2, o2 + 1, none⟩ (.int .i64 a1) (.int .i64 a2) (.int .i64 b1) (.int .i64 b2) (.int .i64 (n : Int)) (.int .i64 (n : Int)))) (by kernel_rfl) ?_ (fun hHeld => ?_)
    · exact S1.on (Below.refl _ _).drew
    refine wpAnyH_take (i := 0) (v := ?_) rfl (by kernel_rfl) (by kernel_rfl) (by kernel_rfl) (fun _ _ _ h => h) (Or.inl ⟨by kernel_rfl, ?_⟩) hHeld ?_
    rotate_left
    · intro w hSw; obtain ⟨B, z1, z2, z3, z4, z5, z6, x1, x2, x3, x4, x5, x6⟩ := hSw; first | (go_simp; done) | (go_simp; with_reducible rfl)
    refine wpAnyH_take (i := 1) (v := ?_) rfl (by kernel_rfl) (by kernel_rfl) (by kernel_rfl) (fun _ _ _ h => h) (Or.inl ⟨by kernel_rfl, ?_⟩) hHeld ?_
    rotate_left
    · intro w hSw; obtain ⟨B, z1, z2, z3, z4, z5, z6, x1, x2, x3, x4, x5, x6⟩ := hSw; first | (go_simp; done) | (go_simp; with_reducible rfl)
    refine wpAnyH_take (i := 2) (v := ?_) rfl (by kernel_rfl) (by kernel_rfl) (by kernel_rfl) (fun _ _ _ h => h) (Or.inl ⟨by kernel_rfl, ?_⟩) hHeld ?_
    rotate_left
    · intro w hSw; obtain ⟨B, z1, z2, z3, z4, z5, z6, x1, x2, x3, x4, x5, x6⟩ := hSw; first | (go_simp; done) | (go_simp; with_reducible rfl)
    refine wpAnyH_take (i := 3) (v := ?_) rfl (by kernel_rfl) (by kernel_rfl) (by kernel_rfl) (fun _ _ _ h => h) (Or.inl ⟨by kernel_rfl, ?_⟩) hHeld ?_
    rotate_left
    · intro w hSw; obtain ⟨B, z1, z2, z3, z4, z5, z6, x1, x2, x3, x4, x5, x6⟩ := hSw; first | (go_simp; done) | (go_simp; with_reducible rfl)
    refine wpAnyH_take (i := 4) (v := ?_) rfl (by kernel_rfl) (by kernel_rfl) (by kernel_rfl) (fun _ _ _ h => h) (Or.inl ⟨by kernel_rfl, ?_⟩) hHeld ?_
    rotate_left
    · intro w hSw; obtain ⟨B, z1, z2, z3, z4, z5, z6, x1, x2, x3, x4, x5, x6⟩ := hSw; first | (go_simp; done) | (go_simp; with_reducible rfl)
    refine wpAnyH_ready (rs := [5]) (by kernel_rfl) (by simp) ?_
    refine AllReadyH.cons rfl (fun K hK => ?_) AllReadyH.nil
    go_simp
    go_wp2_with fail
    refine (HJn.out _).mono ?_
    rintro e w5 ⟨S', k', A5, c5, xs, hc', hs', hk', rfl, hat5, hdis, hb5⟩
    have S5 := hHeld.on hb5
    refine hK.out _ _ ?_ (fun hHeld => ?_)
    · exact S5
    clear hK K
    refine wpAnyH_take (i := 6) (v := ?_) rfl (by kernel_rfl) (by kernel_rfl) (by kernel_rfl) (fun _ _ _ h => h) (Or.inl ⟨by kernel_rfl, ?_⟩) hHeld ?_
    rotate_left
    · intro w hSw; obtain ⟨B, z1, z2, z3, z4, z5, z6, x1, x2, x3, x4, x5, x6⟩ := hSw; first | (go_simp; done) | (go_simp; with_reducible rfl)
    refine wpAnyH_done (by kernel_rfl) ?_ _
    obtain rfl : S' = S := (cls_lf hc').uniq HC.out
    obtain rfl : k' = k := stop_one hs' HSt.out
    have B5 : Below w.heap.size w w5 := S5.B
    have hlo : w.heap.size ≤ w4.heap.size := B4.size
    clear hc' hs' hk' S5 S1 hHeld hb5 r0 r1 s0 s1
    have hat : SetsAt w5 w4.heap.size (.slice A5 k' c5) (lsJ S' k') xs := hat5
    have HIs := Lib.hid (implIsP A5 k' c5 (lsJ S' k') w5 ⟨hat.row (lsJ_len _ _), lsJ_len _ _, by omega, cap_leJ hat.own (lsJ_len _ _), by omega⟩ 0 hC true rfl)
    have HAt := Lib.hid hat
    have HDi := Lib.hid hdis
    clear hat hat5 hdis
    go_wp2_with fail
    refine HIs.out.mono ?_
    rintro e w6 ⟨rfl, hb6⟩
    have B6 := belowNext B5 hb6
    have HA6 := Lib.hid ((HAt.out.next hb6).lowJ hlo)
    clear hb6
    go_wp2
    go_ret2
    refine ⟨A5, c5, xs, by rw [lsJ_len]; rfl, ⟨by rw [lsJ_len]; exact HA6.out, HDi.out⟩, B6⟩

theorem setsRowNilJ {W : World} {B : Nat} {A : Option Addr} : SetsRow W B A [] := fun h => absurd rfl h

set_option maxRecDepth 8000 in
set_option maxHeartbeats 4000000 in
theorem specPo (a1 a2 b1 b2 : Int) (ls : List (List (Int × Int))) (c : Int) (h : PoJ (a1, a2) (b1, b2) ls c) (w : World) : Calls Try.prog 26 #[ang a1 a2, ang b1 b2] w (ResSR w ls c) := by
  cases h with
  | bad h =>
    have HIa := Lib.hid (fun w => specIs1 a1 a2 w)
    have HIb := Lib.hid (fun w => specIs1 b1 b2 w)
    cases ha : isAng a1 a2
    · rw [ha] at HIa
      clear h ha HIb
      go_enter Try.func26, Try.ntmps26
      go_wp2_with fail
      refine (HIa.out _).mono ?_
      rintro e w1 ⟨rfl, hb1⟩
      have hz0 : w.heap.size + 1 < w1.heap.size := by have := hb1.size; simp at this; omega
      have r0 : w1.cell? ⟨w.heap.size, 0, none⟩ = some (.int .i64 a1) := cellThru hb1 (by simp; omega) (by simp [go_sem])
      have r1 : w1.cell? ⟨w.heap.size, 1, none⟩ = some (.int .i64 a2) := cellThru hb1 (by simp; omega) (by simp [go_sem])
      have s0 : w1.cell? ⟨w.heap.size + 1, 0, none⟩ = some (.int .i64 b1) := cellThru hb1 (by simp) (by simp [go_sem])
      have s1 : w1.cell? ⟨w.heap.size + 1, 1, none⟩ = some (.int .i64 b2) := cellThru hb1 (by simp) (by simp [go_sem])
      have hz1 : w.heap.size < w1.heap.size := by omega
      have B1 : Below w.heap.size w w1 := by
        (repeat' (first | (with_reducible exact Below.refl _ _) | (with_reducible assumption) | (with_reducible refine belowNext ?_ (by with_reducible assumption)) | (with_reducible refine belowAlloc ?_ _) | (with_reducible refine Below.drew ?_) | (with_reducible refine below_drewN ?_ _) | (with_reducible refine Below.setCell ?_ ?_ _) | go_size | (with_reducible refine sizeOf' ?_) | (with_reducible refine sizeAdd ?_) | (dsimp only; first | (with_reducible refine sizeOf' ?_) | (with_reducible refine sizeAdd ?_))))
      clear hb1
      go_wp2
      go_ret2
      exact ⟨none, 0, rfl, setsRowNilJ, B1⟩
    · have hb : isAng b1 b2 = false := by
        have h : (isAng a1 a2 && isAng b1 b2) = false := h
        rw [ha] at h
        simpa using h
      rw [ha] at HIa
      rw [hb] at HIb
      clear h ha hb
      go_enter Try.func26, Try.ntmps26
      go_wp2_with fail
      refine (HIa.out _).mono ?_
      rintro e w1 ⟨rfl, hb1⟩
      have hz0 : w.heap.size + 1 < w1.heap.size := by have := hb1.size; simp at this; omega
      have r0 : w1.cell? ⟨w.heap.size, 0, none⟩ = some (.int .i64 a1) := cellThru hb1 (by simp; omega) (by simp [go_sem])
      have r1 : w1.cell? ⟨w.heap.size, 1, none⟩ = some (.int .i64 a2) := cellThru hb1 (by simp; omega) (by simp [go_sem])
      have s0 : w1.cell? ⟨w.heap.size + 1, 0, none⟩ = some (.int .i64 b1) := cellThru hb1 (by simp) (by simp [go_sem])
      have s1 : w1.cell? ⟨w.heap.size + 1, 1, none⟩ = some (.int .i64 b2) := cellThru hb1 (by simp) (by simp [go_sem])
      have hz1 : w.heap.size < w1.heap.size := by omega
      have B1 : Below w.heap.size w w1 := by
        (repeat' (first | (with_reducible exact Below.refl _ _) | (with_reducible assumption) | (with_reducible refine belowNext ?_ (by with_reducible assumption)) | (with_reducible refine belowAlloc ?_ _) | (with_reducible refine Below.drew ?_) | (with_reducible refine below_drewN ?_ _) | (with_reducible refine Below.setCell ?_ ?_ _) | go_size | (with_reducible refine sizeOf' ?_) | (with_reducible refine sizeAdd ?_) | (dsimp only; first | (with_reducible refine sizeOf' ?_) | (with_reducible refine sizeAdd ?_))))
      clear hb1
      go_wp2_with fail
      refine (HIb.out _).mono ?_
      rintro e w2 ⟨rfl, hb2⟩
      have B2 := belowNext B1 hb2
      have r0 := cellThru hb2 hz1 r0
      have r1 := cellThru hb2 hz1 r1
      have s0 := cellThru hb2 hz0 s0
      have s1 := cellThru hb2 hz0 s1
      have hz0 : w.heap.size + 1 < w2.heap.size := Nat.lt_of_lt_of_le hz0 hb2.size
      have hz1 : w.heap.size < w2.heap.size := by omega
      clear hb2 B1
      go_wp2
      go_ret2
      exact ⟨none, 0, rfl, setsRowNilJ, B2⟩
  | long ha hb h =>
    have HIa := Lib.hid (fun w => specIs1 a1 a2 w)
    have HIb := Lib.hid (fun w => specIs1 b1 b2 w)
    rw [show isAng a1 a2 = true from ha] at HIa
    rw [show isAng b1 b2 = true from hb] at HIb
    cases fa : findOrb (a1, a2) 65 0 with
    | none =>
      cases fb : findOrb (b1, b2) 65 0 with
      | none =>
        have HOa : Hid (∀ w : World, Calls Try.prog 52 #[ang a1 a2] w fun e w' => e = .returned (.tuple #[.slice none 0 0, .int .i64 0, .bool false]) ∧ Below w.heap.size w w') := Lib.hid (fun w => (specOrbit a1 a2 w (ang_red ha)).mono fun e w' h => by unfold ResOrb at h; rw [show findOrb (a1, a2) 65 0 = none from fa] at h; exact h)
        have HOb : Hid (∀ w : World, Calls Try.prog 52 #[ang b1 b2] w fun e w' => e = .returned (.tuple #[.slice none 0 0, .int .i64 0, .bool false]) ∧ Below w.heap.size w w') := Lib.hid (fun w => (specOrbit b1 b2 w (ang_red hb)).mono fun e w' h => by unfold ResOrb at h; rw [show findOrb (b1, b2) 65 0 = none from fb] at h; exact h)
        clear ha hb h fa fb
        go_enter Try.func26, Try.ntmps26
        go_wp2_with fail
        refine (HIa.out _).mono ?_
        rintro e w1 ⟨rfl, hb1⟩
        have hz0 : w.heap.size + 1 < w1.heap.size := by have := hb1.size; simp at this; omega
        have r0 : w1.cell? ⟨w.heap.size, 0, none⟩ = some (.int .i64 a1) := cellThru hb1 (by simp; omega) (by simp [go_sem])
        have r1 : w1.cell? ⟨w.heap.size, 1, none⟩ = some (.int .i64 a2) := cellThru hb1 (by simp; omega) (by simp [go_sem])
        have s0 : w1.cell? ⟨w.heap.size + 1, 0, none⟩ = some (.int .i64 b1) := cellThru hb1 (by simp) (by simp [go_sem])
        have s1 : w1.cell? ⟨w.heap.size + 1, 1, none⟩ = some (.int .i64 b2) := cellThru hb1 (by simp) (by simp [go_sem])
        have hz1 : w.heap.size < w1.heap.size := by omega
        have B1 : Below w.heap.size w w1 := by
          (repeat' (first | (with_reducible exact Below.refl _ _) | (with_reducible assumption) | (with_reducible refine belowNext ?_ (by with_reducible assumption)) | (with_reducible refine belowAlloc ?_ _) | (with_reducible refine Below.drew ?_) | (with_reducible refine below_drewN ?_ _) | (with_reducible refine Below.setCell ?_ ?_ _) | go_size | (with_reducible refine sizeOf' ?_) | (with_reducible refine sizeAdd ?_) | (dsimp only; first | (with_reducible refine sizeOf' ?_) | (with_reducible refine sizeAdd ?_))))
        clear hb1
        go_wp2_with fail
        refine (HIb.out _).mono ?_
        rintro e w2 ⟨rfl, hb2⟩
        have B2 := belowNext B1 hb2
        have r0 := cellThru hb2 hz1 r0
        have r1 := cellThru hb2 hz1 r1
        have s0 := cellThru hb2 hz0 s0
        have s1 := cellThru hb2 hz0 s1
        have hz0 : w.heap.size + 1 < w2.heap.size := Nat.lt_of_lt_of_le hz0 hb2.size
        have hz1 : w.heap.size < w2.heap.size := by omega
        clear hb2 B1
        go_wp2_with fail
        refine (HOa.out _).mono ?_
        rintro e w3 ⟨rfl, hb3⟩
        have B3 := belowNext B2 hb3
        have r0 := cellThru hb3 hz1 r0
        have r1 := cellThru hb3 hz1 r1
        have s0 := cellThru hb3 hz0 s0
        have s1 := cellThru hb3 hz0 s1
        have hz0 : w.heap.size + 1 < w3.heap.size := Nat.lt_of_lt_of_le hz0 hb3.size
        have hz1 : w.heap.size < w3.heap.size := by omega
        clear hb3 B2
        go_wp2_with fail
        refine (HOb.out _).mono ?_
        rintro e w4 ⟨rfl, hb4⟩
        have B4 := belowNext B3 hb4
        have r0 := cellThru hb4 hz1 r0
        have r1 := cellThru hb4 hz1 r1
        have s0 := cellThru hb4 hz0 s0
        have s1 := cellThru hb4 hz0 s1
        have hz0 : w.heap.size + 1 < w4.heap.size := Nat.lt_of_lt_of_le hz0 hb4.size
        have hz1 : w.heap.size < w4.heap.size := by omega
        clear hb4 B3
        go_wp2
        go_ret2
        exact ⟨none, 0, rfl, setsRowNilJ, B4⟩
      | some m =>
        have HOa : Hid (∀ w : World, Calls Try.prog 52 #[ang a1 a2] w fun e w' => e = .returned (.tuple #[.slice none 0 0, .int .i64 0, .bool false]) ∧ Below w.heap.size w w') := Lib.hid (fun w => (specOrbit a1 a2 w (ang_red ha)).mono fun e w' h => by unfold ResOrb at h; rw [show findOrb (a1, a2) 65 0 = none from fa] at h; exact h)
        have HOb : Hid (∀ w : World, Calls Try.prog 52 #[ang b1 b2] w fun e w' => ∃ A cap, e = .returned (.tuple #[.slice A m cap, .int .i64 (pre (b1, b2) : Int), .bool true]) ∧ w'.ownsRow w.heap.size 29 2 (.slice A m cap) m (flat (b1, b2) m) ∧ Below w.heap.size w w') := Lib.hid (fun w => (specOrbit b1 b2 w (ang_red hb)).mono fun e w' h => by unfold ResOrb at h; rw [show findOrb (b1, b2) 65 0 = some m from fb] at h; exact h)
        generalize pre (b1, b2) = Pb at *
        clear ha hb h fa fb
        go_enter Try.func26, Try.ntmps26
        go_wp2_with fail
        refine (HIa.out _).mono ?_
        rintro e w1 ⟨rfl, hb1⟩
        have hz0 : w.heap.size + 1 < w1.heap.size := by have := hb1.size; simp at this; omega
        have r0 : w1.cell? ⟨w.heap.size, 0, none⟩ = some (.int .i64 a1) := cellThru hb1 (by simp; omega) (by simp [go_sem])
        have r1 : w1.cell? ⟨w.heap.size, 1, none⟩ = some (.int .i64 a2) := cellThru hb1 (by simp; omega) (by simp [go_sem])
        have s0 : w1.cell? ⟨w.heap.size + 1, 0, none⟩ = some (.int .i64 b1) := cellThru hb1 (by simp) (by simp [go_sem])
        have s1 : w1.cell? ⟨w.heap.size + 1, 1, none⟩ = some (.int .i64 b2) := cellThru hb1 (by simp) (by simp [go_sem])
        have hz1 : w.heap.size < w1.heap.size := by omega
        have B1 : Below w.heap.size w w1 := by
          (repeat' (first | (with_reducible exact Below.refl _ _) | (with_reducible assumption) | (with_reducible refine belowNext ?_ (by with_reducible assumption)) | (with_reducible refine belowAlloc ?_ _) | (with_reducible refine Below.drew ?_) | (with_reducible refine below_drewN ?_ _) | (with_reducible refine Below.setCell ?_ ?_ _) | go_size | (with_reducible refine sizeOf' ?_) | (with_reducible refine sizeAdd ?_) | (dsimp only; first | (with_reducible refine sizeOf' ?_) | (with_reducible refine sizeAdd ?_))))
        clear hb1
        go_wp2_with fail
        refine (HIb.out _).mono ?_
        rintro e w2 ⟨rfl, hb2⟩
        have B2 := belowNext B1 hb2
        have r0 := cellThru hb2 hz1 r0
        have r1 := cellThru hb2 hz1 r1
        have s0 := cellThru hb2 hz0 s0
        have s1 := cellThru hb2 hz0 s1
        have hz0 : w.heap.size + 1 < w2.heap.size := Nat.lt_of_lt_of_le hz0 hb2.size
        have hz1 : w.heap.size < w2.heap.size := by omega
        clear hb2 B1
        go_wp2_with fail
        refine (HOa.out _).mono ?_
        rintro e w3 ⟨rfl, hb3⟩
        have B3 := belowNext B2 hb3
        have r0 := cellThru hb3 hz1 r0
        have r1 := cellThru hb3 hz1 r1
        have s0 := cellThru hb3 hz0 s0
        have s1 := cellThru hb3 hz0 s1
        have hz0 : w.heap.size + 1 < w3.heap.size := Nat.lt_of_lt_of_le hz0 hb3.size
        have hz1 : w.heap.size < w3.heap.size := by omega
        clear hb3 B2
        go_wp2_with fail
        refine (HOb.out _).mono ?_
        rintro e w4 ⟨A4, c4, rfl, ho4, hb4⟩
        have B4 := belowNext B3 hb4
        have r0 := cellThru hb4 hz1 r0
        have r1 := cellThru hb4 hz1 r1
        have s0 := cellThru hb4 hz0 s0
        have s1 := cellThru hb4 hz0 s1
        have hz0 : w.heap.size + 1 < w4.heap.size := Nat.lt_of_lt_of_le hz0 hb4.size
        have hz1 : w.heap.size < w4.heap.size := by omega
        clear hb4 B3
        go_wp2
        go_ret2
        exact ⟨none, 0, rfl, setsRowNilJ, B4⟩
    | some n =>
      have fb : findOrb (b1, b2) 65 0 = none := by
        rcases h with h | h
        · rw [fa] at h; cases h
        · exact h
      have HOa : Hid (∀ w : World, Calls Try.prog 52 #[ang a1 a2] w fun e w' => ∃ A cap, e = .returned (.tuple #[.slice A n cap, .int .i64 (pre (a1, a2) : Int), .bool true]) ∧ w'.ownsRow w.heap.size 29 2 (.slice A n cap) n (flat (a1, a2) n) ∧ Below w.heap.size w w') := Lib.hid (fun w => (specOrbit a1 a2 w (ang_red ha)).mono fun e w' h => by unfold ResOrb at h; rw [show findOrb (a1, a2) 65 0 = some n from fa] at h; exact h)
      have HOb : Hid (∀ w : World, Calls Try.prog 52 #[ang b1 b2] w fun e w' => e = .returned (.tuple #[.slice none 0 0, .int .i64 0, .bool false]) ∧ Below w.heap.size w w') := Lib.hid (fun w => (specOrbit b1 b2 w (ang_red hb)).mono fun e w' h => by unfold ResOrb at h; rw [show findOrb (b1, b2) 65 0 = none from fb] at h; exact h)
      generalize pre (a1, a2) = Pa at *
      clear ha hb h fa fb
      go_enter Try.func26, Try.ntmps26
      go_wp2_with fail
      refine (HIa.out _).mono ?_
      rintro e w1 ⟨rfl, hb1⟩
      have hz0 : w.heap.size + 1 < w1.heap.size := by have := hb1.size; simp at this; omega
      have r0 : w1.cell? ⟨w.heap.size, 0, none⟩ = some (.int .i64 a1) := cellThru hb1 (by simp; omega) (by simp [go_sem])
      have r1 : w1.cell? ⟨w.heap.size, 1, none⟩ = some (.int .i64 a2) := cellThru hb1 (by simp; omega) (by simp [go_sem])
      have s0 : w1.cell? ⟨w.heap.size + 1, 0, none⟩ = some (.int .i64 b1) := cellThru hb1 (by simp) (by simp [go_sem])
      have s1 : w1.cell? ⟨w.heap.size + 1, 1, none⟩ = some (.int .i64 b2) := cellThru hb1 (by simp) (by simp [go_sem])
      have hz1 : w.heap.size < w1.heap.size := by omega
      have B1 : Below w.heap.size w w1 := by
        (repeat' (first | (with_reducible exact Below.refl _ _) | (with_reducible assumption) | (with_reducible refine belowNext ?_ (by with_reducible assumption)) | (with_reducible refine belowAlloc ?_ _) | (with_reducible refine Below.drew ?_) | (with_reducible refine below_drewN ?_ _) | (with_reducible refine Below.setCell ?_ ?_ _) | go_size | (with_reducible refine sizeOf' ?_) | (with_reducible refine sizeAdd ?_) | (dsimp only; first | (with_reducible refine sizeOf' ?_) | (with_reducible refine sizeAdd ?_))))
      clear hb1
      go_wp2_with fail
      refine (HIb.out _).mono ?_
      rintro e w2 ⟨rfl, hb2⟩
      have B2 := belowNext B1 hb2
      have r0 := cellThru hb2 hz1 r0
      have r1 := cellThru hb2 hz1 r1
      have s0 := cellThru hb2 hz0 s0
      have s1 := cellThru hb2 hz0 s1
      have hz0 : w.heap.size + 1 < w2.heap.size := Nat.lt_of_lt_of_le hz0 hb2.size
      have hz1 : w.heap.size < w2.heap.size := by omega
      clear hb2 B1
      go_wp2_with fail
      refine (HOa.out _).mono ?_
      rintro e w3 ⟨A3, c3, rfl, ho3, hb3⟩
      have B3 := belowNext B2 hb3
      have r0 := cellThru hb3 hz1 r0
      have r1 := cellThru hb3 hz1 r1
      have s0 := cellThru hb3 hz0 s0
      have s1 := cellThru hb3 hz0 s1
      have hz0 : w.heap.size + 1 < w3.heap.size := Nat.lt_of_lt_of_le hz0 hb3.size
      have hz1 : w.heap.size < w3.heap.size := by omega
      clear hb3 B2
      go_wp2_with fail
      refine (HOb.out _).mono ?_
      rintro e w4 ⟨rfl, hb4⟩
      have B4 := belowNext B3 hb4
      have r0 := cellThru hb4 hz1 r0
      have r1 := cellThru hb4 hz1 r1
      have s0 := cellThru hb4 hz0 s0
      have s1 := cellThru hb4 hz0 s1
      have hz0 : w.heap.size + 1 < w4.heap.size := Nat.lt_of_lt_of_le hz0 hb4.size
      have hz1 : w.heap.size < w4.heap.size := by omega
      clear hb4 B3
      go_wp2
      go_ret2
      exact ⟨none, 0, rfl, setsRowNilJ, B4⟩
  | @other n m ha hb fa fb h =>
    have HIa := Lib.hid (fun w => specIs1 a1 a2 w)
    have HIb := Lib.hid (fun w => specIs1 b1 b2 w)
    rw [show isAng a1 a2 = true from ha] at HIa
    rw [show isAng b1 b2 = true from hb] at HIb
    have HOa : Hid (∀ w : World, Calls Try.prog 52 #[ang a1 a2] w fun e w' => ∃ A cap, e = .returned (.tuple #[.slice A n cap, .int .i64 (pre (a1, a2) : Int), .bool true]) ∧ w'.ownsRow w.heap.size 29 2 (.slice A n cap) n (flat (a1, a2) n) ∧ Below w.heap.size w w') := Lib.hid (fun w => (specOrbit a1 a2 w (ang_red ha)).mono fun e w' h => by unfold ResOrb at h; rw [show findOrb (a1, a2) 65 0 = some n from fa] at h; exact h)
    have HOb : Hid (∀ w : World, Calls Try.prog 52 #[ang b1 b2] w fun e w' => ∃ A cap, e = .returned (.tuple #[.slice A m cap, .int .i64 (pre (b1, b2) : Int), .bool true]) ∧ w'.ownsRow w.heap.size 29 2 (.slice A m cap) m (flat (b1, b2) m) ∧ Below w.heap.size w w') := Lib.hid (fun w => (specOrbit b1 b2 w (ang_red hb)).mono fun e w' h => by unfold ResOrb at h; rw [show findOrb (b1, b2) 65 0 = some m from fb] at h; exact h)
    have hq : eqA a1 a2 b1 b2 = true ∨ (eqA a1 a2 b1 b2 = false ∧ pre (a1, a2) ≠ 0) ∨ (eqA a1 a2 b1 b2 = false ∧ pre (a1, a2) = 0 ∧ pre (b1, b2) ≠ 0) ∨ (eqA a1 a2 b1 b2 = false ∧ pre (a1, a2) = 0 ∧ pre (b1, b2) = 0 ∧ n ≠ m) := by
      cases e : eqA a1 a2 b1 b2
      · have hne : ((a1, a2) : Int × Int) ≠ (b1, b2) := fun g => by rw [(eqA_iffO (a1, a2) (b1, b2)).mpr g] at e; cases e
        rcases h with h | h | h | h
        · exact absurd h hne
        · exact .inr (.inl ⟨rfl, h⟩)
        · by_cases h0 : pre (a1, a2) = 0
          · exact .inr (.inr (.inl ⟨rfl, h0, h⟩))
          · exact .inr (.inl ⟨rfl, h0⟩)
        · by_cases h0 : pre (a1, a2) = 0
          · by_cases h1 : pre (b1, b2) = 0
            · exact .inr (.inr (.inr ⟨rfl, h0, h1, h⟩))
            · exact .inr (.inr (.inl ⟨rfl, h0, h1⟩))
          · exact .inr (.inl ⟨rfl, h0⟩)
      · exact .inl rfl
    have Q : ∀ W, (binOp .eql 29 (ang a1 a2) (ang b1 b2)).run Try.prog W = .ok (.bool (eqA a1 a2 b1 b2)) W := fun W => eqlAng _ _ _ _ W
    have hn65 : n ≤ 65 := by have := find_le _ _ _ fa; omega
    have hm65 : m ≤ 65 := by have := find_le _ _ _ fb; omega
    have hpa : pre (a1, a2) ≤ 14 := twos_le 14 a2
    have hpb : pre (b1, b2) ≤ 14 := twos_le 14 b2
    generalize pre (a1, a2) = Pa at *
    generalize pre (b1, b2) = Pb at *
    clear ha hb h fa fb
    go_enter Try.func26, Try.ntmps26
    go_wp2_with fail
    refine (HIa.out _).mono ?_
    rintro e w1 ⟨rfl, hb1⟩
    have hz0 : w.heap.size + 1 < w1.heap.size := by have := hb1.size; simp at this; omega
    have r0 : w1.cell? ⟨w.heap.size, 0, none⟩ = some (.int .i64 a1) := cellThru hb1 (by simp; omega) (by simp [go_sem])
    have r1 : w1.cell? ⟨w.heap.size, 1, none⟩ = some (.int .i64 a2) := cellThru hb1 (by simp; omega) (by simp [go_sem])
    have s0 : w1.cell? ⟨w.heap.size + 1, 0, none⟩ = some (.int .i64 b1) := cellThru hb1 (by simp) (by simp [go_sem])
    have s1 : w1.cell? ⟨w.heap.size + 1, 1, none⟩ = some (.int .i64 b2) := cellThru hb1 (by simp) (by simp [go_sem])
    have hz1 : w.heap.size < w1.heap.size := by omega
    have B1 : Below w.heap.size w w1 := by
      (repeat' (first | (with_reducible exact Below.refl _ _) | (with_reducible assumption) | (with_reducible refine belowNext ?_ (by with_reducible assumption)) | (with_reducible refine belowAlloc ?_ _) | (with_reducible refine Below.drew ?_) | (with_reducible refine below_drewN ?_ _) | (with_reducible refine Below.setCell ?_ ?_ _) | go_size | (with_reducible refine sizeOf' ?_) | (with_reducible refine sizeAdd ?_) | (dsimp only; first | (with_reducible refine sizeOf' ?_) | (with_reducible refine sizeAdd ?_))))
    clear hb1
    go_wp2_with fail
    refine (HIb.out _).mono ?_
    rintro e w2 ⟨rfl, hb2⟩
    have B2 := belowNext B1 hb2
    have r0 := cellThru hb2 hz1 r0
    have r1 := cellThru hb2 hz1 r1
    have s0 := cellThru hb2 hz0 s0
    have s1 := cellThru hb2 hz0 s1
    have hz0 : w.heap.size + 1 < w2.heap.size := Nat.lt_of_lt_of_le hz0 hb2.size
    have hz1 : w.heap.size < w2.heap.size := by omega
    clear hb2 B1
    go_wp2_with fail
    refine (HOa.out _).mono ?_
    rintro e w3 ⟨A3, c3, rfl, ho3, hb3⟩
    have B3 := belowNext B2 hb3
    have r0 := cellThru hb3 hz1 r0
    have r1 := cellThru hb3 hz1 r1
    have s0 := cellThru hb3 hz0 s0
    have s1 := cellThru hb3 hz0 s1
    have hz0 : w.heap.size + 1 < w3.heap.size := Nat.lt_of_lt_of_le hz0 hb3.size
    have hz1 : w.heap.size < w3.heap.size := by omega
    clear hb3 B2
    go_wp2_with fail
    refine (HOb.out _).mono ?_
    rintro e w4 ⟨A4, c4, rfl, ho4, hb4⟩
    have B4 := belowNext B3 hb4
    have r0 := cellThru hb4 hz1 r0
    have r1 := cellThru hb4 hz1 r1
    have s0 := cellThru hb4 hz0 s0
    have s1 := cellThru hb4 hz0 s1
    have hz0 : w.heap.size + 1 < w4.heap.size := Nat.lt_of_lt_of_le hz0 hb4.size
    have hz1 : w.heap.size < w4.heap.size := by omega
    clear hb4 B3
    rcases hq with e1 | ⟨e1, h0⟩ | ⟨e1, rfl, h0⟩ | ⟨e1, rfl, rfl, h0⟩
    · rw [e1] at Q
      go_wp2
      go_ret2
      exact ⟨none, 0, rfl, setsRowNilJ, B4⟩
    · rw [e1] at Q
      have d0 : ((Pa : Int) == 0) = false := beq_eq_false_iff_ne.2 (by omega)
      go_wp2
      go_ret2
      exact ⟨none, 0, rfl, setsRowNilJ, B4⟩
    · rw [e1] at Q
      have d0 : ((Pb : Int) == 0) = false := beq_eq_false_iff_ne.2 (by omega)
      go_wp2
      go_ret2
      exact ⟨none, 0, rfl, setsRowNilJ, B4⟩
    · rw [e1] at Q
      have d0 : ((n : Int) == (m : Int)) = false := beq_eq_false_iff_ne.2 (by omega)
      go_wp2
      go_ret2
      exact ⟨none, 0, rfl, setsRowNilJ, B4⟩
  | @many n k S H hne hc hs hkn hk =>
    have ha : isAng a1 a2 = true := redAng H.ra
    have hb : isAng b1 b2 = true := redAng H.rb
    obtain ⟨_, hn0, hn64⟩ := find_back H.fa H.pa
    have HIa := Lib.hid (fun w => specIs1 a1 a2 w)
    have HIb := Lib.hid (fun w => specIs1 b1 b2 w)
    rw [show isAng a1 a2 = true from ha] at HIa
    rw [show isAng b1 b2 = true from hb] at HIb
    have HOa : Hid (∀ w : World, Calls Try.prog 52 #[ang a1 a2] w fun e w' => ∃ A cap, e = .returned (.tuple #[.slice A n cap, .int .i64 (pre (a1, a2) : Int), .bool true]) ∧ w'.ownsRow w.heap.size 29 2 (.slice A n cap) n (flat (a1, a2) n) ∧ Below w.heap.size w w') := Lib.hid (fun w => (specOrbit a1 a2 w (ang_red ha)).mono fun e w' h => by unfold ResOrb at h; rw [show findOrb (a1, a2) 65 0 = some n from H.fa] at h; exact h)
    have HOb : Hid (∀ w : World, Calls Try.prog 52 #[ang b1 b2] w fun e w' => ∃ A cap, e = .returned (.tuple #[.slice A n cap, .int .i64 (pre (b1, b2) : Int), .bool true]) ∧ w'.ownsRow w.heap.size 29 2 (.slice A n cap) n (flat (b1, b2) n) ∧ Below w.heap.size w w') := Lib.hid (fun w => (specOrbit b1 b2 w (ang_red hb)).mono fun e w' h => by unfold ResOrb at h; rw [show findOrb (b1, b2) 65 0 = some n from H.fb] at h; exact h)
    rw [H.pa] at HOa
    rw [H.pb] at HOb
    have Q : ∀ W, (binOp .eql 29 (ang a1 a2) (ang b1 b2)).run Try.prog W = .ok (.bool false) W := fun W => by
      have hn : eqA a1 a2 b1 b2 = false := by
        cases h : eqA a1 a2 b1 b2
        · rfl
        · exact absurd ((eqA_iffO (a1, a2) (b1, b2)).mp h) hne
      rw [eqlAng, hn]
    have HJn := Lib.hid (fun A1 c1 A2 c2 w r1 r2 => specJoined (a1, a2) (b1, b2) n A1 c1 A2 c2 w H r1 r2 S k hc hs)
    have HSl : Hid (S.length ≤ 128) := Lib.hid (by
      have h1 := len_sub (m := endsJ (pairJ dbl (a1, a2) (b1, b2) n)) (asc_nodup hc.asc) (fun x hx => tied_ends ((hc.mem x).mp hx) H.start)
      have h2 := endsJ_len (pairJ dbl (a1, a2) (b1, b2) n)
      have h3 : (pairJ dbl (a1, a2) (b1, b2) n).length = n := by simp [pairJ]
      omega)
    have hk64 : k ≤ 64 := by omega
    have HTl : Hid (∀ i, i ≤ k → totL ((lsJ S k).take i) ≤ 8192) := Lib.hid (fun i _ => by
      have h1 := totL_le (lsJ S k) i
      have h2 := totL_each (c := 128) (ls := lsJ S k) (fun l hl => by
        obtain ⟨q, _, rfl⟩ := lsJ_mem.mp hl
        exact Nat.le_trans (tJ_le S q) HSl.out)
      rw [lsJ_len] at h2
      omega)
    have hll := lsJ_len S k
    clear ha hb
    go_enter Try.func26, Try.ntmps26
    go_wp2_with fail
    refine (HIa.out _).mono ?_
    rintro e w1 ⟨rfl, hb1⟩
    have hz0 : w.heap.size + 1 < w1.heap.size := by have := hb1.size; simp at this; omega
    have r0 : w1.cell? ⟨w.heap.size, 0, none⟩ = some (.int .i64 a1) := cellThru hb1 (by simp; omega) (by simp [go_sem])
    have r1 : w1.cell? ⟨w.heap.size, 1, none⟩ = some (.int .i64 a2) := cellThru hb1 (by simp; omega) (by simp [go_sem])
    have s0 : w1.cell? ⟨w.heap.size + 1, 0, none⟩ = some (.int .i64 b1) := cellThru hb1 (by simp) (by simp [go_sem])
    have s1 : w1.cell? ⟨w.heap.size + 1, 1, none⟩ = some (.int .i64 b2) := cellThru hb1 (by simp) (by simp [go_sem])
    have hz1 : w.heap.size < w1.heap.size := by omega
    have B1 : Below w.heap.size w w1 := by
      (repeat' (first | (with_reducible exact Below.refl _ _) | (with_reducible assumption) | (with_reducible refine belowNext ?_ (by with_reducible assumption)) | (with_reducible refine belowAlloc ?_ _) | (with_reducible refine Below.drew ?_) | (with_reducible refine below_drewN ?_ _) | (with_reducible refine Below.setCell ?_ ?_ _) | go_size | (with_reducible refine sizeOf' ?_) | (with_reducible refine sizeAdd ?_) | (dsimp only; first | (with_reducible refine sizeOf' ?_) | (with_reducible refine sizeAdd ?_))))
    clear hb1
    go_wp2_with fail
    refine (HIb.out _).mono ?_
    rintro e w2 ⟨rfl, hb2⟩
    have B2 := belowNext B1 hb2
    have r0 := cellThru hb2 hz1 r0
    have r1 := cellThru hb2 hz1 r1
    have s0 := cellThru hb2 hz0 s0
    have s1 := cellThru hb2 hz0 s1
    have hz0 : w.heap.size + 1 < w2.heap.size := Nat.lt_of_lt_of_le hz0 hb2.size
    have hz1 : w.heap.size < w2.heap.size := by omega
    clear hb2 B1
    go_wp2_with fail
    refine (HOa.out _).mono ?_
    rintro e w3 ⟨A3, c3, rfl, ho3, hb3⟩
    have B3 := belowNext B2 hb3
    have r0 := cellThru hb3 hz1 r0
    have r1 := cellThru hb3 hz1 r1
    have s0 := cellThru hb3 hz0 s0
    have s1 := cellThru hb3 hz0 s1
    have hz0 : w.heap.size + 1 < w3.heap.size := Nat.lt_of_lt_of_le hz0 hb3.size
    have hz1 : w.heap.size < w3.heap.size := by omega
    clear hb3 B2
    go_wp2_with fail
    refine (HOb.out _).mono ?_
    rintro e w4 ⟨A4, c4, rfl, ho4, hb4⟩
    have B4 := belowNext B3 hb4
    have r0 := cellThru hb4 hz1 r0
    have r1 := cellThru hb4 hz1 r1
    have s0 := cellThru hb4 hz0 s0
    have s1 := cellThru hb4 hz0 s1
    have hz0 : w.heap.size + 1 < w4.heap.size := Nat.lt_of_lt_of_le hz0 hb4.size
    have hz1 : w.heap.size < w4.heap.size := by omega
    have ho3 := ownKeepA ho3 hb4
    clear hb4 B3
    go_wp2_with fail
    refine (HJn.out A3 c3 A4 c4 _ (flat_rowJ ho3) (flat_rowJ ho4)).mono ?_
    rintro e w5 ⟨A5, c5, rfl, HR5, hb5⟩
    have B5 := belowNext B4 hb5
    clear hb5 B4 r0 r1 s0 s1 ho3 ho4 HOa HOb HIa HIb HJn Q
    obtain ⟨ls, hls⟩ : ∃ ls, lsJ S k = ls := ⟨_, rfl⟩
    have HLs := Lib.hid hls
    rw [hls] at HR5 HTl hll
    clear hls
    go_wp2_with fail
    go_loopg [13, 14] k (fun g s13 s14 wr => ∃ i : Nat, i + g = k ∧ s14 = .int .i64 i ∧ s13 = .int .i64 (totL (ls.take i) : Int) ∧ wr = w5)
    case atStart => exact ⟨0, by omega, rfl, by simp [totL], rfl⟩
    case round =>
      obtain ⟨i, hig, rfl, rfl, rfl⟩ := hrel
      cases gk with
      | succ g =>
        have hil : i < ls.length := by omega
        obtain ⟨bS, oS, rfl, hbS, hcS⟩ := HR5.out.1.form hil
        obtain ⟨Ai, ci, x0, _⟩ := hcS i hil
        have ht := totL_take hil
        have hT1 := HTl.out (i + 1) (by omega)
        obtain ⟨len, hlen⟩ : ∃ len, (gA ls i).length = len := ⟨_, rfl⟩
        rw [hlen] at x0 ht
        have HT := Lib.hid ht
        rw [ht] at hT1
        obtain ⟨T, hT⟩ : ∃ T, totL (ls.take i) = T := ⟨_, rfl⟩
        rw [hT] at hT1 HT ⊢
        clear hcS hlen ht hT
        go_wp2
        go_roundg g
        case measure => omega
        case rel => exact ⟨i + 1, by omega, by go_num, by rw [HT.out]; go_num, rfl⟩
      | zero =>
        obtain rfl : i = k := by omega
        have htk : ls.take i = ls := List.take_of_length_le (by omega)
        rw [htk]
        clear htk hig
        have hkk : ((i : Int) > 12) = True := eq_true (by omega)
        go_wp2
        go_ret2
        exact ⟨none, 0, rfl, setsRowNilJ, B5⟩
  | @none n k S C H hne hc hs hkn hk ht hC h0 =>
    have ha : isAng a1 a2 = true := redAng H.ra
    have hb : isAng b1 b2 = true := redAng H.rb
    obtain ⟨_, hn0, hn64⟩ := find_back H.fa H.pa
    have HIa := Lib.hid (fun w => specIs1 a1 a2 w)
    have HIb := Lib.hid (fun w => specIs1 b1 b2 w)
    rw [show isAng a1 a2 = true from ha] at HIa
    rw [show isAng b1 b2 = true from hb] at HIb
    have HOa : Hid (∀ w : World, Calls Try.prog 52 #[ang a1 a2] w fun e w' => ∃ A cap, e = .returned (.tuple #[.slice A n cap, .int .i64 (pre (a1, a2) : Int), .bool true]) ∧ w'.ownsRow w.heap.size 29 2 (.slice A n cap) n (flat (a1, a2) n) ∧ Below w.heap.size w w') := Lib.hid (fun w => (specOrbit a1 a2 w (ang_red ha)).mono fun e w' h => by unfold ResOrb at h; rw [show findOrb (a1, a2) 65 0 = some n from H.fa] at h; exact h)
    have HOb : Hid (∀ w : World, Calls Try.prog 52 #[ang b1 b2] w fun e w' => ∃ A cap, e = .returned (.tuple #[.slice A n cap, .int .i64 (pre (b1, b2) : Int), .bool true]) ∧ w'.ownsRow w.heap.size 29 2 (.slice A n cap) n (flat (b1, b2) n) ∧ Below w.heap.size w w') := Lib.hid (fun w => (specOrbit b1 b2 w (ang_red hb)).mono fun e w' h => by unfold ResOrb at h; rw [show findOrb (b1, b2) 65 0 = some n from H.fb] at h; exact h)
    rw [H.pa] at HOa
    rw [H.pb] at HOb
    have Q : ∀ W, (binOp .eql 29 (ang a1 a2) (ang b1 b2)).run Try.prog W = .ok (.bool false) W := fun W => by
      have hn : eqA a1 a2 b1 b2 = false := by
        cases h : eqA a1 a2 b1 b2
        · rfl
        · exact absurd ((eqA_iffO (a1, a2) (b1, b2)).mp h) hne
      rw [eqlAng, hn]
    have HJn := Lib.hid (fun A1 c1 A2 c2 w r1 r2 => specJoined (a1, a2) (b1, b2) n A1 c1 A2 c2 w H r1 r2 S k hc hs)
    have HSl : Hid (S.length ≤ 128) := Lib.hid (by
      have h1 := len_sub (m := endsJ (pairJ dbl (a1, a2) (b1, b2) n)) (asc_nodup hc.asc) (fun x hx => tied_ends ((hc.mem x).mp hx) H.start)
      have h2 := endsJ_len (pairJ dbl (a1, a2) (b1, b2) n)
      have h3 : (pairJ dbl (a1, a2) (b1, b2) n).length = n := by simp [pairJ]
      omega)
    have hk64 : k ≤ 64 := by omega
    have HTl : Hid (∀ i, i ≤ k → totL ((lsJ S k).take i) ≤ 8192) := Lib.hid (fun i _ => by
      have h1 := totL_le (lsJ S k) i
      have h2 := totL_each (c := 128) (ls := lsJ S k) (fun l hl => by
        obtain ⟨q, _, rfl⟩ := lsJ_mem.mp hl
        exact Nat.le_trans (tJ_le S q) HSl.out)
      rw [lsJ_len] at h2
      omega)
    have hll := lsJ_len S k
    clear ha hb
    go_enter Try.func26, Try.ntmps26
    go_wp2_with fail
    refine (HIa.out _).mono ?_
    rintro e w1 ⟨rfl, hb1⟩
    have hz0 : w.heap.size + 1 < w1.heap.size := by have := hb1.size; simp at this; omega
    have r0 : w1.cell? ⟨w.heap.size, 0, none⟩ = some (.int .i64 a1) := cellThru hb1 (by simp; omega) (by simp [go_sem])
    have r1 : w1.cell? ⟨w.heap.size, 1, none⟩ = some (.int .i64 a2) := cellThru hb1 (by simp; omega) (by simp [go_sem])
    have s0 : w1.cell? ⟨w.heap.size + 1, 0, none⟩ = some (.int .i64 b1) := cellThru hb1 (by simp) (by simp [go_sem])
    have s1 : w1.cell? ⟨w.heap.size + 1, 1, none⟩ = some (.int .i64 b2) := cellThru hb1 (by simp) (by simp [go_sem])
    have hz1 : w.heap.size < w1.heap.size := by omega
    have B1 : Below w.heap.size w w1 := by
      (repeat' (first | (with_reducible exact Below.refl _ _) | (with_reducible assumption) | (with_reducible refine belowNext ?_ (by with_reducible assumption)) | (with_reducible refine belowAlloc ?_ _) | (with_reducible refine Below.drew ?_) | (with_reducible refine below_drewN ?_ _) | (with_reducible refine Below.setCell ?_ ?_ _) | go_size | (with_reducible refine sizeOf' ?_) | (with_reducible refine sizeAdd ?_) | (dsimp only; first | (with_reducible refine sizeOf' ?_) | (with_reducible refine sizeAdd ?_))))
    clear hb1
    go_wp2_with fail
    refine (HIb.out _).mono ?_
    rintro e w2 ⟨rfl, hb2⟩
    have B2 := belowNext B1 hb2
    have r0 := cellThru hb2 hz1 r0
    have r1 := cellThru hb2 hz1 r1
    have s0 := cellThru hb2 hz0 s0
    have s1 := cellThru hb2 hz0 s1
    have hz0 : w.heap.size + 1 < w2.heap.size := Nat.lt_of_lt_of_le hz0 hb2.size
    have hz1 : w.heap.size < w2.heap.size := by omega
    clear hb2 B1
    go_wp2_with fail
    refine (HOa.out _).mono ?_
    rintro e w3 ⟨A3, c3, rfl, ho3, hb3⟩
    have B3 := belowNext B2 hb3
    have r0 := cellThru hb3 hz1 r0
    have r1 := cellThru hb3 hz1 r1
    have s0 := cellThru hb3 hz0 s0
    have s1 := cellThru hb3 hz0 s1
    have hz0 : w.heap.size + 1 < w3.heap.size := Nat.lt_of_lt_of_le hz0 hb3.size
    have hz1 : w.heap.size < w3.heap.size := by omega
    clear hb3 B2
    go_wp2_with fail
    refine (HOb.out _).mono ?_
    rintro e w4 ⟨A4, c4, rfl, ho4, hb4⟩
    have B4 := belowNext B3 hb4
    have r0 := cellThru hb4 hz1 r0
    have r1 := cellThru hb4 hz1 r1
    have s0 := cellThru hb4 hz0 s0
    have s1 := cellThru hb4 hz0 s1
    have hz0 : w.heap.size + 1 < w4.heap.size := Nat.lt_of_lt_of_le hz0 hb4.size
    have hz1 : w.heap.size < w4.heap.size := by omega
    have ho3 := ownKeepA ho3 hb4
    clear hb4 B3
    go_wp2_with fail
    refine (HJn.out A3 c3 A4 c4 _ (flat_rowJ ho3) (flat_rowJ ho4)).mono ?_
    rintro e w5 ⟨A5, c5, rfl, HR5, hb5⟩
    have B5 := belowNext B4 hb5
    clear hb5 B4 r0 r1 s0 s1 ho3 ho4 HOa HOb HIa HIb HJn Q
    obtain ⟨ls, hls⟩ : ∃ ls, lsJ S k = ls := ⟨_, rfl⟩
    have HLs := Lib.hid hls
    rw [hls] at HR5 HTl hll
    clear hls
    go_wp2_with fail
    go_loopg [13, 14] k (fun g s13 s14 wr => ∃ i : Nat, i + g = k ∧ s14 = .int .i64 i ∧ s13 = .int .i64 (totL (ls.take i) : Int) ∧ wr = w5)
    case atStart => exact ⟨0, by omega, rfl, by simp [totL], rfl⟩
    case round =>
      obtain ⟨i, hig, rfl, rfl, rfl⟩ := hrel
      cases gk with
      | succ g =>
        have hil : i < ls.length := by omega
        obtain ⟨bS, oS, rfl, hbS, hcS⟩ := HR5.out.1.form hil
        obtain ⟨Ai, ci, x0, _⟩ := hcS i hil
        have ht := totL_take hil
        have hT1 := HTl.out (i + 1) (by omega)
        obtain ⟨len, hlen⟩ : ∃ len, (gA ls i).length = len := ⟨_, rfl⟩
        rw [hlen] at x0 ht
        have HT := Lib.hid ht
        rw [ht] at hT1
        obtain ⟨T, hT⟩ : ∃ T, totL (ls.take i) = T := ⟨_, rfl⟩
        rw [hT] at hT1 HT ⊢
        clear hcS hlen ht hT
        go_wp2
        go_roundg g
        case measure => omega
        case rel => exact ⟨i + 1, by omega, by go_num, by rw [HT.out]; go_num, rfl⟩
      | zero =>
        obtain rfl : i = k := by omega
        have htk : ls.take i = ls := List.take_of_length_le (by omega)
        rw [htk]
        clear htk hig
        have hkk : ((i : Int) > 12) = False := eq_false (by omega)
        have ht2 : totL ls ≤ 64 := by rw [← HLs.out]; exact ht
        have htt : ((totL ls : Int) > 64) = False := eq_false (by omega)
        have HIs := Lib.hid (spec7Is A5 i c5 ls wr ⟨HR5.out.1, hll, by omega, HR5.out.2, by omega⟩ C (by rw [← HLs.out]; exact hC))
        rw [decide_eq_false h0] at HIs
        go_wp2_with fail
        refine HIs.out.mono ?_
        rintro e w6 ⟨rfl, hb6⟩
        have B6 := belowNext B5 hb6
        go_wp2
        go_ret2
        exact ⟨none, 0, rfl, setsRowNilJ, B6⟩
  | @sets n k S H hne hc hs hkn hk ht hC =>
    have ha : isAng a1 a2 = true := redAng H.ra
    have hb : isAng b1 b2 = true := redAng H.rb
    obtain ⟨_, hn0, hn64⟩ := find_back H.fa H.pa
    have HIa := Lib.hid (fun w => specIs1 a1 a2 w)
    have HIb := Lib.hid (fun w => specIs1 b1 b2 w)
    rw [show isAng a1 a2 = true from ha] at HIa
    rw [show isAng b1 b2 = true from hb] at HIb
    have HOa : Hid (∀ w : World, Calls Try.prog 52 #[ang a1 a2] w fun e w' => ∃ A cap, e = .returned (.tuple #[.slice A n cap, .int .i64 (pre (a1, a2) : Int), .bool true]) ∧ w'.ownsRow w.heap.size 29 2 (.slice A n cap) n (flat (a1, a2) n) ∧ Below w.heap.size w w') := Lib.hid (fun w => (specOrbit a1 a2 w (ang_red ha)).mono fun e w' h => by unfold ResOrb at h; rw [show findOrb (a1, a2) 65 0 = some n from H.fa] at h; exact h)
    have HOb : Hid (∀ w : World, Calls Try.prog 52 #[ang b1 b2] w fun e w' => ∃ A cap, e = .returned (.tuple #[.slice A n cap, .int .i64 (pre (b1, b2) : Int), .bool true]) ∧ w'.ownsRow w.heap.size 29 2 (.slice A n cap) n (flat (b1, b2) n) ∧ Below w.heap.size w w') := Lib.hid (fun w => (specOrbit b1 b2 w (ang_red hb)).mono fun e w' h => by unfold ResOrb at h; rw [show findOrb (b1, b2) 65 0 = some n from H.fb] at h; exact h)
    rw [H.pa] at HOa
    rw [H.pb] at HOb
    have Q : ∀ W, (binOp .eql 29 (ang a1 a2) (ang b1 b2)).run Try.prog W = .ok (.bool false) W := fun W => by
      have hn : eqA a1 a2 b1 b2 = false := by
        cases h : eqA a1 a2 b1 b2
        · rfl
        · exact absurd ((eqA_iffO (a1, a2) (b1, b2)).mp h) hne
      rw [eqlAng, hn]
    have HJn := Lib.hid (fun A1 c1 A2 c2 w r1 r2 => specJoined (a1, a2) (b1, b2) n A1 c1 A2 c2 w H r1 r2 S k hc hs)
    have HSl : Hid (S.length ≤ 128) := Lib.hid (by
      have h1 := len_sub (m := endsJ (pairJ dbl (a1, a2) (b1, b2) n)) (asc_nodup hc.asc) (fun x hx => tied_ends ((hc.mem x).mp hx) H.start)
      have h2 := endsJ_len (pairJ dbl (a1, a2) (b1, b2) n)
      have h3 : (pairJ dbl (a1, a2) (b1, b2) n).length = n := by simp [pairJ]
      omega)
    have hk64 : k ≤ 64 := by omega
    have HTl : Hid (∀ i, i ≤ k → totL ((lsJ S k).take i) ≤ 8192) := Lib.hid (fun i _ => by
      have h1 := totL_le (lsJ S k) i
      have h2 := totL_each (c := 128) (ls := lsJ S k) (fun l hl => by
        obtain ⟨q, _, rfl⟩ := lsJ_mem.mp hl
        exact Nat.le_trans (tJ_le S q) HSl.out)
      rw [lsJ_len] at h2
      omega)
    have hll := lsJ_len S k
    clear ha hb
    go_enter Try.func26, Try.ntmps26
    go_wp2_with fail
    refine (HIa.out _).mono ?_
    rintro e w1 ⟨rfl, hb1⟩
    have hz0 : w.heap.size + 1 < w1.heap.size := by have := hb1.size; simp at this; omega
    have r0 : w1.cell? ⟨w.heap.size, 0, none⟩ = some (.int .i64 a1) := cellThru hb1 (by simp; omega) (by simp [go_sem])
    have r1 : w1.cell? ⟨w.heap.size, 1, none⟩ = some (.int .i64 a2) := cellThru hb1 (by simp; omega) (by simp [go_sem])
    have s0 : w1.cell? ⟨w.heap.size + 1, 0, none⟩ = some (.int .i64 b1) := cellThru hb1 (by simp) (by simp [go_sem])
    have s1 : w1.cell? ⟨w.heap.size + 1, 1, none⟩ = some (.int .i64 b2) := cellThru hb1 (by simp) (by simp [go_sem])
    have hz1 : w.heap.size < w1.heap.size := by omega
    have B1 : Below w.heap.size w w1 := by
      (repeat' (first | (with_reducible exact Below.refl _ _) | (with_reducible assumption) | (with_reducible refine belowNext ?_ (by with_reducible assumption)) | (with_reducible refine belowAlloc ?_ _) | (with_reducible refine Below.drew ?_) | (with_reducible refine below_drewN ?_ _) | (with_reducible refine Below.setCell ?_ ?_ _) | go_size | (with_reducible refine sizeOf' ?_) | (with_reducible refine sizeAdd ?_) | (dsimp only; first | (with_reducible refine sizeOf' ?_) | (with_reducible refine sizeAdd ?_))))
    clear hb1
    go_wp2_with fail
    refine (HIb.out _).mono ?_
    rintro e w2 ⟨rfl, hb2⟩
    have B2 := belowNext B1 hb2
    have r0 := cellThru hb2 hz1 r0
    have r1 := cellThru hb2 hz1 r1
    have s0 := cellThru hb2 hz0 s0
    have s1 := cellThru hb2 hz0 s1
    have hz0 : w.heap.size + 1 < w2.heap.size := Nat.lt_of_lt_of_le hz0 hb2.size
    have hz1 : w.heap.size < w2.heap.size := by omega
    clear hb2 B1
    go_wp2_with fail
    refine (HOa.out _).mono ?_
    rintro e w3 ⟨A3, c3, rfl, ho3, hb3⟩
    have B3 := belowNext B2 hb3
    have r0 := cellThru hb3 hz1 r0
    have r1 := cellThru hb3 hz1 r1
    have s0 := cellThru hb3 hz0 s0
    have s1 := cellThru hb3 hz0 s1
    have hz0 : w.heap.size + 1 < w3.heap.size := Nat.lt_of_lt_of_le hz0 hb3.size
    have hz1 : w.heap.size < w3.heap.size := by omega
    clear hb3 B2
    go_wp2_with fail
    refine (HOb.out _).mono ?_
    rintro e w4 ⟨A4, c4, rfl, ho4, hb4⟩
    have B4 := belowNext B3 hb4
    have r0 := cellThru hb4 hz1 r0
    have r1 := cellThru hb4 hz1 r1
    have s0 := cellThru hb4 hz0 s0
    have s1 := cellThru hb4 hz0 s1
    have hz0 : w.heap.size + 1 < w4.heap.size := Nat.lt_of_lt_of_le hz0 hb4.size
    have hz1 : w.heap.size < w4.heap.size := by omega
    have ho3 := ownKeepA ho3 hb4
    clear hb4 B3
    go_wp2_with fail
    refine (HJn.out A3 c3 A4 c4 _ (flat_rowJ ho3) (flat_rowJ ho4)).mono ?_
    rintro e w5 ⟨A5, c5, rfl, HR5, hb5⟩
    have B5 := belowNext B4 hb5
    clear hb5 B4 r0 r1 s0 s1 ho3 ho4 HOa HOb HIa HIb HJn Q
    obtain ⟨ls, hls⟩ : ∃ ls, lsJ S k = ls := ⟨_, rfl⟩
    have HLs := Lib.hid hls
    rw [hls] at HR5 HTl hll
    clear hls
    go_wp2_with fail
    go_loopg [13, 14] k (fun g s13 s14 wr => ∃ i : Nat, i + g = k ∧ s14 = .int .i64 i ∧ s13 = .int .i64 (totL (ls.take i) : Int) ∧ wr = w5)
    case atStart => exact ⟨0, by omega, rfl, by simp [totL], rfl⟩
    case round =>
      obtain ⟨i, hig, rfl, rfl, rfl⟩ := hrel
      cases gk with
      | succ g =>
        have hil : i < ls.length := by omega
        obtain ⟨bS, oS, rfl, hbS, hcS⟩ := HR5.out.1.form hil
        obtain ⟨Ai, ci, x0, _⟩ := hcS i hil
        have ht := totL_take hil
        have hT1 := HTl.out (i + 1) (by omega)
        obtain ⟨len, hlen⟩ : ∃ len, (gA ls i).length = len := ⟨_, rfl⟩
        rw [hlen] at x0 ht
        have HT := Lib.hid ht
        rw [ht] at hT1
        obtain ⟨T, hT⟩ : ∃ T, totL (ls.take i) = T := ⟨_, rfl⟩
        rw [hT] at hT1 HT ⊢
        clear hcS hlen ht hT
        go_wp2
        go_roundg g
        case measure => omega
        case rel => exact ⟨i + 1, by omega, by go_num, by rw [HT.out]; go_num, rfl⟩
      | zero =>
        obtain rfl : i = k := by omega
        have htk : ls.take i = ls := List.take_of_length_le (by omega)
        rw [htk]
        clear htk hig
        have hkk : ((i : Int) > 12) = False := eq_false (by omega)
        have ht2 : totL ls ≤ 64 := by rw [← HLs.out]; exact ht
        have htt : ((totL ls : Int) > 64) = False := eq_false (by omega)
        have HIs := Lib.hid (spec7Is A5 i c5 ls wr ⟨HR5.out.1, hll, by omega, HR5.out.2, by omega⟩ 0 (by rw [← HLs.out]; exact hC))
        rw [decide_eq_true rfl] at HIs
        go_wp2_with fail
        refine HIs.out.mono ?_
        rintro e w6 ⟨rfl, hb6⟩
        have B6 := belowNext B5 hb6
        have HR6 : Hid (SetsRow w6 w6.heap.size A5 ls) := Lib.hid (HR5.out.1.next hb6)
        go_wp2
        go_ret2
        refine ⟨A5, c5, by rw [HLs.out, hll]; rfl, by rw [HLs.out]; exact HR6.out, B6⟩

def bbX (xs : List Value) (i : Nat) : Nat := match xs[i]? with
  | some (.slice (some a) _ _) => a.block
  | _ => 0
def ooX (xs : List Value) (i : Nat) : Nat := match xs[i]? with
  | some (.slice (some a) _ _) => a.off
  | _ => 0
/-- How many angles the sets have. -/
def lnG (ls : List (List (Int × Int))) (i : Nat) : Nat := (gA ls i).length
theorem cum_tot (ls : List (List (Int × Int))) : ∀ k, k ≤ ls.length → cumJ (lnG ls) k = 2 * totL (ls.take k)
  | 0, _ => by simp [cumJ, totL]
  | k + 1, h => by
    have h1 := cum_tot ls k (by omega)
    have h2 := totL_take (ls := ls) (k := k) (by omega)
    simp only [cumJ, lnG]
    omega
theorem SetsAt.sg {W : World} {lo : Nat} {A : Option Addr} {n c : Nat} {ls : List (List (Int × Int))} {xs : List Value} (h : SetsAt W lo (.slice A n c) ls xs) (hn : ls.length = n) (h0 : 0 < n) (hd : ∃ hi, DisX hi xs) : ∃ g, A = some ⟨g, 0, none⟩ ∧ SgAt W lo g 0 (bbX xs) (ooX xs) n (lnG ls) := by
  subst hn
  obtain ⟨g, c', hv, hcap⟩ := h.own.form h0
  injection hv with hA _ _
  subst hA
  have hx : ∀ i, i < ls.length → ∃ Ai ci, xs[i]? = some (.slice Ai (lnG ls i) ci) ∧ InnerS W lo (some g) Ai (gA ls i) ∧ (0 < lnG ls i → Ai = some ⟨bbX xs i, ooX xs i, none⟩) := fun i hi => by
    obtain ⟨Ai, ci, h1, h2⟩ := h.got i _ (gA_some hi)
    refine ⟨Ai, ci, h1, h2, fun hl => ?_⟩
    obtain ⟨b, off, rfl, _⟩ := h2 (by intro e; unfold lnG at hl; rw [e] at hl; simp at hl)
    unfold bbX ooX
    rw [h1]
  have hin : ∀ i, i < ls.length → 0 < lnG ls i → (lo ≤ bbX xs i ∧ bbX xs i < W.heap.size ∧ bbX xs i ≠ g) ∧ ∀ j x d, (gA ls i)[j]? = some (x, d) → W.cell? ⟨bbX xs i, ooX xs i + j * 2, none⟩ = some (.int .i64 x) ∧ W.cell? ⟨bbX xs i, ooX xs i + j * 2 + 1, none⟩ = some (.int .i64 d) ∧ W.frozen? ⟨bbX xs i, ooX xs i + j * 2, none⟩ = false ∧ W.frozen? ⟨bbX xs i, ooX xs i + j * 2 + 1, none⟩ = false := fun i hi hl => by
    obtain ⟨Ai, ci, h1, h2, h3⟩ := hx i hi
    obtain ⟨b, off, e, g1, g2, g3, g4⟩ := h2 (by intro e; unfold lnG at hl; rw [e] at hl; simp at hl)
    rw [h3 hl] at e
    injection e with e
    injection e with e1 e2 _
    subst e1
    subst e2
    exact ⟨⟨g1, g2, fun e => g3 (by rw [e])⟩, g4⟩
  refine ⟨g, rfl, (h.own.lt g rfl).1, (h.own.lt g rfl).2, fun i hi => ?_, fun i hi hl => (hin i hi hl).1, fun i j hi hj => ?_, ?_⟩
  · obtain ⟨Ai, ci, h1, _, h3⟩ := hx i hi
    refine ⟨Ai, ci, ?_, h3⟩
    have := h.own.cells (g := g) rfl i _ h1
    rw [Nat.zero_add]
    refine Eq.trans ?_ this
    cases i <;> simp [Addr.add]
  · have hl : 0 < lnG ls i := by omega
    have ht : j / 2 < (gA ls i).length := by unfold lnG at hj; omega
    obtain ⟨⟨x, d⟩, hq⟩ : ∃ q, (gA ls i)[j / 2] = q := ⟨_, rfl⟩
    have hq2 : (gA ls i)[j / 2]? = some (x, d) := by rw [List.getElem?_eq_getElem ht, hq]
    obtain ⟨c0, c1, f0, f1⟩ := (hin i hi hl).2 _ _ _ hq2
    rcases Nat.mod_two_eq_zero_or_one j with e | e
    · rw [show ooX xs i + j / 2 * 2 = ooX xs i + j by omega] at c0 f0
      exact ⟨⟨_, c0⟩, f0⟩
    · rw [show ooX xs i + j / 2 * 2 + 1 = ooX xs i + j by omega] at c1 f1
      exact ⟨⟨_, c1⟩, f1⟩
  · obtain ⟨hi', hd1, hd2⟩ := hd
    have key : ∀ i k, i < k → i < ls.length → k < ls.length → 0 < lnG ls i → 0 < lnG ls k → bbX xs i ≠ bbX xs k := fun i k hik hi hk h1 h2 e => by
      obtain ⟨Ai, ci, a1, _, a3⟩ := hx i hi
      obtain ⟨Ak, ck, b1, _, b3⟩ := hx k hk
      rw [a3 h1] at a1
      rw [b3 h2] at b1
      obtain ⟨li, e1⟩ := List.getElem?_eq_some_iff.1 a1
      obtain ⟨lk, e2⟩ := List.getElem?_eq_some_iff.1 b1
      have := (List.pairwise_iff_getElem.1 hd2) i k li lk hik (bbX xs i) (by rw [e1]; rfl)
      rw [e2, ← e] at this
      exact this rfl
    intro i k hi hk hne h1 h2
    rcases Nat.lt_or_ge i k with hlt | hge
    · exact key i k hlt hi hk h1 h2
    · exact fun e => key k i (by omega) hk hi h2 h1 e.symm

set_option maxHeartbeats 1000000 in
theorem markSO (A : Option Addr) (n cap : Nat) (ls : List (List (Int × Int))) (xs : List Value) (lo : Nat) (w : World) (h : SetsAt w lo (.slice A n cap) ls xs) (hn : ls.length = n) (hd : ∃ hi, DisX hi xs) (hm : n ≤ 1000000) (ht : cumJ (lnG ls) n ≤ 1000000) :
    Calls Try.prog 24 #[.slice A n cap, .int .i64 1] w fun e w' => e = .returned (.int .i64 (1 + (cumJ (lnG ls) n : Int))) ∧ Hid ((0 < n → MkRdJ w' A n (lnG ls)) ∧ Below lo w w' ∧ w.heap.size ≤ w'.heap.size) := by
  rcases Nat.eq_zero_or_pos n with h0 | h0
  · rw [h0]
    clear h hd hm ht
    go_enter Try.func24, Try.ntmps24
    go_wp2
    go_loopw [1, 5] (fun q i wr => i = .int .i64 0 ∧ q = .int .i64 1 ∧ wr = w) (fun _ i _ => 0)
    case atStart => exact ⟨rfl, rfl, rfl⟩
    case round =>
      obtain ⟨rfl, rfl, rfl⟩ := hrel
      go_wp2
      go_ret
      exact ⟨by simp [cumJ], Lib.hid ⟨fun h => absurd h (by omega), Below.refl _ _, Nat.le_refl _⟩⟩
  · obtain ⟨g, rfl, hs⟩ := h.sg hn h0 hd
    refine (markSg g 0 n cap (bbX xs) (ooX xs) (lnG ls) lo w hs hm ht).mono ?_
    rintro e w' ⟨rfl, H⟩
    exact ⟨rfl, Lib.hid ⟨fun _ => H.out.1.look H.out.2.1, H.out.2.2⟩⟩
theorem po_small {a b : Int × Int} {ls : List (List (Int × Int))} {c : Int} (h : PoJ a b ls c) : ls.length ≤ 12 ∧ totL ls ≤ 64 := by
  cases h with
  | sets H hne hc hs hkn hk ht hC => exact ⟨by rw [lsJ_len]; exact hk, ht⟩
  | _ => exact ⟨by simp, by simp [totL]⟩


set_option maxRecDepth 8000 in
set_option maxHeartbeats 4000000 in
theorem lawPortraitOf (n d : Int) (_ : (Lit.int .i64 n).wf = true) (_ : (Lit.int .i64 d).wf = true) (m c : Int) (_ : (Lit.int .i64 m).wf = true) (_ : (Lit.int .i64 c).wf = true) (w : World) :
    Calls Try.prog 6 #[ang n d, ang m c] w fun e w' => e = .returned (.bool true) ∧ Below w.heap.size w w' := by
  obtain ⟨ls, C, hpo⟩ := po_ex (n, d) (m, c)
  have HA := Lib.hid (fun w => specPo n d m c ls C hpo w)
  have HB := Lib.hid (fun w => implPo n d m c ls C hpo w)
  obtain ⟨hl12, ht64⟩ := po_small hpo
  have hcum := cum_tot ls ls.length (Nat.le_refl _)
  rw [List.take_length] at hcum
  obtain ⟨T, hT⟩ : ∃ T, cumJ (lnG ls) ls.length = T := ⟨_, rfl⟩
  have HT := Lib.hid hT
  have hT2 : T ≤ 128 := by omega
  obtain ⟨N, hN⟩ : ∃ N, ls.length = N := ⟨_, rfl⟩
  have HN := Lib.hid hN
  rw [hN] at HT hl12
  have HTot : Hid (totL ls ≤ 64) := Lib.hid ht64
  have HT1 : Hid (∀ w : World, Calls Try.prog 27 #[ang n d] w fun e w' => e = .returned (ang n d) ∧ Below w.heap.size w w') := Lib.hid (fun w => (toAngX n d w).mono fun e w' h => ⟨h.1, by rw [← h.2]; exact belowAlloc (belowAlloc (belowAlloc (Below.refl _ _) _) _) _⟩)
  have HT2 : Hid (∀ w : World, Calls Try.prog 27 #[ang m c] w fun e w' => e = .returned (ang m c) ∧ Below w.heap.size w w') := Lib.hid (fun w => (toAngX m c w).mono fun e w' h => ⟨h.1, by rw [← h.2]; exact belowAlloc (belowAlloc (belowAlloc (Below.refl _ _) _) _) _⟩)
  clear hpo hcum hT hN ht64
  go_enter Try.func6, Try.ntmps6
  go_wp2_with fail
  have S0 : (C4 w ⟨w.heap.size, 0, none⟩ ⟨w.heap.size, 1, none⟩ ⟨w.heap.size + 1, 0, none⟩ ⟨w.heap.size + 1, 1, none⟩ (.int .i64 n) (.int .i64 d) (.int .i64 m) (.int .i64 c)) ((w.alloc (.cells #[.int .i64 n, .int .i64 d] 23)).alloc (.cells #[.int .i64 m, .int .i64 c] 23)) := by
    refine ⟨?_, by simp <;> omega, by simp <;> omega, by simp <;> omega, by simp <;> omega, ?_, ?_, ?_, ?_⟩
    · (repeat' (first | (with_reducible exact Below.refl _ _) | (with_reducible assumption) | (with_reducible refine belowNext ?_ (by with_reducible assumption)) | (with_reducible refine belowAlloc ?_ _) | (with_reducible refine Below.drew ?_) | (with_reducible refine below_drewN ?_ _) | (with_reducible refine Below.setCell ?_ ?_ _) | go_size | (with_reducible refine sizeOf' ?_) | (with_reducible refine sizeAdd ?_) | (dsimp only; first | (with_reducible refine sizeOf' ?_) | (with_reducible refine sizeAdd ?_))))
    all_goals simp [go_sem]
  refine wp_region_held_drew (S := (C4 w ⟨w.heap.size, 0, none⟩ ⟨w.heap.size, 1, none⟩ ⟨w.heap.size + 1, 0, none⟩ ⟨w.heap.size + 1, 1, none⟩ (.int .i64 n) (.int .i64 d) (.int .i64 m) (.int .i64 c))) (by kernel_rfl) ?_ (fun hHeld => ?_)
  · exact S0.on (Below.refl _ _).drew
  refine wpAnyH_take (i := 0) (v := ?_) rfl (by kernel_rfl) (by kernel_rfl) (by kernel_rfl) (fun _ _ _ h => h) (Or.inl ⟨by kernel_rfl, ?_⟩) hHeld ?_
  rotate_left
  · intro w hSw; obtain ⟨B, z1, z2, z3, z4, x1, x2, x3, x4⟩ := hSw; first | (go_simp; done) | (go_simp; with_reducible rfl)
  refine wpAnyH_take (i := 2) (v := ?_) rfl (by kernel_rfl) (by kernel_rfl) (by kernel_rfl) (fun _ _ _ h => h) (Or.inl ⟨by kernel_rfl, ?_⟩) hHeld ?_
  rotate_left
  · intro w hSw; obtain ⟨B, z1, z2, z3, z4, x1, x2, x3, x4⟩ := hSw; first | (go_simp; done) | (go_simp; with_reducible rfl)
  refine wpAnyH_ready (rs := [1]) (by kernel_rfl) (by simp) ?_
  refine AllReadyH.cons rfl (fun K hK => ?_) AllReadyH.nil
  go_simp
  go_wp2_with fail
  refine (HT1.out _).mono ?_
  rintro e w11 ⟨rfl, hb11⟩
  have S11 := hHeld.on hb11
  refine hK.out _ _ ?_ (fun hHeld => ?_)
  · exact S11
  clear hK K
  refine wpAnyH_ready (rs := [3]) (by kernel_rfl) (by simp) ?_
  refine AllReadyH.cons rfl (fun K hK => ?_) AllReadyH.nil
  go_simp
  go_wp2_with fail
  refine (HT2.out _).mono ?_
  rintro e w12 ⟨rfl, hb12⟩
  have S12 := hHeld.on hb12
  refine hK.out _ _ ?_ (fun hHeld => ?_)
  · exact S12
  clear hK K
  refine wpAnyH_ready (rs := [4]) (by kernel_rfl) (by simp) ?_
  refine AllReadyH.cons rfl (fun K hK => ?_) AllReadyH.nil
  go_simp
  go_wp2_with fail
  refine (HA.out _).mono ?_
  rintro e w13 ⟨A, cap, rfl, ha, hb13⟩
  have S13 := hHeld.on hb13
  refine hK.out _ _ ?_ (fun hHeld => ?_)
  · exact S13
  clear hK K
  refine wpAnyH_take (i := 5) (v := ?_) rfl (by kernel_rfl) (by kernel_rfl) (by kernel_rfl) (fun _ _ _ h => h) (Or.inl ⟨by kernel_rfl, ?_⟩) hHeld ?_
  rotate_left
  · intro w hSw; obtain ⟨B, z1, z2, z3, z4, x1, x2, x3, x4⟩ := hSw; first | (go_simp; done) | (go_simp; with_reducible rfl)
  refine wpAnyH_take (i := 6) (v := ?_) rfl (by kernel_rfl) (by kernel_rfl) (by kernel_rfl) (fun _ _ _ h => h) (Or.inl ⟨by kernel_rfl, ?_⟩) hHeld ?_
  rotate_left
  · intro w hSw; obtain ⟨B, z1, z2, z3, z4, x1, x2, x3, x4⟩ := hSw; first | (go_simp; done) | (go_simp; with_reducible rfl)
  refine wpAnyH_take (i := 7) (v := ?_) rfl (by kernel_rfl) (by kernel_rfl) (by kernel_rfl) (fun _ _ _ h => h) (Or.inl ⟨by kernel_rfl, ?_⟩) hHeld ?_
  rotate_left
  · intro w hSw; obtain ⟨B, z1, z2, z3, z4, x1, x2, x3, x4⟩ := hSw; first | (go_simp; done) | (go_simp; with_reducible rfl)
  refine wpAnyH_take (i := 8) (v := ?_) rfl (by kernel_rfl) (by kernel_rfl) (by kernel_rfl) (fun _ _ _ h => h) (Or.inl ⟨by kernel_rfl, ?_⟩) hHeld ?_
  rotate_left
  · intro w hSw; obtain ⟨B, z1, z2, z3, z4, x1, x2, x3, x4⟩ := hSw; first | (go_simp; done) | (go_simp; with_reducible rfl)
  refine wpAnyH_take (i := 9) (v := ?_) rfl (by kernel_rfl) (by kernel_rfl) (by kernel_rfl) (fun _ _ _ h => h) (Or.inl ⟨by kernel_rfl, ?_⟩) hHeld ?_
  rotate_left
  · intro w hSw; obtain ⟨B, z1, z2, z3, z4, x1, x2, x3, x4⟩ := hSw; first | (go_simp; done) | (go_simp; with_reducible rfl)
  refine wpAnyH_done (by kernel_rfl) ?_ _
  have T0 := S13
  have Z13 : w.heap.size + 1 < w13.heap.size := by have := S13.z3; simpa using this
  have R := Lib.hid ha
  clear S0 hHeld S11 S12 S13 ha hb11 hb12 hb13
  rw [HN.out]
  go_wp2_with fail
  refine wp_region_held_drew (S := (C4 w ⟨w.heap.size, 0, none⟩ ⟨w.heap.size, 1, none⟩ ⟨w.heap.size + 1, 0, none⟩ ⟨w.heap.size + 1, 1, none⟩ (.int .i64 n) (.int .i64 d) (.int .i64 m) (.int .i64 c))) (by kernel_rfl) ?_ (fun hHeld => ?_)
  · exact T0.on (Below.refl _ _).drew
  refine wpAnyH_take (i := 0) (v := ?_) rfl (by kernel_rfl) (by kernel_rfl) (by kernel_rfl) (fun _ _ _ h => h) (Or.inl ⟨by kernel_rfl, ?_⟩) hHeld ?_
  rotate_left
  · intro w hSw; obtain ⟨B, z1, z2, z3, z4, x1, x2, x3, x4⟩ := hSw; first | (go_simp; done) | (go_simp; with_reducible rfl)
  refine wpAnyH_take (i := 2) (v := ?_) rfl (by kernel_rfl) (by kernel_rfl) (by kernel_rfl) (fun _ _ _ h => h) (Or.inl ⟨by kernel_rfl, ?_⟩) hHeld ?_
  rotate_left
  · intro w hSw; obtain ⟨B, z1, z2, z3, z4, x1, x2, x3, x4⟩ := hSw; first | (go_simp; done) | (go_simp; with_reducible rfl)
  refine wpAnyH_ready (rs := [1]) (by kernel_rfl) (by simp) ?_
  refine AllReadyH.cons rfl (fun K hK => ?_) AllReadyH.nil
  go_simp
  go_wp2_with fail
  refine (HT1.out _).mono ?_
  rintro e w21 ⟨rfl, hb21⟩
  have S21 := hHeld.on hb21
  refine hK.out _ _ ?_ (fun hHeld => ?_)
  · exact S21
  clear hK K
  refine wpAnyH_ready (rs := [3]) (by kernel_rfl) (by simp) ?_
  refine AllReadyH.cons rfl (fun K hK => ?_) AllReadyH.nil
  go_simp
  go_wp2_with fail
  refine (HT2.out _).mono ?_
  rintro e w22 ⟨rfl, hb22⟩
  have S22 := hHeld.on hb22
  refine hK.out _ _ ?_ (fun hHeld => ?_)
  · exact S22
  clear hK K
  refine wpAnyH_ready (rs := [4]) (by kernel_rfl) (by simp) ?_
  refine AllReadyH.cons rfl (fun K hK => ?_) AllReadyH.nil
  go_simp
  go_wp2_with fail
  refine (HB.out _).mono ?_
  rintro e w23 ⟨A', cap', xs, rfl, ⟨hat, hdis⟩, hb23⟩
  have S23 := hHeld.on hb23
  refine hK.out _ _ ?_ (fun hHeld => ?_)
  · exact S23
  clear hK K
  refine wpAnyH_take (i := 5) (v := ?_) rfl (by kernel_rfl) (by kernel_rfl) (by kernel_rfl) (fun _ _ _ h => h) (Or.inl ⟨by kernel_rfl, ?_⟩) hHeld ?_
  rotate_left
  · intro w hSw; obtain ⟨B, z1, z2, z3, z4, x1, x2, x3, x4⟩ := hSw; first | (go_simp; done) | (go_simp; with_reducible rfl)
  refine wpAnyH_take (i := 6) (v := ?_) rfl (by kernel_rfl) (by kernel_rfl) (by kernel_rfl) (fun _ _ _ h => h) (Or.inl ⟨by kernel_rfl, ?_⟩) hHeld ?_
  rotate_left
  · intro w hSw; obtain ⟨B, z1, z2, z3, z4, x1, x2, x3, x4⟩ := hSw; first | (go_simp; done) | (go_simp; with_reducible rfl)
  refine wpAnyH_take (i := 7) (v := ?_) rfl (by kernel_rfl) (by kernel_rfl) (by kernel_rfl) (fun _ _ _ h => h) (Or.inl ⟨by kernel_rfl, ?_⟩) hHeld ?_
  rotate_left
  · intro w hSw; obtain ⟨B, z1, z2, z3, z4, x1, x2, x3, x4⟩ := hSw; first | (go_simp; done) | (go_simp; with_reducible rfl)
  refine wpAnyH_take (i := 8) (v := ?_) rfl (by kernel_rfl) (by kernel_rfl) (by kernel_rfl) (fun _ _ _ h => h) (Or.inl ⟨by kernel_rfl, ?_⟩) hHeld ?_
  rotate_left
  · intro w hSw; obtain ⟨B, z1, z2, z3, z4, x1, x2, x3, x4⟩ := hSw; first | (go_simp; done) | (go_simp; with_reducible rfl)
  refine wpAnyH_take (i := 9) (v := ?_) rfl (by kernel_rfl) (by kernel_rfl) (by kernel_rfl) (fun _ _ _ h => h) (Or.inl ⟨by kernel_rfl, ?_⟩) hHeld ?_
  rotate_left
  · intro w hSw; obtain ⟨B, z1, z2, z3, z4, x1, x2, x3, x4⟩ := hSw; first | (go_simp; done) | (go_simp; with_reducible rfl)
  refine wpAnyH_done (by kernel_rfl) ?_ _
  have B24 : Below w13.heap.size w13 w23 := by
    (repeat' (first | (with_reducible exact Below.refl _ _) | (with_reducible assumption) | (with_reducible refine belowNext ?_ (by with_reducible assumption)) | (with_reducible refine belowAlloc ?_ _) | (with_reducible refine Below.drew ?_) | (with_reducible refine below_drewN ?_ _) | (with_reducible refine Below.setCell ?_ ?_ _) | go_size | (with_reducible refine sizeOf' ?_) | (with_reducible refine sizeAdd ?_) | (dsimp only; first | (with_reducible refine sizeOf' ?_) | (with_reducible refine sizeAdd ?_))))
  have hlo : w13.heap.size ≤ w22.heap.size := by have h1 := hb21.size; have h2 := hb22.size; exact Nat.le_trans h1 h2
  have T1 := S23
  have R4 := Lib.hid (R.out.below B24)
  have Rs4 := Lib.hid (R4.out.more B24.size)
  have Q4 := Lib.hid hat
  have HD := Lib.hid hdis
  clear hHeld S21 S22 S23 T0 hb21 hb22 hb23 hat hdis
  rw [HN.out] at Q4 ⊢
  go_wp2_with fail
  refine (eqSets _ _ _ _ _ ls _ (Q4.out.row HN.out) Rs4.out HN.out (by have := HTot.out; omega)).mono ?_
  rintro e w5 ⟨rfl, hb5⟩
  have T5 := T1.on hb5
  have R5 := Lib.hid (R4.out.below (hb5.mono B24.size))
  have Q5 := Lib.hid (Q4.out.next hb5)
  have B25 : Below w13.heap.size w13 w5 := belowNext B24 hb5
  clear T1 hb5 B24
  go_wp2_with fail
  refine (markSO _ _ _ ls xs _ _ Q5.out HN.out HD.out (by omega) (by rw [HT.out]; omega)).mono ?_
  rintro e w6 ⟨rfl, H6⟩
  rw [HT.out]
  have b6 : Below w13.heap.size w5 w6 := H6.out.2.1.mono hlo
  have R6 := Lib.hid (R5.out.below b6)
  have Q6 := Lib.hid H6.out.1
  have B26 : Below w13.heap.size w13 w6 := B25.trans b6
  have T6 : (C4 w ⟨w.heap.size, 0, none⟩ ⟨w.heap.size, 1, none⟩ ⟨w.heap.size + 1, 0, none⟩ ⟨w.heap.size + 1, 1, none⟩ (.int .i64 n) (.int .i64 d) (.int .i64 m) (.int .i64 c)) w6 := by
    obtain ⟨B, z1, z2, z3, z4, x1, x2, x3, x4⟩ := T5
    have hs := H6.out.2.2
    have hz : w.heap.size + 1 < w13.heap.size := Z13
    exact ⟨B.trans (b6.mono (by omega)), by simp at z1 ⊢; omega, by simp at z2 ⊢; omega, by simp at z3 ⊢; omega, by simp at z4 ⊢; omega, (b6.cell (p := ⟨w.heap.size, 0, none⟩) (by show w.heap.size < _; omega)).trans x1, (b6.cell (p := ⟨w.heap.size, 1, none⟩) (by show w.heap.size < _; omega)).trans x2, (b6.cell (p := ⟨w.heap.size + 1, 0, none⟩) hz).trans x3, (b6.cell (p := ⟨w.heap.size + 1, 1, none⟩) hz).trans x4⟩
  have nn : (1 + (T : Int) < 0) = False := by simp; omega
  clear b6 H6 T5 B25
  go_wp2_with fail
  refine (heldSg _ _ _ (lnG ls) _ Q6.out (by omega) (by rw [HT.out]; omega)).mono ?_
  rintro e w7 ⟨rfl, rfl⟩
  rw [HT.out]
  go_wp2_with fail
  refine wp_region_held_drew (S := (C4 w ⟨w.heap.size, 0, none⟩ ⟨w.heap.size, 1, none⟩ ⟨w.heap.size + 1, 0, none⟩ ⟨w.heap.size + 1, 1, none⟩ (.int .i64 n) (.int .i64 d) (.int .i64 m) (.int .i64 c))) (by kernel_rfl) ?_ (fun hHeld => ?_)
  · exact T6.on (Below.refl _ _).drew
  refine wpAnyH_take (i := 0) (v := ?_) rfl (by kernel_rfl) (by kernel_rfl) (by kernel_rfl) (fun _ _ _ h => h) (Or.inl ⟨by kernel_rfl, ?_⟩) hHeld ?_
  rotate_left
  · intro w hSw; obtain ⟨B, z1, z2, z3, z4, x1, x2, x3, x4⟩ := hSw; first | (go_simp; done) | (go_simp; with_reducible rfl)
  refine wpAnyH_take (i := 2) (v := ?_) rfl (by kernel_rfl) (by kernel_rfl) (by kernel_rfl) (fun _ _ _ h => h) (Or.inl ⟨by kernel_rfl, ?_⟩) hHeld ?_
  rotate_left
  · intro w hSw; obtain ⟨B, z1, z2, z3, z4, x1, x2, x3, x4⟩ := hSw; first | (go_simp; done) | (go_simp; with_reducible rfl)
  refine wpAnyH_ready (rs := [1]) (by kernel_rfl) (by simp) ?_
  refine AllReadyH.cons rfl (fun K hK => ?_) AllReadyH.nil
  go_simp
  go_wp2_with fail
  refine (HT1.out _).mono ?_
  rintro e w31 ⟨rfl, hb31⟩
  have S31 := hHeld.on hb31
  refine hK.out _ _ ?_ (fun hHeld => ?_)
  · exact S31
  clear hK K
  refine wpAnyH_ready (rs := [3]) (by kernel_rfl) (by simp) ?_
  refine AllReadyH.cons rfl (fun K hK => ?_) AllReadyH.nil
  go_simp
  go_wp2_with fail
  refine (HT2.out _).mono ?_
  rintro e w32 ⟨rfl, hb32⟩
  have S32 := hHeld.on hb32
  refine hK.out _ _ ?_ (fun hHeld => ?_)
  · exact S32
  clear hK K
  refine wpAnyH_ready (rs := [4]) (by kernel_rfl) (by simp) ?_
  refine AllReadyH.cons rfl (fun K hK => ?_) AllReadyH.nil
  go_simp
  go_wp2_with fail
  refine (HB.out _).mono ?_
  rintro e w33 ⟨A'', cap'', xs2, rfl, ⟨hat2, _⟩, hb33⟩
  have S33 := hHeld.on hb33
  refine hK.out _ _ ?_ (fun hHeld => ?_)
  · exact S33
  clear hK K
  refine wpAnyH_take (i := 5) (v := ?_) rfl (by kernel_rfl) (by kernel_rfl) (by kernel_rfl) (fun _ _ _ h => h) (Or.inl ⟨by kernel_rfl, ?_⟩) hHeld ?_
  rotate_left
  · intro w hSw; obtain ⟨B, z1, z2, z3, z4, x1, x2, x3, x4⟩ := hSw; first | (go_simp; done) | (go_simp; with_reducible rfl)
  refine wpAnyH_take (i := 6) (v := ?_) rfl (by kernel_rfl) (by kernel_rfl) (by kernel_rfl) (fun _ _ _ h => h) (Or.inl ⟨by kernel_rfl, ?_⟩) hHeld ?_
  rotate_left
  · intro w hSw; obtain ⟨B, z1, z2, z3, z4, x1, x2, x3, x4⟩ := hSw; first | (go_simp; done) | (go_simp; with_reducible rfl)
  refine wpAnyH_take (i := 7) (v := ?_) rfl (by kernel_rfl) (by kernel_rfl) (by kernel_rfl) (fun _ _ _ h => h) (Or.inl ⟨by kernel_rfl, ?_⟩) hHeld ?_
  rotate_left
  · intro w hSw; obtain ⟨B, z1, z2, z3, z4, x1, x2, x3, x4⟩ := hSw; first | (go_simp; done) | (go_simp; with_reducible rfl)
  refine wpAnyH_take (i := 8) (v := ?_) rfl (by kernel_rfl) (by kernel_rfl) (by kernel_rfl) (fun _ _ _ h => h) (Or.inl ⟨by kernel_rfl, ?_⟩) hHeld ?_
  rotate_left
  · intro w hSw; obtain ⟨B, z1, z2, z3, z4, x1, x2, x3, x4⟩ := hSw; first | (go_simp; done) | (go_simp; with_reducible rfl)
  refine wpAnyH_take (i := 9) (v := ?_) rfl (by kernel_rfl) (by kernel_rfl) (by kernel_rfl) (fun _ _ _ h => h) (Or.inl ⟨by kernel_rfl, ?_⟩) hHeld ?_
  rotate_left
  · intro w hSw; obtain ⟨B, z1, z2, z3, z4, x1, x2, x3, x4⟩ := hSw; first | (go_simp; done) | (go_simp; with_reducible rfl)
  refine wpAnyH_done (by kernel_rfl) ?_ _
  have B69 : Below w6.heap.size w6 w33 := by
    (repeat' (first | (with_reducible exact Below.refl _ _) | (with_reducible assumption) | (with_reducible refine belowNext ?_ (by with_reducible assumption)) | (with_reducible refine belowAlloc ?_ _) | (with_reducible refine Below.drew ?_) | (with_reducible refine below_drewN ?_ _) | (with_reducible refine Below.setCell ?_ ?_ _) | go_size | (with_reducible refine sizeOf' ?_) | (with_reducible refine sizeAdd ?_) | (dsimp only; first | (with_reducible refine sizeOf' ?_) | (with_reducible refine sizeAdd ?_))))
  have T9 := S33
  have B29 : Below w13.heap.size w13 w33 := belowNext B26 B69
  have R9 := Lib.hid ((R6.out.below (B69.mono B26.size)).more B29.size)
  have Q9 : Hid (0 < N → MkRdJ w33 A' N (lnG ls)) := Lib.hid (fun h => (Q6.out h).next B69)
  have P9 := Lib.hid hat2
  clear hHeld S31 S32 S33 T6 hb31 hb32 hb33 hat2
  rw [HN.out] at P9 ⊢
  go_wp2_with fail
  refine (eqSets _ _ _ _ _ ls _ (P9.out.row HN.out) R9.out HN.out (by have := HTot.out; omega)).mono ?_
  rintro e w10 ⟨rfl, hb10⟩
  have Q10 : Hid (0 < N → MkRdJ w10 A' N (lnG ls)) := Lib.hid (fun h => (Q9.out h).next hb10)
  go_wp2_with fail
  refine (heldSg _ _ _ (lnG ls) _ Q10.out (by omega) (by rw [HT.out]; omega)).mono ?_
  rintro e w11 ⟨rfl, rfl⟩
  rw [HT.out]
  have BW := T9.B
  clear T9
  go_wp2
  go_ret
  exact ⟨rfl, belowNext BW hb10⟩
end Go.Proofs.Ytdmppdfncbljoaa

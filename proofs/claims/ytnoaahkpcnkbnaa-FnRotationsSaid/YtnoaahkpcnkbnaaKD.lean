/-
  Contracts: lists of numbers that are equal; condition 4, on the program's side; written by genK6.py.
  Contracts: whether sets are linked, on the program's side; written by genK7.py.
  The conditions of a portrait as the program and as the model ask them (plain mathematics).
  Contracts: whether a set is linked with another one (the model's); written by genK9.py.
  Contracts: the first condition that fails (the model's); written by genK10.py.
-/
import Derived.Test.YtnoaahkpcnkbnaaKB
import Derived.Test.YtnoaahkpcnkbnaaW24
import Derived.Test.YtnoaahkpcnkbnaaKA
namespace Go.Proofs.Ytnoaahkpcnkbnaa
open Go.RowKit

def nA (l : List Int) (i : Nat) : Int := l.getD i 0
theorem nA_some {l : List Int} {i : Nat} (h : i < l.length) : l[i]? = some (nA l i) := by
  unfold nA
  rw [List.getD_eq_getElem?_getD, List.getElem?_eq_getElem h]
  rfl
theorem list_nA {l m : List Int} (hl : l.length = m.length) (h : ∀ i, i < l.length → nA l i = nA m i) : l = m := by
  refine List.ext_getElem hl fun i h1 h2 => ?_
  have e := h i h1
  have a := nA_some h1
  have b := nA_some h2
  rw [List.getElem?_eq_getElem h1] at a
  rw [List.getElem?_eq_getElem h2] at b
  injection a with a
  injection b with b
  rw [a, b, e]

set_option maxHeartbeats 2000000 in
theorem implEqualI (A : Option Addr) (len cap : Nat) (l : List Int) (B : Option Addr) (len2 cap2 : Nat) (m : List Int) (w : World) (hr : IntRow w w.heap.size A l) (hl : l.length = len) (hm : len ≤ 1000000000) (hr2 : IntRow w w.heap.size B m) (hl2 : m.length = len2) :
    Calls Try.prog 58 #[.slice A len cap, .slice B len2 cap2] w (ResYesQ w (l = m)) := by
  have HR := Lib.hid hr
  have HR2 := Lib.hid hr2
  have HL := Lib.hid hl
  have HL2 := Lib.hid hl2
  clear hr hl hr2 hl2
  by_cases he : len = len2
  · subst he
    go_enter Try.func58, Try.ntmps58
    go_wp2_with fail
    go_loopg [5, 13] len (fun g _ i wr => ∃ k : Nat, k + g = len ∧ i = .int .i64 k ∧ Hid (∀ j, j < k → nA l j = nA m j) ∧ ∃ q, wr = w.drewN q)
    case atStart => exact ⟨0, by omega, rfl, Lib.hid (fun j h => absurd h (by omega)), 0, rfl⟩
    case round =>
      obtain ⟨k, hkg, rfl, HY, q, rfl⟩ := hrel
      cases gk with
      | zero =>
        obtain rfl : k = len := by omega
        have HQ : Hid (l = m) := Lib.hid (list_nA (by rw [HL.out, HL2.out]) (fun i hi => HY.out i (by have := HL.out; omega)))
        clear hkg
        go_wp2
        go_ret
        exact ⟨⟨true, rfl, Lib.hid ⟨fun _ => HQ.out, fun _ => rfl⟩⟩, by (repeat' (first | (with_reducible exact Below.refl _ _) | (with_reducible assumption) | (with_reducible refine belowNext ?_ (by with_reducible assumption)) | (with_reducible refine belowAlloc ?_ _) | (with_reducible refine Below.drew ?_) | (with_reducible refine below_drewN ?_ _) | (with_reducible refine Below.setCell ?_ ?_ _) | go_size | (with_reducible refine sizeOf' ?_) | (with_reducible refine sizeAdd ?_) | (dsimp only; first | (with_reducible refine sizeOf' ?_) | (with_reducible refine sizeAdd ?_))))⟩
      | succ g =>
        have hkl : k < l.length := by have := HL.out; omega
        have hkm : k < m.length := by have := HL2.out; omega
        have hkn : k < len := by omega
        obtain ⟨b, off, rfl, hbb, hc⟩ := HR.out (by rintro rfl; simp at hkl)
        obtain ⟨b2, off2, rfl, hbb2, hc2⟩ := HR2.out (by rintro rfl; simp at hkm)
        have x0 := hc k _ (nA_some hkl)
        have y0 := hc2 k _ (nA_some hkm)
        have HKG := Lib.hid hkg
        clear hc hc2 hkg
        by_cases hq : nA l k = nA m k
        · have HQ := Lib.hid hq
          rw [← hq] at y0
          clear hq hkl hkm
          obtain ⟨x, hx⟩ : ∃ x, nA l k = x := ⟨_, rfl⟩
          rw [hx] at x0 y0
          clear hx
          go_wp2_with fail
          go_quiet (fail)
          go_wp2
          go_roundg g
          case measure => omega
          case rel =>
            refine ⟨k + 1, by have := HKG.out; omega, by go_num, Lib.hid (fun j hj => ?_), _, rfl⟩
            by_cases e : j = k
            · subst e; exact HQ.out
            · exact HY.out j (by omega)
        · have HNo : Hid (¬ l = m) := Lib.hid (fun e => hq (by rw [e]))
          have q1 : (nA l k == nA m k) = false := beq_eq_false_iff_ne.2 hq
          clear hkl hkm
          generalize nA l k = x at *
          generalize nA m k = y at *
          go_wp2_with fail
          go_quiet (fail)
          go_wp2
          go_ret
          exact ⟨⟨false, rfl, Lib.hid ⟨fun h => (by cases h), fun h => absurd h HNo.out⟩⟩, by (repeat' (first | (with_reducible exact Below.refl _ _) | (with_reducible assumption) | (with_reducible refine belowNext ?_ (by with_reducible assumption)) | (with_reducible refine belowAlloc ?_ _) | (with_reducible refine Below.drew ?_) | (with_reducible refine below_drewN ?_ _) | (with_reducible refine Below.setCell ?_ ?_ _) | go_size | (with_reducible refine sizeOf' ?_) | (with_reducible refine sizeAdd ?_) | (dsimp only; first | (with_reducible refine sizeOf' ?_) | (with_reducible refine sizeAdd ?_))))⟩
  · have d1 : ((len : Int) == (len2 : Int)) = false := by simp; omega
    have d2 : ¬ (len : Int) = (len2 : Int) := by omega
    have HNo : Hid (¬ l = m) := Lib.hid (fun e => he (by rw [← HL.out, ← HL2.out, e]))
    go_enter Try.func58, Try.ntmps58
    go_wp2
    go_ret
    exact ⟨⟨false, rfl, Lib.hid ⟨fun h => (by cases h), fun h => absurd h HNo.out⟩⟩, Below.refl _ _⟩

/-- The period of an angle with the preperiod 0. -/
def perQ (x : Int × Int) : Option Nat := match findOrb x 65 0 with | some k => if pre x = 0 then some k else none | none => none
/-- All angles have the preperiod 0 and the same period. -/
def SamP (ls : List (List (Int × Int))) : Prop := ∃ k, ∀ i j, i < ls.length → j < (gA ls i).length → perQ (cA (gA ls i) j) = some k
/-- What the program asks of an angle: F: the periods of the first one. -/
def AskP (F : List Int) (x : Int × Int) : Prop := ∃ k, perQ x = some k ∧ pL x.1 x.2 = F
theorem per_pL {x : Int × Int} {k : Nat} (ha : isAng x.1 x.2 = true) (h : perQ x = some k) : pL x.1 x.2 = [0, (k : Int)] ∧ oC x.1 x.2 = 0 := by
  obtain ⟨n, d⟩ := x
  unfold perQ at h
  unfold pL oC
  dsimp only at *
  rw [ha]
  cases hf : findOrb (n, d) 65 0 with
  | none => rw [hf] at h; cases h
  | some m =>
    rw [hf] at h
    dsimp only at h
    by_cases hp : pre (n, d) = 0
    · rw [if_pos hp] at h
      injection h with h
      subst h
      simp [hp]
    · rw [if_neg hp] at h; cases h
theorem per_no {x : Int × Int} (ha : isAng x.1 x.2 = true) (h : perQ x = none) : (pL x.1 x.2 = [] ∧ oC x.1 x.2 = 3) ∨ (oC x.1 x.2 = 0 ∧ ∃ (P : Nat) (k : Int), pL x.1 x.2 = [(P : Int), k] ∧ P ≠ 0) := by
  obtain ⟨n, d⟩ := x
  unfold perQ at h
  unfold pL oC
  dsimp only at *
  rw [ha]
  cases hf : findOrb (n, d) 65 0 with
  | none => exact .inl ⟨rfl, rfl⟩
  | some m =>
    rw [hf] at h
    dsimp only at h
    by_cases hp : pre (n, d) = 0
    · rw [if_pos hp] at h; cases h
    · exact .inr ⟨rfl, pre (n, d), _, rfl, hp⟩
theorem same_iff {ls : List (List (Int × Int))} (ha : ∀ l ∈ ls, allAng l = true) (h0 : 0 < ls.length) (h1 : 0 < (gA ls 0).length) :
    (∀ i j, i < ls.length → j < (gA ls i).length → AskP (pL (cA (gA ls 0) 0).1 (cA (gA ls 0) 0).2) (cA (gA ls i) j)) ↔ SamP ls := by
  have hang : ∀ i j, i < ls.length → j < (gA ls i).length → isAng (cA (gA ls i) j).1 (cA (gA ls i) j).2 = true := fun i j hi hj => cA_ang (ha _ (gA_mem hi)) hj
  constructor
  · intro h
    obtain ⟨k, hk, -⟩ := h 0 0 h0 h1
    refine ⟨k, fun i j hi hj => ?_⟩
    obtain ⟨m, hm, e⟩ := h i j hi hj
    rw [(per_pL (hang i j hi hj) hm).1, (per_pL (hang 0 0 h0 h1) hk).1] at e
    have : (m : Int) = (k : Int) := by simpa using e
    rw [hm]
    congr 1
    omega
  · rintro ⟨k, h⟩ i j hi hj
    refine ⟨k, h i j hi hj, ?_⟩
    rw [(per_pL (hang i j hi hj) (h i j hi hj)).1, (per_pL (hang 0 0 h0 h1) (h 0 0 h0 h1)).1]

set_option maxRecDepth 8000 in
set_option maxHeartbeats 4000000 in
theorem implOnePer (A : Option Addr) (n cap : Nat) (ls : List (List (Int × Int))) (w : World) (hr : SetsRow w w.heap.size A ls) (hn : ls.length = n) (hm : n ≤ 1100000) (ht : totL ls ≤ 900000) (ha : ∀ l ∈ ls, allAng l = true) (h0 : ∀ l ∈ ls, 0 < l.length) (hn0 : 0 < n) :
    Calls Try.prog 51 #[.slice A n cap] w (ResYesQ w (SamP ls)) := by
  have hl0 : 0 < ls.length := by omega
  have hl1 := h0 _ (gA_mem hl0)
  have HSame := Lib.hid (same_iff ha hl0 hl1)
  obtain ⟨b, off, rfl, hbb, hc⟩ := hr.form hl0
  obtain ⟨A0, c0, x0, hrow⟩ := hc 0 hl0
  rw [Nat.add_zero] at x0
  obtain ⟨b0, o0, rfl, hb0, hc0⟩ := hrow (by intro e; rw [e] at hl1; simp at hl1)
  obtain ⟨u0, u1⟩ := hc0 0 _ _ (cA_some hl1)
  rw [Nat.zero_mul, Nat.add_zero] at u0 u1
  have HP0 := Lib.hid (fun w => implPeriodsOf (cA (gA ls 0) 0).1 (cA (gA ls 0) 0).2 w)
  have hn0I : (0 : Int) < (n : Int) := by omega
  obtain ⟨l0, hl0e⟩ : ∃ l0, (gA ls 0).length = l0 := ⟨_, rfl⟩
  rw [hl0e] at x0 hl1
  have hl1I : (0 : Int) < (l0 : Int) := by omega
  obtain ⟨F, hF⟩ : ∃ F, pL (cA (gA ls 0) 0).1 (cA (gA ls 0) 0).2 = F := ⟨_, rfl⟩
  rw [hF] at HSame HP0
  have HR := Lib.hid hr
  have HN := Lib.hid hn
  have HTt := Lib.hid ht
  have HAll := Lib.hid ha
  clear hr hn ht ha h0 hF hl0e hc0 hrow hc hl0
  generalize oC (cA (gA ls 0) 0).1 (cA (gA ls 0) 0).2 = C0 at *
  generalize (cA (gA ls 0) 0).1 = p0 at *
  generalize (cA (gA ls 0) 0).2 = q0 at *
  go_enter Try.func51, Try.ntmps51
  go_wp2_with fail
  refine (HP0.out _).mono ?_
  rintro e w1 ⟨AF, cF, rfl, hoF, hb1⟩
  have HF1 := Lib.hid hoF.row
  have HB1 := Lib.hid hb1
  have HR1 := Lib.hid (HR.out.next hb1)
  clear hoF hb1 x0 u0 u1 HP0 hbb hb0
  go_wp2_with fail
  go_loopg [6, 8, 9, 10, 22] n (fun g _ _ _ _ i wr => ∃ k : Nat, k + g = n ∧ i = .int .i64 k ∧ Hid (∀ i j, i < k → j < (gA ls i).length → AskP F (cA (gA ls i) j)) ∧ Hid (Below w1.heap.size w1 wr))
  case atStart => exact ⟨0, by omega, rfl, Lib.hid (fun i j h => absurd h (by omega)), Lib.hid (Below.refl _ _)⟩
  case round =>
    obtain ⟨k, hkg, rfl, HY, HB⟩ := hrel
    cases gk with
    | zero =>
      obtain rfl : k = n := by omega
      have HQ : Hid (SamP ls) := Lib.hid (HSame.out.1 (fun i j hi hj => HY.out i j (by have := HN.out; omega) hj))
      clear hkg
      go_wp2
      go_ret
      exact ⟨⟨true, rfl, Lib.hid ⟨fun _ => HQ.out, fun _ => rfl⟩⟩, belowNext HB1.out HB.out⟩
    | succ g =>
      have hkl : k < ls.length := by have := HN.out; omega
      have hkn : k < n := by omega
      obtain ⟨bb, oo, hA, hbb, hc⟩ := HR1.out.form hkl
      obtain ⟨rfl, rfl⟩ : b = bb ∧ off = oo := by simpa using hA
      obtain ⟨Ai, ci, x0, hrow⟩ := hc k hkl
      have x0 := cellThru HB.out hbb x0
      have hbw : b < wr.heap.size := Nat.lt_of_lt_of_le hbb HB.out.size
      have hle := len_tot hkl
      have hTt := HTt.out
      have HRow := Lib.hid hrow
      obtain ⟨len, hlen⟩ : ∃ len, (gA ls k).length = len := ⟨_, rfl⟩
      rw [hlen] at x0 hle
      have HLn := Lib.hid hlen
      have hlm : len ≤ 1100000 := by omega
      have HKG := Lib.hid hkg
      have HAk := Lib.hid (HAll.out _ (gA_mem hkl))
      clear hc hrow hlen hle hTt hkg hA
      go_wp2
      go_loopg [8, 9, 10, 28] len (fun g5 _ _ _ i wx => ∃ j : Nat, j + g5 = len ∧ i = .int .i64 j ∧ Hid (∀ j', j' < j → AskP F (cA (gA ls k) j')) ∧ Hid (Below w1.heap.size w1 wx))
      case atStart => exact ⟨0, by omega, rfl, Lib.hid (fun j' h => absurd h (by omega)), HB⟩
      case round =>
        clear HB x0 hbw
        obtain ⟨j, hjg, rfl, HZ, HB⟩ := hrel
        cases gk with
        | zero =>
          obtain rfl : j = len := by omega
          have HY2 : Hid (∀ i j, i < k + 1 → j < (gA ls i).length → AskP F (cA (gA ls i) j)) := Lib.hid (fun i j' h1 h2 => by
            by_cases e : i = k
            · subst e; exact HZ.out j' (by have := HLn.out; omega)
            · exact HY.out i j' (by omega) h2)
          clear hjg
          go_wp2
          go_roundg g
          case measure => omega
          case rel => exact ⟨k + 1, by have := HKG.out; omega, by go_num, HY2, HB⟩
        | succ g5 =>
          have hjl : j < (gA ls k).length := by have := HLn.out; omega
          have hjn : j < len := by omega
          obtain ⟨b1, o1, rfl, hb1, hc1⟩ := HRow.out (by intro h; rw [h] at hjl; simp at hjl)
          obtain ⟨u0, u1⟩ := hc1 j _ _ (cA_some hjl)
          have u0 := cellThru HB.out hb1 u0
          have u1 := cellThru HB.out hb1 u1
          have hb1w : b1 < wr.heap.size := Nat.lt_of_lt_of_le hb1 HB.out.size
          have hp := cA_ang HAk.out hjl
          have HPx := Lib.hid (fun w => implPeriodsOf (cA (gA ls k) j).1 (cA (gA ls k) j).2 w)
          have HJG := Lib.hid hjg
          have HNoS : Hid (¬ AskP F (cA (gA ls k) j) → ¬ SamP ls) := Lib.hid (fun h g => h (HSame.out.2 g k j hkl hjl))
          clear hc1 hjg hkl hjl
          cases hq : perQ (cA (gA ls k) j) with
          | none =>
            have HNo := Lib.hid (HNoS.out (fun ⟨m, h, _⟩ => by rw [hq] at h; cases h))
            rcases per_no hp hq with ⟨e1, e2⟩ | ⟨e2, P, m, e1, hP⟩
            · rw [e1, e2] at HPx
              clear hp hq e1 e2
              generalize (cA (gA ls k) j).1 = p at *
              generalize (cA (gA ls k) j).2 = q at *
              go_wp2_with fail
              refine (HPx.out _).mono ?_
              rintro e w2 ⟨A2, c2, rfl, ho2, hb2⟩
              have HB2 : Hid (Below w1.heap.size w1 w2) := Lib.hid (belowNext HB.out (by (repeat' (first | (with_reducible exact Below.refl _ _) | (with_reducible assumption) | (with_reducible refine belowNext ?_ (by with_reducible assumption)) | (with_reducible refine belowAlloc ?_ _) | (with_reducible refine Below.drew ?_) | (with_reducible refine below_drewN ?_ _) | (with_reducible refine Below.setCell ?_ ?_ _) | go_size | (with_reducible refine sizeOf' ?_) | (with_reducible refine sizeAdd ?_) | (dsimp only; first | (with_reducible refine sizeOf' ?_) | (with_reducible refine sizeAdd ?_))))))
              clear ho2 hb2 u0 u1 HB
              go_wp2
              go_ret
              exact ⟨⟨false, rfl, Lib.hid ⟨fun h => (by cases h), fun h => absurd h HNo.out⟩⟩, belowNext HB1.out HB2.out⟩
            · rw [e1, e2] at HPx
              clear hp hq e1 e2
              generalize (cA (gA ls k) j).1 = p at *
              generalize (cA (gA ls k) j).2 = q at *
              go_wp2_with fail
              refine (HPx.out _).mono ?_
              rintro e w2 ⟨A2, c2, rfl, ho2, hb2⟩
              have HB2 : Hid (Below w1.heap.size w1 w2) := Lib.hid (belowNext HB.out (by (repeat' (first | (with_reducible exact Below.refl _ _) | (with_reducible assumption) | (with_reducible refine belowNext ?_ (by with_reducible assumption)) | (with_reducible refine belowAlloc ?_ _) | (with_reducible refine Below.drew ?_) | (with_reducible refine below_drewN ?_ _) | (with_reducible refine Below.setCell ?_ ?_ _) | go_size | (with_reducible refine sizeOf' ?_) | (with_reducible refine sizeAdd ?_) | (dsimp only; first | (with_reducible refine sizeOf' ?_) | (with_reducible refine sizeAdd ?_))))))
              obtain ⟨b3, o3, rfl, hb3, hc3⟩ := ho2.row (by simp)
              have v0 := hc3 0 _ rfl
              rw [Nat.add_zero] at v0
              have dP : ((P : Int) == 0) = false := by simp; omega
              have dP' : ¬ (P : Int) = 0 := by omega
              clear ho2 hb2 u0 u1 HB hc3
              go_wp2
              go_ret
              exact ⟨⟨false, rfl, Lib.hid ⟨fun h => (by cases h), fun h => absurd h HNo.out⟩⟩, belowNext HB1.out HB2.out⟩
          | some m =>
            obtain ⟨e1, e2⟩ := per_pL hp hq
            have HAsk : Hid ([0, (m : Int)] = F → AskP F (cA (gA ls k) j)) := Lib.hid (fun h => ⟨m, hq, by rw [e1, h]⟩)
            have HNo : Hid (¬ [0, (m : Int)] = F → ¬ SamP ls) := Lib.hid (fun h => HNoS.out (fun ⟨m', h1, h2⟩ => h (by rw [← h2, e1])))
            rw [e1, e2] at HPx
            clear hp hq e1 e2
            obtain ⟨x, hx⟩ : ∃ x, cA (gA ls k) j = x := ⟨_, rfl⟩
            have HX := Lib.hid hx
            rw [hx] at HPx u0 u1 HAsk
            clear hx
            obtain ⟨p, q⟩ := x
            go_wp2_with fail
            refine (HPx.out _).mono ?_
            rintro e w2 ⟨A2, c2, rfl, ho2, hb2⟩
            have HB2 : Hid (Below w1.heap.size w1 w2) := Lib.hid (belowNext HB.out (by (repeat' (first | (with_reducible exact Below.refl _ _) | (with_reducible assumption) | (with_reducible refine belowNext ?_ (by with_reducible assumption)) | (with_reducible refine belowAlloc ?_ _) | (with_reducible refine Below.drew ?_) | (with_reducible refine below_drewN ?_ _) | (with_reducible refine Below.setCell ?_ ?_ _) | go_size | (with_reducible refine sizeOf' ?_) | (with_reducible refine sizeAdd ?_) | (dsimp only; first | (with_reducible refine sizeOf' ?_) | (with_reducible refine sizeAdd ?_))))))
            obtain ⟨b3, o3, rfl, hb3, hc3⟩ := ho2.row (by simp)
            have v0 := hc3 0 _ rfl
            rw [Nat.add_zero] at v0
            have HE := Lib.hid (implEqualI (some ⟨b3, o3, none⟩) 2 c2 [0, (m : Int)] AF F.length cF F w2 ho2.row rfl (by omega) ((HF1.out.below HB2.out).more HB2.out.size) rfl)
            clear ho2 hb2 u0 u1 HB hc3
            go_wp2_with fail
            refine HE.out.mono ?_
            rintro e w3 ⟨⟨r, rfl, HRs⟩, hb4⟩
            have HB3 : Hid (Below w1.heap.size w1 w3) := Lib.hid (belowNext HB2.out hb4)
            clear hb4 HB2 v0 HE
            cases r
            · have HN2 := Lib.hid (HNo.out (fun h => by have := HRs.out.2 h; cases this))
              go_wp2
              go_ret
              exact ⟨⟨false, rfl, Lib.hid ⟨fun h => (by cases h), fun h => absurd h HN2.out⟩⟩, belowNext HB1.out HB3.out⟩
            · have HA2 := Lib.hid (HAsk.out (HRs.out.1 rfl))
              go_wp2
              go_roundg g5
              case measure => omega
              case rel =>
                refine ⟨j + 1, by have := HJG.out; omega, by go_num, Lib.hid (fun j' h => ?_), HB3⟩
                by_cases e : j' = j
                · subst e; rw [HX.out]; exact HA2.out
                · exact HZ.out j' (by omega)

/-- x is in the arc of l that begins at its angle with the number i. -/
def arcQ (l : List (Int × Int)) (i : Nat) (x : Int × Int) : Bool := arcB x.1 x.2 (cA l i).1 (cA l i).2 (cA l ((i + 1) % l.length)).1 (cA l ((i + 1) % l.length)).2
/-- All of m are in one arc of l. -/
def InA (l m : List (Int × Int)) : Prop := ∃ u, u < l.length ∧ ∀ j, j < m.length → arcQ l u (cA m j) = true
/-- Condition 5, as the program asks it. -/
def UnA (ls : List (List (Int × Int))) : Prop := ∀ i k, k < i → i < ls.length → InA (gA ls i) (gA ls k)

set_option maxHeartbeats 2000000 in
theorem implBehind (A : Option Addr) (len cap : Nat) (l : List (Int × Int)) (i : Nat) (w : World) (hr : AngRow w w.heap.size A l) (hl : l.length = len) (hi : i < len) (hm : len ≤ 1100000) :
    Calls Try.prog 60 #[.slice A len cap, .int .i64 i] w fun e w' => e = .returned (ang (cA l ((i + 1) % l.length)).1 (cA l ((i + 1) % l.length)).2) ∧ Below w.heap.size w w' := by
  obtain ⟨hm1, hm2, hjn⟩ := remQ (a := i + 1) (n := len) (by omega)
  rw [hl]
  obtain ⟨j, hj⟩ : ∃ j, (i + 1) % len = j := ⟨_, rfl⟩
  rw [hj] at hm1 hm2 hjn ⊢
  have hm1 : ((i : Int) + 1).tmod (len : Int) = (j : Int) := hm1
  have hm2 : ((i : Int) + 1) % (len : Int) = (j : Int) := hm2
  have hjI : (j : Int) < (len : Int) := by omega
  have hwj : IntKind.i64.wrap (j : Int) = (j : Int) := IntWalk.i64_in _ (by omega)
  have hw1 : IntKind.i64.wrap ((i : Int) + 1) = (i : Int) + 1 := IntWalk.i64_in _ (by omega)
  have hln : ¬ (len : Int) = 0 := by omega
  have hln' : ¬ len = 0 := by omega
  have hjl : j < l.length := by omega
  obtain ⟨b, off, rfl, hbb, hc⟩ := hr (by rintro rfl; simp at hjl)
  obtain ⟨x0, x1⟩ := hc j _ _ (cA_some hjl)
  clear hj hr hl hc hjl
  generalize (cA l j).1 = n at *
  generalize (cA l j).2 = d at *
  go_enter Try.func60, Try.ntmps60
  go_wp2
  refine bodyPost_ret (v := ang n d) (by simp [results, Try.results60, go_sem]) rfl ⟨rfl, ?_⟩
  (repeat' (first | (with_reducible exact Below.refl _ _) | (with_reducible assumption) | (with_reducible refine belowNext ?_ (by with_reducible assumption)) | (with_reducible refine belowAlloc ?_ _) | (with_reducible refine Below.drew ?_) | (with_reducible refine below_drewN ?_ _) | (with_reducible refine Below.setCell ?_ ?_ _) | go_size | (with_reducible refine sizeOf' ?_) | (with_reducible refine sizeAdd ?_) | (dsimp only; first | (with_reducible refine sizeOf' ?_) | (with_reducible refine sizeAdd ?_))))

set_option maxRecDepth 8000 in
set_option maxHeartbeats 4000000 in
theorem implUnlinked (A : Option Addr) (n cap : Nat) (ls : List (List (Int × Int))) (w : World) (hr : SetsRow w w.heap.size A ls) (hn : ls.length = n) (hm : n ≤ 1100000) (hcap : n ≤ cap) (ht : totL ls ≤ 900000) (ha : ∀ l ∈ ls, allAng l = true) :
    Calls Try.prog 52 #[.slice A n cap] w (ResYesQ w (UnA ls)) := by
  have HR := Lib.hid hr
  have HN := Lib.hid hn
  have HTt := Lib.hid ht
  have HAll := Lib.hid ha
  clear hr hn ht ha
  go_enter Try.func52, Try.ntmps52
  go_wp2
  go_loopg [3, 4, 6, 7, 8, 10, 13] n (fun g _ _ _ _ _ _ ix wr => ∃ i : Nat, i + g = n ∧ ix = .int .i64 i ∧ Hid (∀ i' k, i' < i → k < i' → InA (gA ls i') (gA ls k)) ∧ Hid (Below w.heap.size w wr))
  case atStart => exact ⟨0, by omega, rfl, Lib.hid (fun i' k h => absurd h (by omega)), Lib.hid (Below.refl _ _)⟩
  case round =>
    obtain ⟨i, hig, rfl, HY, HB⟩ := hrel
    cases gk with
    | zero =>
      obtain rfl : i = n := by omega
      have HQ : Hid (UnA ls) := Lib.hid (fun i' k h1 h2 => HY.out i' k (by have := HN.out; omega) h1)
      clear hig
      go_wp2
      go_ret
      exact ⟨⟨true, rfl, Lib.hid ⟨fun _ => HQ.out, fun _ => rfl⟩⟩, HB.out⟩
    | succ g =>
      have hil : i < ls.length := by have := HN.out; omega
      have hin : i < n := by omega
      have hic : i ≤ cap := by omega
      obtain ⟨b, off, rfl, hbb, hc⟩ := HR.out.form hil
      obtain ⟨Ai, ci, x0, hrow⟩ := hc i hil
      have HX0 := Lib.hid x0
      have HRow := Lib.hid hrow
      have HCs := Lib.hid hc
      have HAi := Lib.hid (HAll.out _ (gA_mem hil))
      have hle := len_tot hil
      have hTt := HTt.out
      have y0 := cellThru HB.out hbb HX0.out
      obtain ⟨len, hlen⟩ : ∃ len, (gA ls i).length = len := ⟨_, rfl⟩
      rw [hlen] at y0 hle
      have HLn := Lib.hid hlen
      have hlm : len ≤ 1100000 := by omega
      have HIG := Lib.hid hig
      clear hc hrow hlen hle hTt hig x0
      go_wp2
      go_step3
      go_wp2_with fail
      go_step3
      go_wp2_with fail
      go_loopg [6, 7, 8, 10, 22] i (fun g _ _ _ _ kx wx => ∃ k : Nat, k + g = i ∧ kx = .int .i64 k ∧ Hid (∀ k', k' < k → InA (gA ls i) (gA ls k')) ∧ Hid (Below w.heap.size w wx))
      case atStart => exact ⟨0, by omega, rfl, Lib.hid (fun k' h => absurd h (by omega)), HB⟩
      case round =>
        clear HB y0
        obtain ⟨k, hkg, rfl, HZ, HB⟩ := hrel
        cases gk with
        | zero =>
          obtain rfl : k = i := by omega
          have HY2 : Hid (∀ i' k', i' < k + 1 → k' < i' → InA (gA ls i') (gA ls k')) := Lib.hid (fun i' k' h1 h2 => by
            by_cases e : i' = k
            · subst e; exact HZ.out k' h2
            · exact HY.out i' k' (by omega) h2)
          clear hkg
          go_wp2
          rw [Exit.noGoto_normal]
          go_wp2
          go_roundg g
          case measure => omega
          case rel => exact ⟨k + 1, by have := HIG.out; omega, by go_num, HY2, HB⟩
        | succ g2 =>
          have hkl : k < ls.length := by omega
          have hki : k < i := by omega
          obtain ⟨Ak, ck, x1, hrow2⟩ := HCs.out k hkl
          have x1 := cellThru HB.out hbb x1
          have hbw : b < wr.heap.size := Nat.lt_of_lt_of_le hbb HB.out.size
          have hle2 := len_tot hkl
          have hTt := HTt.out
          have HRow2 := Lib.hid hrow2
          have HAk := Lib.hid (HAll.out _ (gA_mem hkl))
          have HNoU : Hid (¬ InA (gA ls i) (gA ls k) → ¬ UnA ls) := Lib.hid (fun h g => h (g i k hki hil))
          obtain ⟨len2, hlen2⟩ : ∃ len, (gA ls k).length = len := ⟨_, rfl⟩
          rw [hlen2] at x1 hle2
          have HLn2 := Lib.hid hlen2
          have hlm2 : len2 ≤ 1100000 := by omega
          have HKG := Lib.hid hkg
          clear hrow2 hlen2 hle2 hTt hkg
          go_wp2
          go_step3
          go_wp2_with fail
          go_step3
          go_wp2_with fail
          go_loopg [7, 8, 10, 28] len (fun g _ _ _ ux wx => ∃ u : Nat, u + g = len ∧ ux = .int .i64 u ∧ Hid (∀ u', u' < u → ¬ ∀ j, j < (gA ls k).length → arcQ (gA ls i) u' (cA (gA ls k) j) = true) ∧ Hid (Below w.heap.size w wx))
          case atStart => exact ⟨0, by omega, rfl, Lib.hid (fun u' h => absurd h (by omega)), HB⟩
          case round =>
            clear HB x1 hbw
            obtain ⟨u, hug, rfl, HU, HB⟩ := hrel
            cases gk with
            | zero =>
              obtain rfl : u = len := by omega
              have HNo := Lib.hid (HNoU.out (fun ⟨u', h1, h2⟩ => HU.out u' (by have := HLn.out; omega) h2))
              clear hug
              go_wp2
              rw [Exit.noGoto_ret]
              go_wp2
              rw [Exit.noGoto_ret]
              go_wp2
              go_ret
              exact ⟨⟨false, rfl, Lib.hid ⟨fun h => (by cases h), fun h => absurd h HNo.out⟩⟩, HB.out⟩
            | succ g3 =>
              have hul : u < (gA ls i).length := by have := HLn.out; omega
              have hun : u < len := by omega
              obtain ⟨b1, o1, rfl, hb1, hc1⟩ := HRow.out (by intro h; rw [h] at hul; simp at hul)
              obtain ⟨f0, f1⟩ := hc1 u _ _ (cA_some hul)
              have f0 := cellThru HB.out hb1 f0
              have f1 := cellThru HB.out hb1 f1
              have hb1w : b1 < wr.heap.size := Nat.lt_of_lt_of_le hb1 HB.out.size
              have HBe := Lib.hid (fun W (hB : Below w.heap.size w W) => implBehind (some ⟨b1, o1, none⟩) len ci (gA ls i) u W ((HRow.out.below hB).more hB.size) HLn.out hun hlm)
              have HUG := Lib.hid hug
              have hap := isAng_ok (cA_ang HAi.out hul)
              have hbp := isAng_ok (cA_ang HAi.out (Nat.mod_lt (u + 1) (show 0 < (gA ls i).length by omega)))
              have HArc : Hid (∀ x, arcQ (gA ls i) u x = arcB x.1 x.2 (cA (gA ls i) u).1 (cA (gA ls i) u).2 (cA (gA ls i) ((u + 1) % (gA ls i).length)).1 (cA (gA ls i) ((u + 1) % (gA ls i).length)).2) := Lib.hid (fun x => rfl)
              clear hc1 hug hul
              generalize (cA (gA ls i) u).1 = a at *
              generalize (cA (gA ls i) u).2 = a' at *
              generalize (cA (gA ls i) ((u + 1) % (gA ls i).length)).1 = c at *
              generalize (cA (gA ls i) ((u + 1) % (gA ls i).length)).2 = c' at *
              go_wp2_with fail
              have HF0 : Hid (Below w.heap.size w (wr.alloc (.cells #[.int .i64 a, .int .i64 a'] 32)) ∧ wr.heap.size < (wr.alloc (.cells #[.int .i64 a, .int .i64 a'] 32)).heap.size ∧ (wr.alloc (.cells #[.int .i64 a, .int .i64 a'] 32)).cell? ⟨wr.heap.size, 0, none⟩ = some (.int .i64 a) ∧ (wr.alloc (.cells #[.int .i64 a, .int .i64 a'] 32)).cell? ⟨wr.heap.size, 1, none⟩ = some (.int .i64 a')) := Lib.hid ⟨belowAlloc HB.out _, by simp, by simp [go_sem], by simp [go_sem]⟩
              generalize wr.alloc (.cells #[.int .i64 a, .int .i64 a'] 32) = w8 at *
              generalize wr.heap.size = G8 at *
              clear HB f0 f1 hb1w
              go_loopg [10, 35] len2 (fun g _ jx wx => ∃ j : Nat, j + g = len2 ∧ jx = .int .i64 j ∧ Hid (∀ j', j' < j → arcQ (gA ls i) u (cA (gA ls k) j') = true) ∧ Hid (Below w.heap.size w wx ∧ G8 < wx.heap.size ∧ wx.cell? ⟨G8, 0, none⟩ = some (.int .i64 a) ∧ wx.cell? ⟨G8, 1, none⟩ = some (.int .i64 a')))
              case atStart => exact ⟨0, by omega, rfl, Lib.hid (fun j' h => absurd h (by omega)), HF0⟩
              case round =>
                clear HF0
                obtain ⟨j, hjg, rfl, HV, HF⟩ := hrel
                cases gk with
                | zero =>
                  obtain rfl : j = len2 := by omega
                  have HZ2 : Hid (∀ k', k' < k + 1 → InA (gA ls i) (gA ls k')) := Lib.hid (fun k' h => by
                    by_cases e : k' = k
                    · subst e; exact ⟨u, by have := HLn.out; omega, fun j' h' => HV.out j' (by have := HLn2.out; omega)⟩
                    · exact HZ.out k' (by omega))
                  have HB9 := Lib.hid HF.out.1
                  clear hjg HF
                  go_wp2
                  rw [Exit.noGoto_exit]
                  go_wp2
                  go_roundg g2
                  case measure => omega
                  case rel => exact ⟨k + 1, by have := HKG.out; omega, by go_num, HZ2, HB9⟩
                | succ g4 =>
                  have hjl : j < (gA ls k).length := by have := HLn2.out; omega
                  have hjn : j < len2 := by omega
                  obtain ⟨b2, o2, rfl, hb2, hc2⟩ := HRow2.out (by intro h; rw [h] at hjl; simp at hjl)
                  obtain ⟨e0, e1⟩ := hc2 j _ _ (cA_some hjl)
                  have e0 := cellThru HF.out.1 hb2 e0
                  have e1 := cellThru HF.out.1 hb2 e1
                  have hb2w : b2 < wr.heap.size := Nat.lt_of_lt_of_le hb2 HF.out.1.size
                  have hxp := isAng_ok (cA_ang HAk.out hjl)
                  have HIs := Lib.hid (fun w => implArc (cA (gA ls k) j).1 (cA (gA ls k) j).2 a a' c c' w hxp hap hbp)
                  have HAj := Lib.hid (HArc.out (cA (gA ls k) j))
                  have HNoA : Hid (arcQ (gA ls i) u (cA (gA ls k) j) = false → ¬ ∀ j, j < (gA ls k).length → arcQ (gA ls i) u (cA (gA ls k) j) = true) := Lib.hid (fun h g => by rw [g j hjl] at h; cases h)
                  have HJG := Lib.hid hjg
                  clear hc2 hjg hjl hxp
                  generalize (cA (gA ls k) j).1 = x at *
                  generalize (cA (gA ls k) j).2 = x' at *
                  have S0 : C4 w ⟨G8, 0, none⟩ ⟨G8, 1, none⟩ ⟨wr.heap.size, 0, none⟩ ⟨wr.heap.size, 1, none⟩ (.int .i64 a) (.int .i64 a') (.int .i64 x) (.int .i64 x') (wr.alloc (.cells #[.int .i64 x, .int .i64 x'] 32)) :=
                    ⟨belowAlloc HF.out.1 _, by have := HF.out.2.1; simp; omega, by have := HF.out.2.1; simp; omega, by simp, by simp, cellThru (belowAlloc (Below.refl _ _) _) HF.out.2.1 HF.out.2.2.1, cellThru (belowAlloc (Below.refl _ _) _) HF.out.2.1 HF.out.2.2.2, by simp [go_sem], by simp [go_sem]⟩
                  obtain ⟨G9, hG9⟩ : ∃ g, wr.heap.size = g := ⟨_, rfl⟩
                  have HG9 := Lib.hid hG9
                  rw [hG9] at S0
                  clear hG9
                  obtain ⟨tt, htt⟩ : ∃ tt, arcB x x' a a' c c' = tt := ⟨_, rfl⟩
                  rw [htt] at HIs HAj
                  clear htt
                  cases tt
                  · have HN2 := Lib.hid (HNoA.out HAj.out)
                    go_wp2_with fail
                    rw [HG9.out]
                    refine wp_region_held_drew (S := (C4 w ⟨G8, 0, none⟩ ⟨G8, 1, none⟩ ⟨G9, 0, none⟩ ⟨G9, 1, none⟩ (.int .i64 a) (.int .i64 a') (.int .i64 x) (.int .i64 x'))) (by kernel_rfl) ?_ (fun hHeld => ?_)
                    · exact S0.on (Below.refl _ _).drew
                    refine wpAnyH_take (i := 0) (v := ?_) rfl (by kernel_rfl) (by kernel_rfl) (by kernel_rfl) (fun _ _ _ h => h) (Or.inl ⟨by kernel_rfl, ?_⟩) hHeld ?_
                    rotate_left
                    · intro w hSw; obtain ⟨B, z1, z2, z3, z4, x1, x2, x3, x4⟩ := hSw; first | (go_simp; done) | (go_simp; with_reducible rfl)
                    refine wpAnyH_take (i := 1) (v := ?_) rfl (by kernel_rfl) (by kernel_rfl) (by kernel_rfl) (fun _ _ _ h => h) (Or.inl ⟨by kernel_rfl, ?_⟩) hHeld ?_
                    rotate_left
                    · intro w hSw; obtain ⟨B, z1, z2, z3, z4, x1, x2, x3, x4⟩ := hSw; first | (go_simp; done) | (go_simp; with_reducible rfl)
                    refine wpAnyH_take (i := 2) (v := ?_) rfl (by kernel_rfl) (by kernel_rfl) (by kernel_rfl) (fun _ _ _ h => h) (Or.inl ⟨by kernel_rfl, ?_⟩) hHeld ?_
                    rotate_left
                    · intro w hSw; obtain ⟨B, z1, z2, z3, z4, x1, x2, x3, x4⟩ := hSw; first | (go_simp; done) | (go_simp; with_reducible rfl)
                    refine wpAnyH_take (i := 3) (v := ?_) rfl (by kernel_rfl) (by kernel_rfl) (by kernel_rfl) (fun _ _ _ h => h) (Or.inl ⟨by kernel_rfl, ?_⟩) hHeld ?_
                    rotate_left
                    · intro w hSw; obtain ⟨B, z1, z2, z3, z4, x1, x2, x3, x4⟩ := hSw; first | (go_simp; done) | (go_simp; with_reducible rfl)
                    refine wpAnyH_ready (rs := [4]) (by kernel_rfl) (by simp) ?_
                    refine AllReadyH.cons rfl (fun K hK => ?_) AllReadyH.nil
                    go_simp
                    go_wp2_with (go_at_call 60; (with_reducible refine (HBe.out _ hHeld.B).mono ?_); rintro e w11 ⟨rfl, hb11⟩)
                    have S1 := hHeld.on hb11
                    refine hK.out _ _ ?_ (fun hHeld => ?_)
                    · exact S1
                    clear hK K
                    refine wpAnyH_ready (rs := [5]) (by kernel_rfl) (by simp) ?_
                    refine AllReadyH.cons rfl (fun K hK => ?_) AllReadyH.nil
                    go_simp
                    go_wp2_with (go_at_call 59; (with_reducible refine (HIs.out _).mono ?_); rintro e w12 ⟨rfl, hb12⟩)
                    have S2 := S1.on hb12
                    refine hK.out _ _ ?_ (fun hHeld => ?_)
                    · exact S2
                    clear hK K
                    refine wpAnyH_take (i := 6) (v := ?_) rfl (by kernel_rfl) (by kernel_rfl) (by kernel_rfl) (fun _ _ _ h => h) (Or.inl ⟨by kernel_rfl, ?_⟩) hHeld ?_
                    rotate_left
                    · intro w hSw; obtain ⟨B, z1, z2, z3, z4, x1, x2, x3, x4⟩ := hSw; first | (go_simp; done) | (go_simp; with_reducible rfl)
                    refine wpAnyH_done (by kernel_rfl) ?_ _
                    have HB5 := Lib.hid S2.B
                    clear S0 S1 S2
                    go_wp2
                    go_roundg g3
                    case measure => omega
                    case rel => exact ⟨u + 1, by have := HUG.out; omega, by go_num, Lib.hid (fun u' h => by
                      by_cases e : u' = u
                      · subst e; exact HN2.out
                      · exact HU.out u' (by omega)), HB5⟩
                  · go_wp2_with fail
                    rw [HG9.out]
                    refine wp_region_held_drew (S := (C4 w ⟨G8, 0, none⟩ ⟨G8, 1, none⟩ ⟨G9, 0, none⟩ ⟨G9, 1, none⟩ (.int .i64 a) (.int .i64 a') (.int .i64 x) (.int .i64 x'))) (by kernel_rfl) ?_ (fun hHeld => ?_)
                    · exact S0.on (Below.refl _ _).drew
                    refine wpAnyH_take (i := 0) (v := ?_) rfl (by kernel_rfl) (by kernel_rfl) (by kernel_rfl) (fun _ _ _ h => h) (Or.inl ⟨by kernel_rfl, ?_⟩) hHeld ?_
                    rotate_left
                    · intro w hSw; obtain ⟨B, z1, z2, z3, z4, x1, x2, x3, x4⟩ := hSw; first | (go_simp; done) | (go_simp; with_reducible rfl)
                    refine wpAnyH_take (i := 1) (v := ?_) rfl (by kernel_rfl) (by kernel_rfl) (by kernel_rfl) (fun _ _ _ h => h) (Or.inl ⟨by kernel_rfl, ?_⟩) hHeld ?_
                    rotate_left
                    · intro w hSw; obtain ⟨B, z1, z2, z3, z4, x1, x2, x3, x4⟩ := hSw; first | (go_simp; done) | (go_simp; with_reducible rfl)
                    refine wpAnyH_take (i := 2) (v := ?_) rfl (by kernel_rfl) (by kernel_rfl) (by kernel_rfl) (fun _ _ _ h => h) (Or.inl ⟨by kernel_rfl, ?_⟩) hHeld ?_
                    rotate_left
                    · intro w hSw; obtain ⟨B, z1, z2, z3, z4, x1, x2, x3, x4⟩ := hSw; first | (go_simp; done) | (go_simp; with_reducible rfl)
                    refine wpAnyH_take (i := 3) (v := ?_) rfl (by kernel_rfl) (by kernel_rfl) (by kernel_rfl) (fun _ _ _ h => h) (Or.inl ⟨by kernel_rfl, ?_⟩) hHeld ?_
                    rotate_left
                    · intro w hSw; obtain ⟨B, z1, z2, z3, z4, x1, x2, x3, x4⟩ := hSw; first | (go_simp; done) | (go_simp; with_reducible rfl)
                    refine wpAnyH_ready (rs := [4]) (by kernel_rfl) (by simp) ?_
                    refine AllReadyH.cons rfl (fun K hK => ?_) AllReadyH.nil
                    go_simp
                    go_wp2_with (go_at_call 60; (with_reducible refine (HBe.out _ hHeld.B).mono ?_); rintro e w11 ⟨rfl, hb11⟩)
                    have S1 := hHeld.on hb11
                    refine hK.out _ _ ?_ (fun hHeld => ?_)
                    · exact S1
                    clear hK K
                    refine wpAnyH_ready (rs := [5]) (by kernel_rfl) (by simp) ?_
                    refine AllReadyH.cons rfl (fun K hK => ?_) AllReadyH.nil
                    go_simp
                    go_wp2_with (go_at_call 59; (with_reducible refine (HIs.out _).mono ?_); rintro e w12 ⟨rfl, hb12⟩)
                    have S2 := S1.on hb12
                    refine hK.out _ _ ?_ (fun hHeld => ?_)
                    · exact S2
                    clear hK K
                    refine wpAnyH_take (i := 6) (v := ?_) rfl (by kernel_rfl) (by kernel_rfl) (by kernel_rfl) (fun _ _ _ h => h) (Or.inl ⟨by kernel_rfl, ?_⟩) hHeld ?_
                    rotate_left
                    · intro w hSw; obtain ⟨B, z1, z2, z3, z4, x1, x2, x3, x4⟩ := hSw; first | (go_simp; done) | (go_simp; with_reducible rfl)
                    refine wpAnyH_done (by kernel_rfl) ?_ _
                    have HF5 := Lib.hid (And.intro S2.B (And.intro S2.z1 (And.intro S2.x1 S2.x2)))
                    clear S0 S1 S2
                    go_wp2
                    go_roundg g4
                    case measure => omega
                    case rel => exact ⟨j + 1, by have := HJG.out; omega, by go_num, Lib.hid (fun j' h => by
                      by_cases e : j' = j
                      · subst e; exact HAj.out
                      · exact HV.out j' (by omega)), HF5⟩

theorem pigeon : ∀ (n : Nat) (f : Nat → Nat), (∀ i, i < n → f i < n) → (∀ i j, i < j → j < n → f i ≠ f j) → ∀ q, q < n → ∃ i, i < n ∧ f i = q
  | 0, _, _, _, q, hq => by omega
  | n + 1, f, h1, h2, q, hq => by
    have hne : ∀ i, i < n → f i ≠ f n := fun i hi => h2 i n hi (by omega)
    have hb := h1 n (by omega)
    have ih := pigeon n (fun i => if f i = n then f n else f i) (fun i hi => by
      try dsimp only
      have a := h1 i (by omega)
      have b := hne i hi
      split <;> omega) (fun i j hij hj => by
      try dsimp only
      have a := h2 i j hij (by omega)
      have b := hne i (by omega)
      have c := hne j hj
      split <;> split <;> omega)
    by_cases hqn : q = n
    · by_cases ha : f n = n
      · exact ⟨n, by omega, by omega⟩
      · obtain ⟨i, hi, e⟩ := ih (f n) (by omega)
        try dsimp only at e
        have c := hne i hi
        by_cases hf : f i = n
        · exact ⟨i, by omega, by omega⟩
        · rw [if_neg hf] at e; exact absurd e c
    · obtain ⟨i, hi, e⟩ := ih q (by omega)
      try dsimp only at e
      by_cases hf : f i = n
      · rw [if_pos hf] at e; exact ⟨n, by omega, e⟩
      · rw [if_neg hf] at e; exact ⟨i, by omega, e⟩
/-- As many members as a list without repetition with the same members: no repetition. -/
theorem nodup_len {l r : List (Int × Int)} (hr : r.Nodup) (hl : r.length = l.length) (hm : ∀ x ∈ r, x ∈ l) : l.Nodup := by
  have hs := pigeon l.length (fun i => plc l (cA r i)) (fun i hi => plc_mem.2 (hm _ (cA_mem (by omega)))) (fun i j hij hj e => by
    have h1 := plc_get (plc_mem.2 (hm _ (cA_mem (l := r) (i := i) (by omega))))
    have h2 := plc_get (plc_mem.2 (hm _ (cA_mem (l := r) (i := j) (by omega))))
    try dsimp only at e
    rw [e, h2] at h1
    have a := plc_at hr (i := i) (by omega)
    have b := plc_at hr (i := j) (by omega)
    rw [← h1] at a
    omega)
  refine List.pairwise_iff_getElem.2 fun p q hp hq hpq e => ?_
  obtain ⟨i, hi, h⟩ := hs q hq
  try dsimp only at h
  have h1 := plc_get (l := l) (p := cA r i) (by omega)
  rw [h] at h1
  have h2 := plc_lt (l := l) (p := cA r i) (j := p) (by omega)
  rw [cA_of (List.getElem?_eq_getElem hp), e, ← cA_of (List.getElem?_eq_getElem hq)] at h2
  exact h2 h1

/-- Condition 2 and condition 3, as the model asks them. -/
def LdP (ls : List (List (Int × Int))) : Prop := ∀ i, i < ls.length → LedP (gA ls i) (nxA ls i)
def OdP (ls : List (List (Int × Int))) : Prop := ∀ i, i < ls.length → OrdP (gA ls i) (nxA ls i)
theorem led_db {s t : List (Int × Int)} (hs : allAng s = true) (ht : allAng t = true) (ha : AscQ t) (h : LedP s t) : insAll (dblL s) = t := by
  obtain ⟨h1, h2, h3⟩ := h
  have hA := asc_A ht ha
  refine (ascA_uniq _ _ hA (insAll_asc (dblL_ang hs)) fun q => ?_).symm
  rw [insAll_mem]
  constructor
  · intro hq
    obtain ⟨u, hu, e⟩ := List.getElem_of_mem hq
    obtain ⟨i, hi, h⟩ := pigeon t.length (fun i => plc t (dA s i)) (fun i hi => h1 i (by omega)) (fun i j hij hj => h2 i j hij (by omega)) u hu
    try dsimp only at h
    have g := plc_get (h1 i (by omega))
    rw [h, cA_of (List.getElem?_eq_getElem hu), e] at g
    rw [g]
    exact List.mem_of_getElem? (dblL_at (by omega))
  · intro hq
    obtain ⟨i, hi, e⟩ := List.getElem_of_mem hq
    have hi' : i < s.length := by rw [dblL_len] at hi; exact hi
    have e2 := dblL_at hi'
    rw [List.getElem?_eq_getElem hi, e] at e2
    injection e2 with e2
    rw [e2]
    exact plc_mem.1 (h1 i hi')
theorem db_led {s t : List (Int × Int)} (hs : allAng s = true) (hl : s.length = t.length) (h : insAll (dblL s) = t) : LedP s t := by
  have hr := asc_nodup (insAll_asc (dblL_ang hs))
  have hn : (dblL s).Nodup := nodup_len hr (by rw [h, dblL_len, hl]) (fun x hx => (insAll_mem _ _).1 hx)
  rw [h] at hr
  have hmem : ∀ i, i < s.length → dA s i ∈ t := fun i hi => by
    rw [← h, insAll_mem]
    exact List.mem_of_getElem? (dblL_at hi)
  refine ⟨fun i hi => plc_mem.2 (hmem i hi), fun i j hij hj e => ?_, hl⟩
  have g1 := plc_get (plc_mem.2 (hmem i (by omega)))
  have g2 := plc_get (plc_mem.2 (hmem j hj))
  rw [e, g2] at g1
  have a := dblL_at (l := s) (k := i) (by omega)
  have b := dblL_at (l := s) (k := j) hj
  have hi' : i < (dblL s).length := by rw [dblL_len]; omega
  have hj' : j < (dblL s).length := by rw [dblL_len]; omega
  rw [List.getElem?_eq_getElem hi'] at a
  rw [List.getElem?_eq_getElem hj'] at b
  injection a with a
  injection b with b
  exact (List.pairwise_iff_getElem.1 hn) i j hi' hj' hij (by rw [a, b, g1])
theorem cycQ {n : Nat} {L : Nat → Nat} (h : ∀ i, i < n → L ((i + 1) % n) ≤ L i) : ∀ i, i < n → L i = L 0 := by
  have up : ∀ i, i < n → L i ≤ L 0 := by
    intro i
    induction i with
    | zero => intro _; exact Nat.le_refl _
    | succ i ih =>
      intro hi
      have := h i (by omega)
      rw [Nat.mod_eq_of_lt hi] at this
      have := ih (by omega)
      omega
  have down : ∀ d i, i + d + 1 = n → L 0 ≤ L i := by
    intro d
    induction d with
    | zero =>
      intro i hi
      have := h i (by omega)
      rw [show i + 1 = n by omega, Nat.mod_self] at this
      exact this
    | succ d ih =>
      intro i hi
      have a := h i (by omega)
      rw [Nat.mod_eq_of_lt (by omega)] at a
      have b := ih (i + 1) (by omega)
      omega
  intro i hi
  have a := up i hi
  have b := down (n - i - 1) i (by omega)
  omega
theorem nx_mem {ls : List (List (Int × Int))} {i : Nat} (hi : i < ls.length) : nxA ls i ∈ ls := gA_mem (Nat.mod_lt _ (by omega))
theorem db_iff {ls : List (List (Int × Int))} (ha : ∀ l ∈ ls, allAng l = true) (hs : ∀ l ∈ ls, AscQ l) : DbP ls ↔ LdP ls := by
  constructor
  · intro h i hi
    have hlen : ∀ i, i < ls.length → (gA ls ((i + 1) % ls.length)).length ≤ (gA ls i).length := fun i hi => by
      have := h i hi
      have e : (nxA ls i).length ≤ (gA ls i).length := by
        rw [← this]
        exact Nat.le_trans (insAll_len _) (by rw [dblL_len]; exact Nat.le_refl _)
      exact e
    have hc := cycQ (L := fun i => (gA ls i).length) hlen
    refine db_led (ha _ (gA_mem hi)) ?_ (h i hi)
    have a := hc i hi
    have b := hc ((i + 1) % ls.length) (Nat.mod_lt _ (by omega))
    try dsimp only at a b
    unfold nxA
    omega
  · intro h i hi
    exact led_db (ha _ (gA_mem hi)) (ha _ (nx_mem hi)) (hs _ (nx_mem hi)) (h i hi)
theorem tn_iff {ls : List (List (Int × Int))} (ha : ∀ l ∈ ls, allAng l = true) (hs : ∀ l ∈ ls, AscQ l) (h0 : ∀ l ∈ ls, 0 < l.length) (h : LdP ls) : TnP ls ↔ OdP ls := by
  have key : ∀ i, i < ls.length → ((∃ t, Turned (gA ls i) (nxA ls i) t) ↔ OrdP (gA ls i) (nxA ls i)) := fun i hi =>
    (turned_led (asc_nodup (asc_A (ha _ (nx_mem hi)) (hs _ (nx_mem hi)))) (h i hi).2.2 (h0 _ (gA_mem hi))).trans ⟨fun g => g.2, fun g => ⟨h i hi, g⟩⟩
  exact ⟨fun g i hi => (key i hi).1 (g i hi), fun g i hi => (key i hi).2 (g i hi)⟩

/-- The angles of s are in more than one arc of o. -/
def LinkA (s o : List (Int × Int)) : Prop := o.length ≠ 1 ∧ ∃ i, i < o.length ∧ (∃ j, j < s.length ∧ arcQ o i (cA s j) = true) ∧ ∃ j, j < s.length ∧ arcQ o i (cA s j) = false
/-- Condition 5, as the model asks it. -/
def UnL (ls : List (List (Int × Int))) : Prop := ∀ i k, i < ls.length → k < ls.length → i ≠ k → ¬ LinkA (gA ls i) (gA ls k)
theorem arcQ_iff {K : Int × Int → Int} (hK : ∀ x y : Int × Int, isAng x.1 x.2 = true → isAng y.1 y.2 = true → (lessA x y = true ↔ K x < K y)) {l : List (Int × Int)} (ha : allAng l = true) {i : Nat} (hi : i < l.length) {x : Int × Int} (hx : isAng x.1 x.2 = true) :
    arcQ l i x = true ↔ arcI (fun i => K (cA l i)) l.length i (K x) := by
  have h1 := cA_ang ha hi
  have h2 := cA_ang ha (Nat.mod_lt (i + 1) (show 0 < l.length by omega))
  unfold arcQ arcI arcB
  dsimp only
  have e1 : ltA (cA l i).1 (cA l i).2 (cA l ((i + 1) % l.length)).1 (cA l ((i + 1) % l.length)).2 = lessA (cA l i) (cA l ((i + 1) % l.length)) := rfl
  have e2 : ltA (cA l i).1 (cA l i).2 x.1 x.2 = lessA (cA l i) x := rfl
  have e3 : ltA x.1 x.2 (cA l ((i + 1) % l.length)).1 (cA l ((i + 1) % l.length)).2 = lessA x (cA l ((i + 1) % l.length)) := rfl
  rw [e1, e2, e3]
  have k1 := hK _ _ h1 h2
  have k2 := hK _ _ h1 hx
  have k3 := hK _ _ hx h2
  by_cases h : K (cA l i) < K (cA l ((i + 1) % l.length))
  · rw [k1.2 h, if_pos rfl, if_pos h, Bool.and_eq_true, k2, k3]
  · have hf : lessA (cA l i) (cA l ((i + 1) % l.length)) = false := by
      cases e : lessA (cA l i) (cA l ((i + 1) % l.length))
      · rfl
      · exact absurd (k1.1 e) h
    rw [hf, if_neg (by simp), if_neg h, Bool.or_eq_true, k2, k3]
theorem up_of {K : Int × Int → Int} (hK : ∀ x y : Int × Int, isAng x.1 x.2 = true → isAng y.1 y.2 = true → (lessA x y = true ↔ K x < K y)) {l : List (Int × Int)} (ha : allAng l = true) (hs : AscQ l) : UpI (fun i => K (cA l i)) l.length := fun i j hij hj =>
  (hK _ _ (cA_ang ha (by omega)) (cA_ang ha hj)).1 (asc_pairsQ ha hs i j _ _ hij (cA_some (by omega)) (cA_some hj))
theorem un_iff {ls : List (List (Int × Int))} (ha : ∀ l ∈ ls, allAng l = true) (hs : ∀ l ∈ ls, AscQ l) (h0 : ∀ l ∈ ls, 0 < l.length) (hap : ApP ls) : UnA ls ↔ UnL ls := by
  obtain ⟨K, hK⟩ := key_ex
  have hd1 : ∀ i k, k < i → i < ls.length → ∀ u v, u < (gA ls i).length → v < (gA ls k).length → K (cA (gA ls i) u) ≠ K (cA (gA ls k) v) := fun i k hki hi u v hu hv e => by
    have a1 := cA_ang (ha _ (gA_mem hi)) hu
    have a2 := cA_ang (ha _ (gA_mem (show k < ls.length by omega))) hv
    have hno : ∀ x y : Int × Int, isAng x.1 x.2 = true → isAng y.1 y.2 = true → K x = K y → lessA x y = false := fun x y hx hy h => by
      cases g : lessA x y
      · rfl
      · have := (hK x y hx hy).1 g; omega
    have heq : cA (gA ls i) u = cA (gA ls k) v := by
      rcases lessA_tot a1 a2 (hno _ _ a1 a2 e) with g | g
      · exact g
      · rw [hno _ _ a2 a1 e.symm] at g; cases g
    have := hap i k u hki hi hu
    rw [heq] at this
    exact this (cA_mem hv)
  have hd : ∀ i k, i ≠ k → i < ls.length → k < ls.length → ∀ u v, u < (gA ls i).length → v < (gA ls k).length → K (cA (gA ls i) u) ≠ K (cA (gA ls k) v) := fun i k hne hi hk u v hu hv => by
    rcases Nat.lt_or_ge k i with h | h
    · exact hd1 i k h hi u v hu hv
    · exact fun e => hd1 k i (by omega) hk v u hv hu e.symm
  have hup : ∀ i, i < ls.length → UpI (fun u => K (cA (gA ls i) u)) (gA ls i).length := fun i hi => up_of hK (ha _ (gA_mem hi)) (hs _ (gA_mem hi))
  have hin : ∀ i k, i < ls.length → k < ls.length → (InA (gA ls i) (gA ls k) ↔ InOne (fun u => K (cA (gA ls i) u)) (gA ls i).length (fun u => K (cA (gA ls k) u)) (gA ls k).length) := fun i k hi hk => by
    constructor
    · rintro ⟨u, hu, h⟩
      exact ⟨u, hu, fun j hj => (arcQ_iff hK (ha _ (gA_mem hi)) hu (cA_ang (ha _ (gA_mem hk)) hj)).1 (h j hj)⟩
    · rintro ⟨u, hu, h⟩
      exact ⟨u, hu, fun j hj => (arcQ_iff hK (ha _ (gA_mem hi)) hu (cA_ang (ha _ (gA_mem hk)) hj)).2 (h j hj)⟩
  have hlk : ∀ i k, i ≠ k → i < ls.length → k < ls.length → (LinkA (gA ls i) (gA ls k) ↔ LinkI (fun u => K (cA (gA ls k) u)) (gA ls k).length (fun u => K (cA (gA ls i) u)) (gA ls i).length) := fun i k hne hi hk => by
    constructor
    · rintro ⟨-, u, hu, ⟨j, hj, h1⟩, ⟨j', hj', h2⟩⟩
      refine ⟨u, hu, ⟨j, hj, (arcQ_iff hK (ha _ (gA_mem hk)) hu (cA_ang (ha _ (gA_mem hi)) hj)).1 h1⟩, ⟨j', hj', fun g => ?_⟩⟩
      rw [(arcQ_iff hK (ha _ (gA_mem hk)) hu (cA_ang (ha _ (gA_mem hi)) hj')).2 g] at h2
      cases h2
    · intro h
      refine ⟨fun h1 => link_none (hup k hk) h1 (fun u v hu hv => hd k i (fun e => hne e.symm) hk hi u v hu hv) h, ?_⟩
      obtain ⟨u, hu, ⟨j, hj, h1⟩, ⟨j', hj', h2⟩⟩ := h
      refine ⟨u, hu, ⟨j, hj, (arcQ_iff hK (ha _ (gA_mem hk)) hu (cA_ang (ha _ (gA_mem hi)) hj)).2 h1⟩, ⟨j', hj', ?_⟩⟩
      cases e : arcQ (gA ls k) u (cA (gA ls i) j')
      · rfl
      · exact absurd ((arcQ_iff hK (ha _ (gA_mem hk)) hu (cA_ang (ha _ (gA_mem hi)) hj')).1 e) h2
  have hio : ∀ i k, i ≠ k → i < ls.length → k < ls.length → (InA (gA ls i) (gA ls k) ↔ ¬ LinkA (gA ls k) (gA ls i)) := fun i k hne hi hk => by
    rw [hin i k hi hk, hlk k i (fun e => hne e.symm) hk hi]
    exact inOne_link (hup i hi) (h0 _ (gA_mem hi)) (h0 _ (gA_mem hk)) (fun u v hu hv => hd i k hne hi hk u v hu hv)
  have hsy : ∀ i k, i ≠ k → i < ls.length → k < ls.length → InA (gA ls i) (gA ls k) → InA (gA ls k) (gA ls i) := fun i k hne hi hk h =>
    (hin k i hk hi).2 (inOne_sym (hup i hi) (hup k hk) (h0 _ (gA_mem hi)) (h0 _ (gA_mem hk)) (fun u v hu hv => hd i k hne hi hk u v hu hv) ((hin i k hi hk).1 h))
  constructor
  · intro h i k hi hk hne
    rcases Nat.lt_or_ge k i with c | c
    · exact (hio k i (fun e => hne e.symm) hk hi).1 (hsy i k hne hi hk (h i k c hi))
    · exact (hio k i (fun e => hne e.symm) hk hi).1 (h k i (by omega) hk)
  · intro h i k hki hi
    exact (hio i k (by omega) hi (by omega)).2 (h k i (by omega) hi (by omega))

/-- The number of the first condition that fails, or 0. -/
def FailP (ls : List (List (Int × Int))) (F : Int) : Prop :=
  (F = 1 ∧ ¬ ApP ls) ∨ (F = 2 ∧ ApP ls ∧ ¬ LdP ls) ∨ (F = 3 ∧ ApP ls ∧ LdP ls ∧ ¬ OdP ls) ∨ (F = 4 ∧ ApP ls ∧ LdP ls ∧ OdP ls ∧ ¬ SamP ls) ∨
    (F = 5 ∧ ApP ls ∧ LdP ls ∧ OdP ls ∧ SamP ls ∧ ¬ UnL ls) ∨ (F = 0 ∧ ApP ls ∧ LdP ls ∧ OdP ls ∧ SamP ls ∧ UnL ls)
theorem fail_one {ls : List (List (Int × Int))} {C D : Int} (h : FailP ls C) (g : FailP ls D) : C = D := by
  unfold FailP at h g
  by_cases a : ApP ls <;> by_cases b : LdP ls <;> by_cases c : OdP ls <;> by_cases d : SamP ls <;> by_cases e : UnL ls
  all_goals
    simp [a, b, c, d, e] at h g
    rw [h, g]
theorem fail_ex (ls : List (List (Int × Int))) : ∃ F, FailP ls F := by
  by_cases a : ApP ls
  · by_cases b : LdP ls
    · by_cases c : OdP ls
      · by_cases d : SamP ls
        · by_cases e : UnL ls
          · exact ⟨0, .inr (.inr (.inr (.inr (.inr ⟨rfl, a, b, c, d, e⟩))))⟩
          · exact ⟨5, .inr (.inr (.inr (.inr (.inl ⟨rfl, a, b, c, d, e⟩))))⟩
        · exact ⟨4, .inr (.inr (.inr (.inl ⟨rfl, a, b, c, d⟩)))⟩
      · exact ⟨3, .inr (.inr (.inl ⟨rfl, a, b, c⟩))⟩
    · exact ⟨2, .inr (.inl ⟨rfl, a, b⟩)⟩
  · exact ⟨1, .inl ⟨rfl, a⟩⟩

/-- Six cells, in every world of a region. -/
structure C6 (w : World) (p1 p2 p3 p4 p5 p6 : Addr) (v1 v2 v3 v4 v5 v6 : Value) (W : World) : Prop where
  B : Below w.heap.size w W
  z1 : p1.block < W.heap.size
  z2 : p2.block < W.heap.size
  z3 : p3.block < W.heap.size
  z4 : p4.block < W.heap.size
  z5 : p5.block < W.heap.size
  z6 : p6.block < W.heap.size
  x1 : W.cell? p1 = some v1
  x2 : W.cell? p2 = some v2
  x3 : W.cell? p3 = some v3
  x4 : W.cell? p4 = some v4
  x5 : W.cell? p5 = some v5
  x6 : W.cell? p6 = some v6
theorem C6.on {w W W1 : World} {p1 p2 p3 p4 p5 p6 : Addr} {v1 v2 v3 v4 v5 v6 : Value} (H : C6 w p1 p2 p3 p4 p5 p6 v1 v2 v3 v4 v5 v6 W) (hb : Below W.heap.size W W1) : C6 w p1 p2 p3 p4 p5 p6 v1 v2 v3 v4 v5 v6 W1 := by
  have hs := hb.size
  have := H.z1; have := H.z2; have := H.z3; have := H.z4; have := H.z5; have := H.z6
  exact ⟨belowNext H.B hb, by omega, by omega, by omega, by omega, by omega, by omega, (hb.cell H.z1).trans H.x1, (hb.cell H.z2).trans H.x2, (hb.cell H.z3).trans H.x3, (hb.cell H.z4).trans H.x4, (hb.cell H.z5).trans H.x5, (hb.cell H.z6).trans H.x6⟩
/-- How many of the first j angles of s are in the arc i of o. -/
def CntP (s o : List (Int × Int)) (i j c : Nat) : Prop := c ≤ j ∧ (0 < c ↔ ∃ j', j' < j ∧ arcQ o i (cA s j') = true) ∧ (c < j ↔ ∃ j', j' < j ∧ arcQ o i (cA s j') = false)
theorem cnt_zero (s o : List (Int × Int)) (i : Nat) : CntP s o i 0 0 := ⟨Nat.le_refl _, ⟨fun h => by omega, fun ⟨j', h, _⟩ => by omega⟩, ⟨fun h => by omega, fun ⟨j', h, _⟩ => by omega⟩⟩
theorem cnt_yes {s o : List (Int × Int)} {i j c : Nat} (h : CntP s o i j c) (ha : arcQ o i (cA s j) = true) : CntP s o i (j + 1) (c + 1) := by
  obtain ⟨h1, h2, h3⟩ := h
  refine ⟨by omega, ⟨fun _ => ⟨j, by omega, ha⟩, fun _ => by omega⟩, ⟨fun g => ?_, fun ⟨j', g, e⟩ => ?_⟩⟩
  · obtain ⟨j', a, b⟩ := h3.1 (by omega)
    exact ⟨j', by omega, b⟩
  · by_cases hj : j' = j
    · subst hj; rw [ha] at e; cases e
    · have := h3.2 ⟨j', by omega, e⟩; omega
theorem cnt_no {s o : List (Int × Int)} {i j c : Nat} (h : CntP s o i j c) (ha : arcQ o i (cA s j) = false) : CntP s o i (j + 1) c := by
  obtain ⟨h1, h2, h3⟩ := h
  refine ⟨by omega, ⟨fun g => ?_, fun ⟨j', g, e⟩ => ?_⟩, ⟨fun _ => ⟨j, by omega, ha⟩, fun _ => by omega⟩⟩
  · obtain ⟨j', a, b⟩ := h2.1 g
    exact ⟨j', by omega, b⟩
  · by_cases hj : j' = j
    · subst hj; rw [ha] at e; cases e
    · exact h2.2 ⟨j', by omega, e⟩

theorem find_pos {x : Int × Int} {k : Nat} (h : findOrb x 65 0 = some k) : 0 < k := by
  have h1 := (find_le x 65 0 h).2.2.1
  unfold hit at h1
  rw [Bool.and_eq_true] at h1
  have := of_decide_eq_true h1.1
  omega
/-- What is known of the angles ahead of the one with the number j in the set i. -/
def PerP (ls : List (List (Int × Int))) (i j P : Nat) : Prop :=
  (P = 0 → ∀ i' j', (i' < i ∨ (i' = i ∧ j' < j)) → i' < ls.length → ¬ j' < (gA ls i').length) ∧
    (P ≠ 0 → (∀ i' j', (i' < i ∨ (i' = i ∧ j' < j)) → i' < ls.length → j' < (gA ls i').length → perQ (cA (gA ls i') j') = some P) ∧ ∃ i' j', i' < ls.length ∧ j' < (gA ls i').length ∧ perQ (cA (gA ls i') j') = some P)
theorem per_start (ls : List (List (Int × Int))) : PerP ls 0 0 0 := ⟨fun _ i' j' h => by omega, fun h => absurd rfl h⟩
theorem per_next {ls : List (List (Int × Int))} {i j P : Nat} (hj : (gA ls i).length ≤ j) (h : PerP ls i j P) : PerP ls (i + 1) 0 P := by
  refine ⟨fun hP i' j' hb hi => ?_, fun hP => ⟨fun i' j' hb hi hj' => ?_, (h.2 hP).2⟩⟩
  · by_cases e : i' = i
    · subst e
      intro hh
      exact h.1 hP i' j' (by omega) hi hh
    · exact h.1 hP i' j' (by omega) hi
  · by_cases e : i' = i
    · subst e
      exact (h.2 hP).1 i' j' (by omega) hi hj'
    · exact (h.2 hP).1 i' j' (by omega) hi hj'
theorem per_step {ls : List (List (Int × Int))} {i j P m : Nat} (hi : i < ls.length) (hj : j < (gA ls i).length) (hm : 0 < m) (hq : perQ (cA (gA ls i) j) = some m) (hc : P = 0 ∨ P = m) (h : PerP ls i j P) : PerP ls i (j + 1) m := by
  refine ⟨fun e => by omega, fun _ => ⟨fun i' j' hb hi' hj' => ?_, i, j, hi, hj, hq⟩⟩
  by_cases e : i' = i ∧ j' = j
  · obtain ⟨rfl, rfl⟩ := e; exact hq
  · have hb' : i' < i ∨ (i' = i ∧ j' < j) := by omega
    rcases hc with hc | hc
    · exact absurd hj' (h.1 hc i' j' hb' hi')
    · subst hc
      exact (h.2 (by omega)).1 i' j' hb' hi' hj'
theorem per_bad {ls : List (List (Int × Int))} {i j P m : Nat} (hi : i < ls.length) (hj : j < (gA ls i).length) (hq : perQ (cA (gA ls i) j) = some m) (hP : P ≠ 0) (hne : m ≠ P) (h : PerP ls i j P) : ¬ SamP ls := by
  rintro ⟨k, hk⟩
  obtain ⟨i', j', h1, h2, h3⟩ := (h.2 hP).2
  have a := hk i j hi hj
  have b := hk i' j' h1 h2
  rw [hq] at a
  rw [h3] at b
  rw [← b] at a
  injection a with a
  exact hne a
theorem per_none {ls : List (List (Int × Int))} {i j : Nat} (hi : i < ls.length) (hj : j < (gA ls i).length) (hq : perQ (cA (gA ls i) j) = none) : ¬ SamP ls := by
  rintro ⟨k, hk⟩
  have a := hk i j hi hj
  rw [hq] at a; cases a
theorem per_end {ls : List (List (Int × Int))} {P : Nat} (h0 : 0 < ls.length) (h1 : 0 < (gA ls 0).length) (h : PerP ls ls.length 0 P) : SamP ls := by
  by_cases hP : P = 0
  · exact absurd h1 (h.1 hP 0 0 (by omega) h0)
  · exact ⟨P, fun i j hi hj => (h.2 hP).1 i j (by omega) hi hj⟩

/-- What tells the first condition that fails. -/
def ResFail (w : World) (ls : List (List (Int × Int))) (e : Ending) (w' : World) : Prop := (∃ C : Int, e = .returned (.int .i64 C) ∧ Hid (FailP ls C)) ∧ Below w.heap.size w w'

end Go.Proofs.Ytnoaahkpcnkbnaa

/-
  Contracts: a leaf added to a lamination, as the program does it.
-/
import Derived.Test.YtkpgfafmaoaefaaV30
import Derived.Test.YtkpgfafmaoaefaaV31
import Derived.Test.YtkpgfafmaoaefaaV24
import Derived.Test.YtkpgfafmaoaefaaV11
namespace Go.Proofs.Ytkpgfafmaoaefaa
open Go.RowKit

theorem eqNilL (b off n c : Nat) (W : World) : (binOp .eql 26 (.slice (some ⟨b, off, none⟩) n c) (.slice none 0 0)).run Try.prog W = .ok (.bool false) W := by kernel_rfl

set_option maxRecDepth 100000 in
set_option maxHeartbeats 1000000 in
theorem cloneL (b off len cap : Nat) (l : List Lf4) (w : World) (hr : LfRow w w.heap.size (some ⟨b, off, none⟩) l) (hl : l.length = len) (hm : len ≤ 1000000) :
    Calls Try.prog 98 #[.slice (some ⟨b, off, none⟩) len cap] w fun e w' => ∃ b' c, e = .returned (.slice (some ⟨b', 0, none⟩) len c) ∧ w'.ownsRow w.heap.size 31 4 (.slice (some ⟨b', 0, none⟩) len c) len (flatL l) ∧ Below w.heap.size w w' := by
  obtain ⟨i0, hi, hz0, hz1, hz2⟩ := infoL_parts infoLf
  have HNw := Lib.hid (news_of_row4 (hr.below (belowAlloc (Below.refl _ w) (.cells #[] 31))) rfl)
  have HFl : Hid ((flatL l).length = len * 4) := Lib.hid (by rw [flatL_len, hl])
  have HQ := fun W => eqNilL b off len cap W
  clear hr hl
  go_enter Try.func98, Try.ntmps98
  go_wp2_with (at_builtin; refine wpList_append_own_at _ rfl _ _ 26 rfl w.heap.size 31 i0 (.agg #[.int .i64 0, .int .i64 0, .int .i64 0, .int .i64 0]) 4 32 Try.underlying26 hi hz0 hz1 hz2 rfl (by decide) (.slice (some ⟨w.heap.size, 0, none⟩) 0 0) 0 [] rfl ⟨rfl, .inr ⟨w.heap.size, 0, #[], rfl, Nat.le_refl _, heap_alloc_new w (.cells #[] 31), by omega, by unfold maxLen; omega, rfl, rfl⟩⟩ ⟨b, off, none⟩ len cap (flatL l) rfl HFl.out HNw.out (flatL_one _) ?r4 ?r5 ?r6 ?_)
  case r4 => unfold maxLen; omega
  case r5 => omega
  case r6 => simp
  intro v' w11 hown' hgrow hnn _
  obtain ⟨A', cA', rfl⟩ := ownSliceL hown'
  obtain ⟨b'', rfl⟩ : ∃ b'', A' = some ⟨b'', 0, none⟩ := by
    rcases hown'.2 with ⟨h1, _⟩ | ⟨b'', c2, cur, h1, _⟩
    · first | exact (hnn h1).elim | exact absurd (hnn.1 h1).1 (by simp)
    · injection h1 with h1; exact ⟨b'', h1⟩
  have HB : Below w.heap.size w w11 := (belowAlloc (Below.refl _ w) (.cells #[] 31)).grown hgrow (by simp) (fun j hj => by simp [Value.ownBlock] at hj; omega)
  have HO := Lib.hid hown'
  clear hown' hgrow hnn
  go_wp2
  go_ret
  exact ⟨b'', cA', rfl, HO.out, HB⟩

/-- A boxed leaf, kept. -/
structure BoxL (w W : World) (a b c d : Int) : Prop where
  B : Below w.heap.size w W
  z : w.heap.size < W.heap.size
  c0 : W.cell? ⟨w.heap.size, 0, none⟩ = some (.int .i64 a)
  c1 : W.cell? ⟨w.heap.size, 1, none⟩ = some (.int .i64 b)
  c2 : W.cell? ⟨w.heap.size, 2, none⟩ = some (.int .i64 c)
  c3 : W.cell? ⟨w.heap.size, 3, none⟩ = some (.int .i64 d)
theorem BoxL.on {w W w1 : World} {a b c d : Int} (H : BoxL w W a b c d) (hb : Below W.heap.size W w1) : BoxL w w1 a b c d :=
  ⟨belowNext H.B hb, Nat.lt_of_lt_of_le H.z hb.size, cellThru hb H.z H.c0, cellThru hb H.z H.c1, cellThru hb H.z H.c2, cellThru hb H.z H.c3⟩
theorem BoxL.start (w : World) (a b c d : Int) : BoxL w (w.alloc (.cells #[.int .i64 a, .int .i64 b, .int .i64 c, .int .i64 d] 31)) a b c d :=
  ⟨belowAlloc (Below.refl _ _) _, by simp, by simp [go_sem], by simp [go_sem], by simp [go_sem], by simp [go_sem]⟩

/-- What AddLeaf answers: R and C. -/
def AddIs (l : List Lf4) (p1 p2 p3 p4 : Int) (R : List Lf4) (C : Int) : Prop :=
  (¬ (Lam l ∧ isLf p1 p2 p3 p4 = true) ∧ R = [] ∧ C = 1) ∨
  ((Lam l ∧ isLf p1 p2 p3 p4 = true) ∧ l[lessNL l (p1, p2, p3, p4)]? = some (p1, p2, p3, p4) ∧ R = l ∧ C = 0) ∨
  ((Lam l ∧ isLf p1 p2 p3 p4 = true) ∧ ¬ l[lessNL l (p1, p2, p3, p4)]? = some (p1, p2, p3, p4) ∧ CrossOne (p1, p2, p3, p4) l ∧ R = [] ∧ C = 5) ∨
  ((Lam l ∧ isLf p1 p2 p3 p4 = true) ∧ ¬ l[lessNL l (p1, p2, p3, p4)]? = some (p1, p2, p3, p4) ∧ ¬ CrossOne (p1, p2, p3, p4) l ∧ l.length = 200 ∧ R = [] ∧ C = 3) ∨
  ((Lam l ∧ isLf p1 p2 p3 p4 = true) ∧ ¬ l[lessNL l (p1, p2, p3, p4)]? = some (p1, p2, p3, p4) ∧ ¬ CrossOne (p1, p2, p3, p4) l ∧ l.length < 200 ∧ R = insL l (p1, p2, p3, p4) ∧ C = 0)
theorem addIs_ex (l : List Lf4) (p1 p2 p3 p4 : Int) : ∃ R C, AddIs l p1 p2 p3 p4 R C := by
  by_cases h1 : Lam l ∧ isLf p1 p2 p3 p4 = true
  · by_cases h2 : l[lessNL l (p1, p2, p3, p4)]? = some (p1, p2, p3, p4)
    · exact ⟨_, _, .inr (.inl ⟨h1, h2, rfl, rfl⟩)⟩
    · by_cases h3 : CrossOne (p1, p2, p3, p4) l
      · exact ⟨_, _, .inr (.inr (.inl ⟨h1, h2, h3, rfl, rfl⟩))⟩
      · by_cases h4 : l.length = 200
        · exact ⟨_, _, .inr (.inr (.inr (.inl ⟨h1, h2, h3, h4, rfl, rfl⟩)))⟩
        · exact ⟨_, _, .inr (.inr (.inr (.inr ⟨h1, h2, h3, by have := h1.1.1; omega, rfl, rfl⟩)))⟩
  · exact ⟨_, _, .inl ⟨h1, rfl, rfl⟩⟩

theorem LfRow.drop {w : World} {B b off : Nat} {l : List Lf4} (h : LfRow w B (some ⟨b, off, none⟩) l) (k : Nat) : LfRow w B (some ⟨b, off + k * 4, none⟩) (l.drop k) := by
  intro hne
  have hl : l ≠ [] := by intro e; rw [e] at hne; simp at hne
  obtain ⟨b', off', e, h2, h3⟩ := h hl
  obtain ⟨rfl, rfl⟩ : b = b' ∧ off = off' := by simpa using e
  refine ⟨b, off + k * 4, rfl, h2, fun i n d m c hi => ?_⟩
  rw [List.getElem?_drop] at hi
  have := h3 (k + i) n d m c hi
  rw [show off + k * 4 + i * 4 = off + (k + i) * 4 by omega]
  exact this
/-- The three parts of a list with a new leaf. -/
def partsL (l : List Lf4) (k : Nat) (p : Lf4) : Nat → List Lf4
  | 0 => l.take k
  | 1 => [p]
  | _ => l.drop k
def partsV (v0 v1 v2 : Value) : Nat → Value
  | 0 => v0
  | 1 => v1
  | _ => v2
theorem concAdd (W : World) (g e0 : Nat) (A1 A3 : Option Addr) (k n3 c1 c3 : Nat) (l : List Lf4) (p1 p2 p3 p4 : Int) (hk : lessNL l (p1, p2, p3, p4) = k) (hnew : ¬ l[k]? = some (p1, p2, p3, p4)) (r1 : LfRow W W.heap.size A1 (l.take k)) (r3 : LfRow W W.heap.size A3 (l.drop k)) (hp : Cells4 W e0 0 p1 p2 p3 p4) (he : e0 < W.heap.size)
    (s0 : W.cell? ⟨g, 0, none⟩ = some (.slice A1 k c1)) (s1 : W.cell? ⟨g, 1, none⟩ = some (.slice (some ⟨e0, 0, none⟩) 1 1)) (s2 : W.cell? ⟨g, 2, none⟩ = some (.slice A3 n3 c3)) (hg : g < W.heap.size) (hkl : k ≤ l.length) (hn3 : n3 = l.length - k) (hA1 : A1 ≠ none) (hA3 : A3 ≠ none) (hl : l.length ≤ 1000) :
    Calls Try.prog 100 #[.slice (some ⟨g, 0, none⟩) 3 3] W fun e w' => ∃ b c, e = .returned (.slice (some ⟨b, 0, none⟩) (insL l (p1, p2, p3, p4)).length c) ∧ w'.ownsRow W.heap.size 31 4 (.slice (some ⟨b, 0, none⟩) (insL l (p1, p2, p3, p4)).length c) (insL l (p1, p2, p3, p4)).length (flatL (insL l (p1, p2, p3, p4))) ∧ Below W.heap.size W w' := by
  have e3 : accL (partsL l k (p1, p2, p3, p4)) 3 = insL l (p1, p2, p3, p4) := by
    rw [insL_new (by rw [hk]; exact hnew), hk]
    simp [accL, partsL]
  have l1 : (l.take k).length = k := by rw [List.length_take]; omega
  have l3 : (l.drop k).length = n3 := by rw [List.length_drop]; omega
  have h := concatL 3 g (partsV (.slice A1 k c1) (.slice (some ⟨e0, 0, none⟩) 1 1) (.slice A3 n3 c3)) (partsL l k (p1, p2, p3, p4)) W (fun j hj => by
      match j, hj with
      | 0, _ => exact ⟨A1, c1, by rw [show partsL l k (p1, p2, p3, p4) 0 = l.take k from rfl, l1]; rfl, r1, fun h => absurd h hA1⟩
      | 1, _ =>
        refine ⟨some ⟨e0, 0, none⟩, 1, rfl, fun _ => ⟨e0, 0, rfl, he, fun i n d m c hi => ?_⟩, fun h => by cases h⟩
        match i, hi with
        | 0, hi =>
          injection hi with hi
          simp only [Prod.mk.injEq] at hi
          obtain ⟨rfl, rfl, rfl, rfl⟩ := hi
          exact ⟨hp.c0, hp.c1, hp.c2, hp.c3⟩
        | i + 1, hi => simp [partsL] at hi
      | 2, _ => exact ⟨A3, c3, by rw [show partsL l k (p1, p2, p3, p4) 2 = l.drop k from rfl, l3]; rfl, r3, fun h => absurd h hA3⟩) (fun j hj => by
      match j, hj with
      | 0, _ => exact s0
      | 1, _ => exact s1
      | 2, _ => exact s2) hg (by omega) (fun j hj => by
      match j, hj with
      | 0, _ => simp [accL]
      | 1, _ => simp [accL, partsL]; omega
      | 2, _ => simp [accL, partsL]; omega
      | 3, _ => simp [accL, partsL]; omega) (by simp [accL, partsL]; omega)
  rw [e3] at h
  exact h

set_option maxRecDepth 100000 in
set_option maxHeartbeats 2000000 in
theorem implAddLf (b0 off len cap : Nat) (l R : List Lf4) (C p1 p2 p3 p4 : Int) (w : World) (hr : LfRow w w.heap.size (some ⟨b0, off, none⟩) l) (hl : l.length = len) (hm : len ≤ 1048576) (hcap : len ≤ cap) (h : AddIs l p1 p2 p3 p4 R C) :
    Calls Try.prog 41 #[.slice (some ⟨b0, off, none⟩) len cap, leafV p1 p2 p3 p4] w (ResLf w R C) := by
  have HLam : Hid (∀ W, Below w.heap.size w W → Calls Try.prog 39 #[.slice (some ⟨b0, off, none⟩) len cap] W (ResYes W (Lam l))) := Lib.hid (fun W hB => implLam _ len cap l W ((hr.below hB).more hB.size) hl (by omega) hcap)
  have HLf := Lib.hid (fun w => implLf p1 p2 p3 p4 w)
  have HR := Lib.hid hr
  have HL := Lib.hid hl
  rcases h with ⟨hg, rfl, rfl⟩ | ⟨⟨hg, hp⟩, hf, hR0, rfl⟩ | ⟨⟨hg, hp⟩, hf, hx, rfl, rfl⟩ | ⟨⟨hg, hp⟩, hf, hx, h2, rfl, rfl⟩ | ⟨⟨hg, hp⟩, hf, hx, h2, rfl, rfl⟩
  · have HG := Lib.hid hg
    obtain ⟨q, hq⟩ : ∃ q, isLf p1 p2 p3 p4 = q := ⟨_, rfl⟩
    have HQ := Lib.hid hq
    rw [hq] at HLf
    clear hr hl hg hq
    go_enter Try.func41, Try.ntmps41
    go_wp2_with fail
    have K0 := BoxL.start w p1 p2 p3 p4
    refine (HLam.out _ K0.B).mono ?_
    rintro e w1 ⟨⟨r, rfl, HRr⟩, hb1⟩
    have K1 := K0.on hb1
    clear hb1
    cases r
    · go_wp2
      go_ret2
      exact ⟨none, 0, rfl, lfOwn_nil, K1.B⟩
    · obtain rfl : q = false := by
        cases q
        · rfl
        · exact absurd ⟨HRr.out.1 rfl, HQ.out⟩ HG.out
      obtain ⟨B1, z1, c0, c1, c2, c3⟩ := id K1
      go_wp2_with fail
      refine (HLf.out _).mono ?_
      rintro e w2 ⟨rfl, hb2⟩
      have K2 := K1.on hb2
      go_wp2
      go_ret2
      exact ⟨none, 0, rfl, lfOwn_nil, K2.B⟩
  all_goals
    have HG := Lib.hid hg
    have hlen : l.length ≤ 200 := hg.1
    have HBs : Hid (∀ W, Below w.heap.size w W → _) := Lib.hid (fun W hB => binSearch _ len cap l p1 p2 p3 p4 W ((hr.below hB).more hB.size) hl (by omega) hg.2.1 hg.2.2.1 hp)
    have HCr : Hid (∀ W, Below w.heap.size w W → _) := Lib.hid (fun W hB => crossOne _ len cap l p1 p2 p3 p4 W ((hr.below hB).more hB.size) hl (by omega) hg.2.1 hp)
    rw [hp] at HLf
    obtain ⟨k, hk⟩ : ∃ k, lessNL l (p1, p2, p3, p4) = k := ⟨_, rfl⟩
    have hkl : k ≤ len := by rw [← hk, ← hl]; exact lessNL_le _ _
    rw [hk] at hf HBs
    have HKk := Lib.hid hk
    have hl200 : len ≤ 200 := by omega
  · have hR1 := hR0.symm
    subst hR1
    have HF := Lib.hid hf
    have HRW : Hid (∀ W, Below w.heap.size w W → LfRow W W.heap.size (some ⟨b0, off, none⟩) l) := Lib.hid (fun W hB => (hr.below hB).more hB.size)
    clear hr hl hg hp hf hk HCr hlen hR0
    go_enter Try.func41, Try.ntmps41
    go_wp2_with fail
    have K0 := BoxL.start w p1 p2 p3 p4
    refine (HLam.out _ K0.B).mono ?_
    rintro e w1 ⟨⟨r, rfl, HRr⟩, hb1⟩
    have K1 := K0.on hb1
    clear hb1
    obtain rfl : r = true := HRr.out.2 HG.out
    clear HRr
    obtain ⟨B1, z1, c0, c1, c2, c3⟩ := id K1
    go_wp2_with fail
    refine (HLf.out _).mono ?_
    rintro e w2 ⟨rfl, hb2⟩
    have K2 := K1.on hb2
    clear hb2 B1 z1 c0 c1 c2 c3 K1
    obtain ⟨B2, z2, c0, c1, c2, c3⟩ := id K2
    go_wp2_with fail
    refine (HBs.out _ B2).mono ?_
    rintro e w3 ⟨⟨t, rfl, HTt⟩, hb3⟩
    have K3 := K2.on hb3
    clear hb3 B2 z2 c0 c1 c2 c3 K2
    obtain rfl : t = true := HTt.out.2 HF.out
    go_wp2_with fail
    refine (cloneL b0 off len cap l _ (HRW.out _ K3.B) HL.out (by omega)).mono ?_
    rintro e w4 ⟨b', c', rfl, ho4, hb4⟩
    have HO4 := Lib.hid (ownL_of HL.out (ownMonoL ho4 K3.B.size))
    have HB4 := Lib.hid (K3.on hb4).B
    clear ho4 hb4
    go_wp2
    go_ret2
    rw [← HL.out]
    exact ⟨_, c', rfl, HO4.out, HB4.out⟩
  · have HNf := Lib.hid hf
    have HX := Lib.hid hx
    clear hr hl hg hp hf hk hx hlen
    go_enter Try.func41, Try.ntmps41
    go_wp2_with fail
    have K0 := BoxL.start w p1 p2 p3 p4
    refine (HLam.out _ K0.B).mono ?_
    rintro e w1 ⟨⟨r, rfl, HRr⟩, hb1⟩
    have K1 := K0.on hb1
    clear hb1
    obtain rfl : r = true := HRr.out.2 HG.out
    clear HRr
    obtain ⟨B1, z1, c0, c1, c2, c3⟩ := id K1
    go_wp2_with fail
    refine (HLf.out _).mono ?_
    rintro e w2 ⟨rfl, hb2⟩
    have K2 := K1.on hb2
    clear hb2 B1 z1 c0 c1 c2 c3 K1
    obtain ⟨B2, z2, c0, c1, c2, c3⟩ := id K2
    go_wp2_with fail
    refine (HBs.out _ B2).mono ?_
    rintro e w3 ⟨⟨t, rfl, HTt⟩, hb3⟩
    have K3 := K2.on hb3
    clear hb3 B2 z2 c0 c1 c2 c3 K2
    obtain rfl : t = false := by
      cases t
      · rfl
      · exact absurd (HTt.out.1 rfl) HNf.out
    clear HTt
    obtain ⟨B3, z3, c0, c1, c2, c3⟩ := id K3
    go_wp2_with fail
    refine (HCr.out _ B3).mono ?_
    rintro e w4 ⟨⟨s, rfl, HSs⟩, hb4⟩
    have K4 := K3.on hb4
    clear hb4 B3 z3 c0 c1 c2 c3 K3
    obtain rfl : s = true := HSs.out.2 HX.out
    go_wp2
    go_ret2
    exact ⟨none, 0, rfl, lfOwn_nil, K4.B⟩
  · have HNf := Lib.hid hf
    have HX := Lib.hid hx
    obtain rfl : len = 200 := by omega
    clear hr hl hg hp hf hk hx hlen h2
    go_enter Try.func41, Try.ntmps41
    go_wp2_with fail
    have K0 := BoxL.start w p1 p2 p3 p4
    refine (HLam.out _ K0.B).mono ?_
    rintro e w1 ⟨⟨r, rfl, HRr⟩, hb1⟩
    have K1 := K0.on hb1
    clear hb1
    obtain rfl : r = true := HRr.out.2 HG.out
    clear HRr
    obtain ⟨B1, z1, c0, c1, c2, c3⟩ := id K1
    go_wp2_with fail
    refine (HLf.out _).mono ?_
    rintro e w2 ⟨rfl, hb2⟩
    have K2 := K1.on hb2
    clear hb2 B1 z1 c0 c1 c2 c3 K1
    obtain ⟨B2, z2, c0, c1, c2, c3⟩ := id K2
    go_wp2_with fail
    refine (HBs.out _ B2).mono ?_
    rintro e w3 ⟨⟨t, rfl, HTt⟩, hb3⟩
    have K3 := K2.on hb3
    clear hb3 B2 z2 c0 c1 c2 c3 K2
    obtain rfl : t = false := by
      cases t
      · rfl
      · exact absurd (HTt.out.1 rfl) HNf.out
    clear HTt
    obtain ⟨B3, z3, c0, c1, c2, c3⟩ := id K3
    go_wp2_with fail
    refine (HCr.out _ B3).mono ?_
    rintro e w4 ⟨⟨s, rfl, HSs⟩, hb4⟩
    have K4 := K3.on hb4
    clear hb4 B3 z3 c0 c1 c2 c3 K3
    obtain rfl : s = false := by
      cases s
      · rfl
      · exact absurd (HSs.out.1 rfl) HX.out
    go_wp2
    go_ret2
    exact ⟨none, 0, rfl, lfOwn_nil, K4.B⟩
  · have HNf := Lib.hid hf
    have HX := Lib.hid hx
    have hlt : len < 200 := by omega
    have hn200 : ¬ ((len : Int) = 200) := by omega
    clear hr hl hg hp hf hk hx hlen h2
    go_enter Try.func41, Try.ntmps41
    go_wp2_with fail
    have K0 := BoxL.start w p1 p2 p3 p4
    refine (HLam.out _ K0.B).mono ?_
    rintro e w1 ⟨⟨r, rfl, HRr⟩, hb1⟩
    have K1 := K0.on hb1
    clear hb1
    obtain rfl : r = true := HRr.out.2 HG.out
    clear HRr
    obtain ⟨B1, z1, c0, c1, c2, c3⟩ := id K1
    go_wp2_with fail
    refine (HLf.out _).mono ?_
    rintro e w2 ⟨rfl, hb2⟩
    have K2 := K1.on hb2
    clear hb2 B1 z1 c0 c1 c2 c3 K1
    obtain ⟨B2, z2, c0, c1, c2, c3⟩ := id K2
    go_wp2_with fail
    refine (HBs.out _ B2).mono ?_
    rintro e w3 ⟨⟨t, rfl, HTt⟩, hb3⟩
    have K3 := K2.on hb3
    clear hb3 B2 z2 c0 c1 c2 c3 K2
    obtain rfl : t = false := by
      cases t
      · rfl
      · exact absurd (HTt.out.1 rfl) HNf.out
    clear HTt
    obtain ⟨B3, z3, c0, c1, c2, c3⟩ := id K3
    go_wp2_with fail
    refine (HCr.out _ B3).mono ?_
    rintro e w4 ⟨⟨s, rfl, HSs⟩, hb4⟩
    have K4 := K3.on hb4
    clear hb4 B3 z3 c0 c1 c2 c3 K3
    obtain rfl : s = false := by
      cases s
      · rfl
      · exact absurd (HSs.out.1 rfl) HX.out
    clear HSs
    have hkc : k ≤ cap := by omega
    by_cases hck : cap = k
    · obtain rfl : k = len := by omega
      obtain rfl : k = cap := by omega
      obtain ⟨B4, z4, c0, c1, c2, c3⟩ := id K4
      have BB : Below w4.heap.size w4 (((w4.alloc (.cells #[.int .i64 p1, .int .i64 p2, .int .i64 p3, .int .i64 p4] 31)).alloc (.cells #[.slice (some ⟨b0, off, none⟩) k k, .slice (some ⟨w4.heap.size, 0, none⟩) 1 1, .slice (some ⟨b0, off, none⟩) 0 0] 26)).drew) := (belowAlloc (belowAlloc (Below.refl _ _) _) _).drew
      have hll := HL.out
      have rw0 := (HR.out.below (belowNext B4 BB)).more (belowNext B4 BB).size
      have HCc := Lib.hid (concAdd (((w4.alloc (.cells #[.int .i64 p1, .int .i64 p2, .int .i64 p3, .int .i64 p4] 31)).alloc (.cells #[.slice (some ⟨b0, off, none⟩) k k, .slice (some ⟨w4.heap.size, 0, none⟩) 1 1, .slice (some ⟨b0, off, none⟩) 0 0] 26)).drew) (w4.heap.size + 1) w4.heap.size (some ⟨b0, off, none⟩) (some ⟨b0, off, none⟩) k 0 k 0 l p1 p2 p3 p4 HKk.out HNf.out (rw0.take k) ((fun h => absurd (by rw [List.drop_eq_nil_iff]; omega) h)) ⟨by simp [go_sem], by simp [go_sem], by simp [go_sem], by simp [go_sem]⟩ (by simp; omega) (by simp [go_sem]) (by simp [go_sem]) (by simp [go_sem]) (by simp) (by omega) (by omega) (by simp) (by simp) (by omega))
      have HBB := Lib.hid (belowNext B4 BB)
      clear BB rw0 hll
      go_wp2_with fail
      refine wp_region_any (by kernel_rfl) ?_
      try (change wpAny _ _ _ _ _ _ _ (World.drew _))
      refine wpAny_take (i := 0) (v := ?_) rfl (by kernel_rfl) (by kernel_rfl) (by kernel_rfl) (fun _ _ _ h => h) (Or.inl ⟨by kernel_rfl, ?_⟩) ?_
      rotate_left
      · intro w; first | (go_simp; done) | (go_simp; with_reducible rfl)
      refine wpAny_take (i := 1) (v := ?_) rfl (by kernel_rfl) (by kernel_rfl) (by kernel_rfl) (fun _ _ _ h => h) (Or.inl ⟨by kernel_rfl, ?_⟩) ?_
      rotate_left
      · intro w; first | (go_simp; done) | (go_simp; with_reducible rfl)
      refine wpAny_take (i := 2) (v := ?_) rfl (by kernel_rfl) (by kernel_rfl) (by kernel_rfl) (fun _ _ _ h => h) (Or.inl ⟨by kernel_rfl, ?_⟩) ?_
      rotate_left
      · intro w; first | (go_simp; done) | (go_simp; with_reducible rfl)
      refine wpAny_take (i := 5) (v := ?_) rfl (by kernel_rfl) (by kernel_rfl) (by kernel_rfl) (fun _ _ _ h => h) (Or.inl ⟨by kernel_rfl, ?_⟩) ?_
      rotate_left
      · intro w; first | (go_simp; done) | (go_simp; with_reducible rfl)
      refine wpAny_take (i := 6) (v := ?_) rfl (by kernel_rfl) (by kernel_rfl) (by kernel_rfl) (fun _ _ _ h => h) (Or.inl ⟨by kernel_rfl, ?_⟩) ?_
      rotate_left
      · intro w; first | (go_simp; done) | (go_simp; with_reducible rfl)
      refine wpAny_take (i := 7) (v := ?_) rfl (by kernel_rfl) (by kernel_rfl) (by kernel_rfl) (fun _ _ _ h => h) (Or.inl ⟨by kernel_rfl, ?_⟩) ?_
      rotate_left
      · intro w; first | (go_simp; done) | (go_simp; with_reducible rfl)
      refine wpAny_ready (rs := [3]) (by kernel_rfl) (by simp) ?_
      refine AllReady.cons rfl (fun K hK => ?_) AllReady.nil
      go_simp
      refine hK _ _ ?_
      clear hK K
      refine wpAny_ready (rs := [4]) (by kernel_rfl) (by simp) ?_
      refine AllReady.cons rfl (fun K hK => ?_) AllReady.nil
      go_simp
      refine hK _ _ ?_
      clear hK K
      refine wpAny_ready (rs := [8]) (by kernel_rfl) (by simp) ?_
      refine AllReady.cons rfl (fun K hK => ?_) AllReady.nil
      go_simp
      refine hK _ _ ?_
      clear hK K
      refine wpAny_ready (rs := [9]) (by kernel_rfl) (by simp) ?_
      refine AllReady.cons rfl (fun K hK => ?_) AllReady.nil
      go_simp
      go_wp2_with (go_at_call 100; (with_reducible refine HCc.out.mono ?_); rintro e w5 ⟨b', c', rfl, ho5, hb5⟩)
      refine wpAny_take (i := 10) (v := ?_) rfl (by kernel_rfl) (by kernel_rfl) (by kernel_rfl) (fun _ _ _ h => h) (Or.inl ⟨by kernel_rfl, ?_⟩) ?_
      rotate_left
      · intro w; first | (go_simp; done) | (go_simp; with_reducible rfl)
      refine wpAny_take (i := 11) (v := ?_) rfl (by kernel_rfl) (by kernel_rfl) (by kernel_rfl) (fun _ _ _ h => h) (Or.inl ⟨by kernel_rfl, ?_⟩) ?_
      rotate_left
      · intro w; first | (go_simp; done) | (go_simp; with_reducible rfl)
      refine wpAny_done (by kernel_rfl) ?_ _
      go_wp2_with fail
      go_ret2
      exact ⟨_, c', rfl, ownL_of rfl (ownMonoL ho5 HBB.out.size), belowNext HBB.out hb5⟩
    · skip
      obtain ⟨B4, z4, c0, c1, c2, c3⟩ := id K4
      have BB : Below w4.heap.size w4 (((w4.alloc (.cells #[.int .i64 p1, .int .i64 p2, .int .i64 p3, .int .i64 p4] 31)).alloc (.cells #[.slice (some ⟨b0, off, none⟩) k cap, .slice (some ⟨w4.heap.size, 0, none⟩) 1 1, .slice (some ⟨b0, off + k * 4, none⟩) (len - k) (cap - k)] 26)).drew) := (belowAlloc (belowAlloc (Below.refl _ _) _) _).drew
      have hll := HL.out
      have rw0 := (HR.out.below (belowNext B4 BB)).more (belowNext B4 BB).size
      have HCc := Lib.hid (concAdd (((w4.alloc (.cells #[.int .i64 p1, .int .i64 p2, .int .i64 p3, .int .i64 p4] 31)).alloc (.cells #[.slice (some ⟨b0, off, none⟩) k cap, .slice (some ⟨w4.heap.size, 0, none⟩) 1 1, .slice (some ⟨b0, off + k * 4, none⟩) (len - k) (cap - k)] 26)).drew) (w4.heap.size + 1) w4.heap.size (some ⟨b0, off, none⟩) (some ⟨b0, off + k * 4, none⟩) k (len - k) cap (cap - k) l p1 p2 p3 p4 HKk.out HNf.out (rw0.take k) (rw0.drop k) ⟨by simp [go_sem], by simp [go_sem], by simp [go_sem], by simp [go_sem]⟩ (by simp; omega) (by simp [go_sem]) (by simp [go_sem]) (by simp [go_sem]) (by simp) (by omega) (by omega) (by simp) (by simp) (by omega))
      have HBB := Lib.hid (belowNext B4 BB)
      clear BB rw0 hll
      go_wp2_with fail
      refine wp_region_any (by kernel_rfl) ?_
      try (change wpAny _ _ _ _ _ _ _ (World.drew _))
      refine wpAny_take (i := 0) (v := ?_) rfl (by kernel_rfl) (by kernel_rfl) (by kernel_rfl) (fun _ _ _ h => h) (Or.inl ⟨by kernel_rfl, ?_⟩) ?_
      rotate_left
      · intro w; first | (go_simp; done) | (go_simp; with_reducible rfl)
      refine wpAny_take (i := 1) (v := ?_) rfl (by kernel_rfl) (by kernel_rfl) (by kernel_rfl) (fun _ _ _ h => h) (Or.inl ⟨by kernel_rfl, ?_⟩) ?_
      rotate_left
      · intro w; first | (go_simp; done) | (go_simp; with_reducible rfl)
      refine wpAny_take (i := 2) (v := ?_) rfl (by kernel_rfl) (by kernel_rfl) (by kernel_rfl) (fun _ _ _ h => h) (Or.inl ⟨by kernel_rfl, ?_⟩) ?_
      rotate_left
      · intro w; first | (go_simp; done) | (go_simp; with_reducible rfl)
      refine wpAny_take (i := 5) (v := ?_) rfl (by kernel_rfl) (by kernel_rfl) (by kernel_rfl) (fun _ _ _ h => h) (Or.inl ⟨by kernel_rfl, ?_⟩) ?_
      rotate_left
      · intro w; first | (go_simp; done) | (go_simp; with_reducible rfl)
      refine wpAny_take (i := 6) (v := ?_) rfl (by kernel_rfl) (by kernel_rfl) (by kernel_rfl) (fun _ _ _ h => h) (Or.inl ⟨by kernel_rfl, ?_⟩) ?_
      rotate_left
      · intro w; first | (go_simp; done) | (go_simp; with_reducible rfl)
      refine wpAny_take (i := 7) (v := ?_) rfl (by kernel_rfl) (by kernel_rfl) (by kernel_rfl) (fun _ _ _ h => h) (Or.inl ⟨by kernel_rfl, ?_⟩) ?_
      rotate_left
      · intro w; first | (go_simp; done) | (go_simp; with_reducible rfl)
      refine wpAny_ready (rs := [3]) (by kernel_rfl) (by simp) ?_
      refine AllReady.cons rfl (fun K hK => ?_) AllReady.nil
      go_simp
      refine hK _ _ ?_
      clear hK K
      refine wpAny_ready (rs := [4]) (by kernel_rfl) (by simp) ?_
      refine AllReady.cons rfl (fun K hK => ?_) AllReady.nil
      go_simp
      refine hK _ _ ?_
      clear hK K
      refine wpAny_ready (rs := [8]) (by kernel_rfl) (by simp) ?_
      refine AllReady.cons rfl (fun K hK => ?_) AllReady.nil
      go_simp
      refine hK _ _ ?_
      clear hK K
      refine wpAny_ready (rs := [9]) (by kernel_rfl) (by simp) ?_
      refine AllReady.cons rfl (fun K hK => ?_) AllReady.nil
      go_simp
      go_wp2_with (go_at_call 100; (with_reducible refine HCc.out.mono ?_); rintro e w5 ⟨b', c', rfl, ho5, hb5⟩)
      refine wpAny_take (i := 10) (v := ?_) rfl (by kernel_rfl) (by kernel_rfl) (by kernel_rfl) (fun _ _ _ h => h) (Or.inl ⟨by kernel_rfl, ?_⟩) ?_
      rotate_left
      · intro w; first | (go_simp; done) | (go_simp; with_reducible rfl)
      refine wpAny_take (i := 11) (v := ?_) rfl (by kernel_rfl) (by kernel_rfl) (by kernel_rfl) (fun _ _ _ h => h) (Or.inl ⟨by kernel_rfl, ?_⟩) ?_
      rotate_left
      · intro w; first | (go_simp; done) | (go_simp; with_reducible rfl)
      refine wpAny_done (by kernel_rfl) ?_ _
      go_wp2_with fail
      go_ret2
      exact ⟨_, c', rfl, ownL_of rfl (ownMonoL ho5 HBB.out.size), belowNext HBB.out hb5⟩
end Go.Proofs.Ytkpgfafmaoaefaa

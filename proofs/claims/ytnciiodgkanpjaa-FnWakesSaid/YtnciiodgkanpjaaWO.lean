/-
  Contracts: orbits and periods as the model tells them.
  Contracts: lists of integers as results: compared, marked, looked at again.
  Contracts: periods as the model tells them.
-/
import Derived.Test.YtnciiodgkanpjaaW15
import Derived.Test.YtnciiodgkanpjaaW9
import Derived.Test.YtnciiodgkanpjaaW3
namespace Go.Proofs.Ytnciiodgkanpjaa
open Go.RowKit

theorem ang_red {n d : Int} (h : isAng n d = true) : Red (n, d) := by
  obtain ⟨a, b, c, e, f⟩ := isAng_yes h
  exact ⟨a, b, c, e, f⟩
/-- The first k angles of an orbit. -/
def orbList (p : Int × Int) (k : Nat) : List (Int × Int) := (List.range k).map (orb p)
theorem orbList_len (p : Int × Int) (k : Nat) : (orbList p k).length = k := by simp [orbList]
theorem orbList_at {p : Int × Int} {k i : Nat} {n d : Int} (h : (orbList p k)[i]? = some (n, d)) : i < k ∧ orb p i = (n, d) := by
  have hi : i < k := by
    rcases Nat.lt_or_ge i k with h1 | h1
    · exact h1
    · rw [List.getElem?_eq_none (by rw [orbList_len]; exact h1)] at h; cases h
  unfold orbList at h
  rw [List.getElem?_map, List.getElem?_range hi] at h
  injection h with h
  exact ⟨hi, h⟩
theorem own_of_row {w : World} {lo : Nat} {p : Int × Int} {k : Nat} {A : Option Addr} {cap : Nat} (h : w.ownsRow lo 25 2 (.slice A k cap) k (flat p k)) : AngOwn w lo A (orbList p k) := by
  intro hl
  have hk : 0 < k := by
    rcases Nat.eq_zero_or_pos k with h0 | h0
    · subst h0; exact absurd rfl hl
    · exact h0
  obtain ⟨g, c, hv, hlo, hg⟩ := h.form hk
  obtain ⟨rfl, rfl⟩ : A = some ⟨g, 0, none⟩ ∧ cap = c := by injection hv with hA hn hc; exact ⟨hA, hc⟩
  refine ⟨g, 0, rfl, hlo, hg, fun i n d hi => ?_⟩
  obtain ⟨hik, e⟩ := orbList_at hi
  obtain ⟨f1, f2⟩ := flat_at p hik
  rw [e] at f1 f2
  rw [show 0 + i * 2 = i * 2 by omega]
  exact ⟨(h.cellAt _ (by omega)).trans f1, (h.cellAt _ (by omega)).trans f2, h.frozenAt _, h.frozenAt _⟩

def oL (n d : Int) : List (Int × Int) := if isAng n d then (match findOrb (n, d) 65 0 with | some k => orbList (n, d) k | none => []) else []
def oC (n d : Int) : Int := if isAng n d then (match findOrb (n, d) 65 0 with | some _ => 0 | none => 3) else 1
theorem find_le (p : Int × Int) : ∀ (f j : Nat) {k : Nat}, findOrb p f j = some k → k < f + j ∧ j ≤ k ∧ hit p k = true ∧ ∀ i, j ≤ i → i < k → hit p i = false
  | 0, _, _, h => by simp [findOrb] at h
  | f + 1, j, k, h => by
    simp only [findOrb] at h
    split at h
    · next hh =>
      injection h with h; subst h; exact ⟨by omega, by omega, hh, fun i h1 h2 => absurd h1 (by omega)⟩
    · next hh =>
      obtain ⟨a, b, c, e⟩ := find_le p f (j + 1) h
      refine ⟨by omega, by omega, c, fun i h1 h2 => ?_⟩
      by_cases he : i = j
      · subst he; simpa using hh
      · exact e i (by omega) h2
theorem oL_len (n d : Int) : (oL n d).length ≤ 1000000000000 := by
  unfold oL
  split
  · cases e : findOrb (n, d) 65 0 with
    | none => simp
    | some k => have := find_le _ _ _ e; simp only [orbList_len]; omega
  · simp

set_option maxHeartbeats 1000000 in
theorem specOrbitOf (n d : Int) (w : World) : Calls Try.prog 15 #[ang n d] w (ResAng w (oL n d) (oC n d)) := by
  have HS := Lib.hid (fun w => specIs1 n d w)
  cases h1 : isAng n d
  · have e1 : oL n d = [] := by unfold oL; simp [h1]
    have e2 : oC n d = 1 := by unfold oC; simp [h1]
    rw [e1, e2]
    rw [h1] at HS
    clear e1 e2 h1
    go_enter Try.func15, Try.ntmps15
    go_wp2_with fail
    refine (HS.out _).mono ?_
    rintro e w1 ⟨rfl, hb1⟩
    go_wp2
    go_ret2
    refine ⟨none, 0, rfl, own_nil, ?_⟩
    (repeat' (first | (with_reducible exact Below.refl _ _) | (with_reducible assumption) | (with_reducible refine belowNext ?_ (by with_reducible assumption)) | (with_reducible refine belowAlloc ?_ _) | (with_reducible refine Below.drew ?_) | (with_reducible refine below_drewN ?_ _) | (with_reducible refine Below.setCell ?_ ?_ _) | go_size | (with_reducible refine sizeOf' ?_) | (with_reducible refine sizeAdd ?_) | (dsimp only; first | (with_reducible refine sizeOf' ?_) | (with_reducible refine sizeAdd ?_))))
  · have HO := Lib.hid (fun w => specOrbit n d w (ang_red h1))
    rw [h1] at HS
    cases hf : findOrb (n, d) 65 0 with
    | none =>
      have e1 : oL n d = [] := by unfold oL; simp [h1, hf]
      have e2 : oC n d = 3 := by unfold oC; simp [h1, hf]
      rw [e1, e2]
      have HO2 : Hid (∀ w : World, Calls Try.prog 54 #[ang n d] w fun e w' => e = .returned (.tuple #[.slice none 0 0, .int .i64 0, .bool false]) ∧ Below w.heap.size w w') := Lib.hid (fun w => (HO.out w).mono fun e w' h => by unfold ResOrb at h; rw [hf] at h; exact h)
      clear e1 e2 h1 hf HO
      go_enter Try.func15, Try.ntmps15
      go_wp2_with fail
      refine (HS.out _).mono ?_
      rintro e w1 ⟨rfl, hb1⟩
      obtain ⟨hc1, hf1⟩ := bcell hb1
      go_wp2_with fail
      refine (HO2.out _).mono ?_
      rintro e w2 ⟨rfl, hb2⟩
      go_wp2
      go_ret2
      refine ⟨none, 0, rfl, own_nil, ?_⟩
      (repeat' (first | (with_reducible exact Below.refl _ _) | (with_reducible assumption) | (with_reducible refine belowNext ?_ (by with_reducible assumption)) | (with_reducible refine belowAlloc ?_ _) | (with_reducible refine Below.drew ?_) | (with_reducible refine below_drewN ?_ _) | (with_reducible refine Below.setCell ?_ ?_ _) | go_size | (with_reducible refine sizeOf' ?_) | (with_reducible refine sizeAdd ?_) | (dsimp only; first | (with_reducible refine sizeOf' ?_) | (with_reducible refine sizeAdd ?_))))
    | some k =>
      have e1 : oL n d = orbList (n, d) k := by unfold oL; simp [h1, hf]
      have e2 : oC n d = 0 := by unfold oC; simp [h1, hf]
      rw [e1, e2]
      have HO2 : Hid (∀ w : World, Calls Try.prog 54 #[ang n d] w fun e w' => ∃ A cap, e = .returned (.tuple #[.slice A k cap, .int .i64 (pre (n, d) : Int), .bool true]) ∧ w'.ownsRow w.heap.size 25 2 (.slice A k cap) k (flat (n, d) k) ∧ Below w.heap.size w w') := Lib.hid (fun w => (HO.out w).mono fun e w' h => by unfold ResOrb at h; rw [hf] at h; exact h)
      clear e1 e2 h1 hf HO
      go_enter Try.func15, Try.ntmps15
      go_wp2_with fail
      refine (HS.out _).mono ?_
      rintro e w1 ⟨rfl, hb1⟩
      obtain ⟨hc1, hf1⟩ := bcell hb1
      go_wp2_with fail
      refine (HO2.out _).mono ?_
      rintro e w2 ⟨A, cap, rfl, hown, hb2⟩
      have B1 : Below w.heap.size w w1 := by
        (repeat' (first | (with_reducible exact Below.refl _ _) | (with_reducible assumption) | (with_reducible refine belowNext ?_ (by with_reducible assumption)) | (with_reducible refine belowAlloc ?_ _) | (with_reducible refine Below.drew ?_) | (with_reducible refine below_drewN ?_ _) | (with_reducible refine Below.setCell ?_ ?_ _) | go_size | (with_reducible refine sizeOf' ?_) | (with_reducible refine sizeAdd ?_) | (dsimp only; first | (with_reducible refine sizeOf' ?_) | (with_reducible refine sizeAdd ?_))))
      have HW := Lib.hid (own_of_row hown)
      clear hown
      go_wp2
      go_ret2
      refine ⟨A, cap, by rw [orbList_len]; rfl, ?_, belowNext B1 hb2⟩
      intro hl
      obtain ⟨b, off, e, h1, h2, h3⟩ := HW.out hl
      exact ⟨b, off, e, Nat.le_trans B1.size h1, h2, h3⟩

/-- A slice with the address A holds the integers l, in a block below B. -/
def IntRow (w : World) (B : Nat) (A : Option Addr) (l : List Int) : Prop :=
  l ≠ [] → ∃ b off, A = some ⟨b, off, none⟩ ∧ b < B ∧ ∀ i n, l[i]? = some n → w.cell? ⟨b, off + i, none⟩ = some (.int .i64 n)
/-- The same in a block from lo on, whose cells may be written. -/
def IntOwn (w : World) (lo : Nat) (A : Option Addr) (l : List Int) : Prop :=
  l ≠ [] → ∃ b off, A = some ⟨b, off, none⟩ ∧ lo ≤ b ∧ b < w.heap.size ∧ ∀ i n, l[i]? = some n → w.cell? ⟨b, off + i, none⟩ = some (.int .i64 n) ∧ w.frozen? ⟨b, off + i, none⟩ = false
theorem IntRow.keep {w w' : World} {B : Nat} {A : Option Addr} {l : List Int} (h : IntRow w B A l) (hk : ∀ p : Addr, p.block < B → w'.cell? p = w.cell? p) : IntRow w' B A l := by
  intro hl
  obtain ⟨b, off, e, hb, hc⟩ := h hl
  exact ⟨b, off, e, hb, fun i n hi => (hk _ hb).trans (hc i n hi)⟩
theorem IntRow.below {w w' : World} {B : Nat} {A : Option Addr} {l : List Int} (h : IntRow w B A l) (hb : Below B w w') : IntRow w' B A l := h.keep fun _ hp => hb.cell hp
theorem IntRow.more {w : World} {B B' : Nat} {A : Option Addr} {l : List Int} (h : IntRow w B A l) (hB : B ≤ B') : IntRow w B' A l := by
  intro hl
  obtain ⟨b, off, e, hb, hc⟩ := h hl
  exact ⟨b, off, e, by omega, hc⟩
theorem IntOwn.row {w : World} {lo : Nat} {A : Option Addr} {l : List Int} (h : IntOwn w lo A l) : IntRow w w.heap.size A l := by
  intro hl
  obtain ⟨b, off, e, _, hb, hc⟩ := h hl
  exact ⟨b, off, e, hb, fun i n hi => (hc i n hi).1⟩
theorem IntOwn.next {w w' : World} {lo : Nat} {A : Option Addr} {l : List Int} (h : IntOwn w lo A l) (hb : Below w.heap.size w w') : IntOwn w' lo A l := by
  intro hl
  obtain ⟨b, off, e, h1, h2, hc⟩ := h hl
  refine ⟨b, off, e, h1, Nat.lt_of_lt_of_le h2 hb.size, fun i n hi => ?_⟩
  obtain ⟨a1, a2⟩ := hc i n hi
  exact ⟨(hb.cell (p := ⟨b, _, none⟩) h2).trans a1, (hb.frozen (p := ⟨b, _, none⟩) h2).trans a2⟩

/-- The marks that are written: k, k + 1, and so on. -/
def marksI (k : Int) (n : Nat) : List Int := (List.range n).map fun (i : Nat) => k + (i : Int)
theorem marksI_len (k : Int) (n : Nat) : (marksI k n).length = n := by simp [marksI]
theorem marksI_at {k : Int} {n i : Nat} (h : i < n) : (marksI k n)[i]? = some (k + (i : Int)) := by
  simp [marksI, List.getElem?_map, List.getElem?_range h]
def markedI (k : Int) (l : List Int) (n : Nat) : List Int := marksI k n ++ l.drop n
theorem markedI_all (k : Int) (l : List Int) : markedI k l l.length = marksI k l.length := by simp [markedI]
theorem markedI_none (k : Int) (l : List Int) : markedI k l 0 = l := by simp [markedI, marksI]
theorem markedI_old {k : Int} {l : List Int} {n i : Nat} (h : n ≤ i) : (markedI k l n)[i]? = l[i]? := by
  unfold markedI
  rw [List.getElem?_append_right (by rw [marksI_len]; exact h), marksI_len, List.getElem?_drop]
  congr 1; omega
theorem markedI_new {k : Int} {l : List Int} {n i : Nat} (h : i < n) : (markedI k l n)[i]? = some (k + (i : Int)) := by
  unfold markedI
  rw [List.getElem?_append_left (by rw [marksI_len]; exact h), marksI_at h]
theorem markI_step {W : World} {lo b off k : Nat} {k0 : Int} {l : List Int} (hkl : k < l.length) (hlo : lo ≤ b) (hb : b < W.heap.size)
    (hc : ∀ i n, (markedI k0 l k)[i]? = some n → W.cell? ⟨b, off + i, none⟩ = some (.int .i64 n) ∧ W.frozen? ⟨b, off + i, none⟩ = false) :
    IntOwn (W.setCell ⟨b, off + k, none⟩ (.int .i64 (k0 + (k : Int)))) lo (some ⟨b, off, none⟩) (markedI k0 l (k + 1)) := by
  intro _
  refine ⟨b, off, rfl, hlo, by simpa using hb, fun i n hi => ?_⟩
  by_cases hik : i = k
  · subst hik
    have hx := markedI_new (k := k0) (l := l) (show i < i + 1 by omega)
    rw [hx] at hi
    injection hi with hi
    subst hi
    have hy : (markedI k0 l i)[i]? = some l[i] := by rw [markedI_old (Nat.le_refl _), List.getElem?_eq_getElem hkl]
    obtain ⟨a1, a2⟩ := hc i _ hy
    exact ⟨World.cell?_setCell_same _ _ _ a1, by simpa using a2⟩
  · have hy : (markedI k0 l k)[i]? = some n := by
      by_cases h : i < k
      · rw [markedI_new h, ← hi, markedI_new (by omega)]
      · rw [markedI_old (by omega), ← hi, markedI_old (by omega)]
    obtain ⟨a1, a2⟩ := hc i _ hy
    exact ⟨(World.cell?_setCell_other _ _ _ _ (by intro e; injection e; omega)).trans a1, by simpa using a2⟩

/-- A list of integers in new memory, and a code. -/
def ResInt (w : World) (l : List Int) (c : Int) (e : Ending) (w' : World) : Prop :=
  ∃ A cap, e = .returned (.tuple #[.slice A l.length cap, .int .i64 c]) ∧ IntOwn w' w.heap.size A l ∧ Below w.heap.size w w'
theorem ownI_nil {w : World} {lo : Nat} {A : Option Addr} : IntOwn w lo A [] := fun h => absurd rfl h
theorem ownI2 {w : World} (W : World) (B : Below w.heap.size w W) (T : TypeId) (a b : Int) (g : Nat) (hg : g = W.heap.size) : IntOwn (W.alloc (.cells #[.int .i64 a, .int .i64 b] T)) w.heap.size (some ⟨g, 0, none⟩) [a, b] := by
  subst hg
  intro _
  refine ⟨W.heap.size, 0, rfl, B.size, by simp, fun i n hi => ?_⟩
  match i, hi with
  | 0, hi => simp at hi; subst hi; exact ⟨by simp [go_sem], by simp [go_sem]⟩
  | 1, hi => simp at hi; subst hi; exact ⟨by simp [go_sem], by simp [go_sem]⟩
def pL (n d : Int) : List Int := if isAng n d then (match findOrb (n, d) 65 0 with | some k => [(pre (n, d) : Int), (k : Int) - (pre (n, d) : Int)] | none => []) else []
theorem pL_len (n d : Int) : (pL n d).length ≤ 1000000000000 := by
  unfold pL
  split
  · cases findOrb (n, d) 65 0 <;> simp
  · simp

set_option maxHeartbeats 1000000 in
theorem specPeriodsOf (n d : Int) (w : World) : Calls Try.prog 17 #[ang n d] w (ResInt w (pL n d) (oC n d)) := by
  have HS := Lib.hid (fun w => specIs1 n d w)
  cases h1 : isAng n d
  · have e1 : pL n d = [] := by unfold pL; simp [h1]
    have e2 : oC n d = 1 := by unfold oC; simp [h1]
    rw [e1, e2]
    rw [h1] at HS
    clear e1 e2 h1
    go_enter Try.func17, Try.ntmps17
    go_wp2_with fail
    refine (HS.out _).mono ?_
    rintro e w1 ⟨rfl, hb1⟩
    go_wp2
    go_ret2
    refine ⟨none, 0, rfl, ownI_nil, ?_⟩
    (repeat' (first | (with_reducible exact Below.refl _ _) | (with_reducible assumption) | (with_reducible refine belowNext ?_ (by with_reducible assumption)) | (with_reducible refine belowAlloc ?_ _) | (with_reducible refine Below.drew ?_) | (with_reducible refine below_drewN ?_ _) | (with_reducible refine Below.setCell ?_ ?_ _) | go_size | (with_reducible refine sizeOf' ?_) | (with_reducible refine sizeAdd ?_) | (dsimp only; first | (with_reducible refine sizeOf' ?_) | (with_reducible refine sizeAdd ?_))))
  · have HO := Lib.hid (fun w => specOrbit n d w (ang_red h1))
    rw [h1] at HS
    cases hf : findOrb (n, d) 65 0 with
    | none =>
      have e1 : pL n d = [] := by unfold pL; simp [h1, hf]
      have e2 : oC n d = 3 := by unfold oC; simp [h1, hf]
      rw [e1, e2]
      have HO2 : Hid (∀ w : World, Calls Try.prog 54 #[ang n d] w fun e w' => e = .returned (.tuple #[.slice none 0 0, .int .i64 0, .bool false]) ∧ Below w.heap.size w w') := Lib.hid (fun w => (HO.out w).mono fun e w' h => by unfold ResOrb at h; rw [hf] at h; exact h)
      clear e1 e2 h1 hf HO
      go_enter Try.func17, Try.ntmps17
      go_wp2_with fail
      refine (HS.out _).mono ?_
      rintro e w1 ⟨rfl, hb1⟩
      obtain ⟨hc1, hf1⟩ := bcell hb1
      go_wp2_with fail
      refine (HO2.out _).mono ?_
      rintro e w2 ⟨rfl, hb2⟩
      go_wp2
      go_ret2
      refine ⟨none, 0, rfl, ownI_nil, ?_⟩
      (repeat' (first | (with_reducible exact Below.refl _ _) | (with_reducible assumption) | (with_reducible refine belowNext ?_ (by with_reducible assumption)) | (with_reducible refine belowAlloc ?_ _) | (with_reducible refine Below.drew ?_) | (with_reducible refine below_drewN ?_ _) | (with_reducible refine Below.setCell ?_ ?_ _) | go_size | (with_reducible refine sizeOf' ?_) | (with_reducible refine sizeAdd ?_) | (dsimp only; first | (with_reducible refine sizeOf' ?_) | (with_reducible refine sizeAdd ?_))))
    | some k =>
      have e1 : pL n d = [(pre (n, d) : Int), (k : Int) - (pre (n, d) : Int)] := by unfold pL; simp [h1, hf]
      have e2 : oC n d = 0 := by unfold oC; simp [h1, hf]
      rw [e1, e2]
      obtain ⟨P, hP⟩ : ∃ P, pre (n, d) = P := ⟨_, rfl⟩
      have hPk : P ≤ 14 := by rw [← hP]; exact twos_le 14 d
      have hkk : k ≤ 65 := by have := (find_le _ _ _ hf).1; omega
      have HO2 : Hid (∀ w : World, Calls Try.prog 54 #[ang n d] w fun e w' => ∃ A cap, e = .returned (.tuple #[.slice A k cap, .int .i64 (pre (n, d) : Int), .bool true]) ∧ w'.ownsRow w.heap.size 25 2 (.slice A k cap) k (flat (n, d) k) ∧ Below w.heap.size w w') := Lib.hid (fun w => (HO.out w).mono fun e w' h => by unfold ResOrb at h; rw [hf] at h; exact h)
      rw [hP] at HO2 ⊢
      clear e1 e2 h1 hf HO hP
      go_enter Try.func17, Try.ntmps17
      go_wp2_with fail
      refine (HS.out _).mono ?_
      rintro e w1 ⟨rfl, hb1⟩
      obtain ⟨hc1, hf1⟩ := bcell hb1
      go_wp2_with fail
      refine (HO2.out _).mono ?_
      rintro e w2 ⟨A, cap, rfl, hown, hb2⟩
      have B1 : Below w.heap.size w w1 := by
        (repeat' (first | (with_reducible exact Below.refl _ _) | (with_reducible assumption) | (with_reducible refine belowNext ?_ (by with_reducible assumption)) | (with_reducible refine belowAlloc ?_ _) | (with_reducible refine Below.drew ?_) | (with_reducible refine below_drewN ?_ _) | (with_reducible refine Below.setCell ?_ ?_ _) | go_size | (with_reducible refine sizeOf' ?_) | (with_reducible refine sizeAdd ?_) | (dsimp only; first | (with_reducible refine sizeOf' ?_) | (with_reducible refine sizeAdd ?_))))
      have B2 : Below w.heap.size w w2 := belowNext B1 hb2
      clear hown hb2 hb1
      go_wp2
      try go_region
      all_goals
        go_wp2
        go_ret2
        refine ⟨some ⟨_, 0, none⟩, 2, rfl, ownI2 _ ?_ _ _ _ _ ?_, ?_⟩
        · (repeat' (first | (with_reducible exact Below.refl _ _) | (with_reducible assumption) | (with_reducible refine belowNext ?_ (by with_reducible assumption)) | (with_reducible refine belowAlloc ?_ _) | (with_reducible refine Below.drew ?_) | (with_reducible refine below_drewN ?_ _) | (with_reducible refine Below.setCell ?_ ?_ _) | go_size | (with_reducible refine sizeOf' ?_) | (with_reducible refine sizeAdd ?_) | (dsimp only; first | (with_reducible refine sizeOf' ?_) | (with_reducible refine sizeAdd ?_))))
        · simp
        · (repeat' (first | (with_reducible exact Below.refl _ _) | (with_reducible assumption) | (with_reducible refine belowNext ?_ (by with_reducible assumption)) | (with_reducible refine belowAlloc ?_ _) | (with_reducible refine Below.drew ?_) | (with_reducible refine below_drewN ?_ _) | (with_reducible refine Below.setCell ?_ ?_ _) | go_size | (with_reducible refine sizeOf' ?_) | (with_reducible refine sizeAdd ?_) | (dsimp only; first | (with_reducible refine sizeOf' ?_) | (with_reducible refine sizeAdd ?_))))
end Go.Proofs.Ytnciiodgkanpjaa

/-
  A row of rows that a call owns, and to which it appends; the orbit and the pairs as the model tells them.
-/
import Derived.Test.YtjomgbjiognmmaaH3
import Derived.Laws.OwnMore
namespace Go.Proofs.Ytjomgbjiognmmaa
open Go.RowKit

/-- A row of rows, owned: row i lies at (bb i, oo i). -/
structure RowsAt (W : World) (lo : Nat) (v : Value) (n : Nat) (ln : Nat → Nat) (f : Tab) (bb oo : Nat → Nat) : Prop where
  own : ∃ xs, W.ownsRow lo 32 1 v n xs ∧ ∀ i, i < n → ∃ A cap, xs[i]? = some (.slice A (ln i) cap) ∧ (0 < ln i → A = some ⟨bb i, oo i, none⟩)
  row : ∀ i, i < n → 0 < ln i → lo ≤ bb i ∧ bb i < W.heap.size ∧ some (bb i) ≠ v.ownBlock
  cell : ∀ i j, i < n → j < ln i → W.cell? ⟨bb i, oo i + j, none⟩ = some (.int .i64 (f i j)) ∧ W.frozen? ⟨bb i, oo i + j, none⟩ = false
  apart : ∀ i k j m, i < n → k < n → i ≠ k → j < ln i → m < ln k → bb i = bb k → oo i + j ≠ oo k + m
theorem rowsAt_nil {W : World} {lo : Nat} {ln : Nat → Nat} {f : Tab} {bb oo : Nat → Nat} : RowsAt W lo (.slice none 0 0) 0 ln f bb oo :=
  ⟨⟨[], ownNone8, fun i hi => absurd hi (by omega)⟩, fun i hi => absurd hi (by omega), fun i j hi => absurd hi (by omega), fun i k j m hi => absurd hi (by omega)⟩
theorem RowsAt.next {W W' : World} {lo : Nat} {v : Value} {n : Nat} {ln : Nat → Nat} {f : Tab} {bb oo : Nat → Nat} (h : RowsAt W lo v n ln f bb oo) (hb : Below W.heap.size W W') : RowsAt W' lo v n ln f bb oo := by
  obtain ⟨xs, h1, h2⟩ := h.own
  refine ⟨⟨xs, ownNext8 h1 hb, h2⟩, fun i hi h0 => ?_, fun i j hi hj => ?_, h.apart⟩
  · obtain ⟨a, b, c⟩ := h.row i hi h0
    exact ⟨a, Nat.lt_of_lt_of_le b hb.size, c⟩
  · obtain ⟨a, b⟩ := h.cell i j hi hj
    have h3 := (h.row i hi (by omega)).2.1
    exact ⟨(hb.cell (p := ⟨bb i, _, none⟩) h3).trans a, (hb.frozen (p := ⟨bb i, _, none⟩) h3).trans b⟩
theorem RowsAt.congr {W : World} {lo : Nat} {v : Value} {n : Nat} {ln ln' : Nat → Nat} {f f' : Tab} {bb oo : Nat → Nat} (h : RowsAt W lo v n ln f bb oo) (e : ∀ i, i < n → ln i = ln' i) (e2 : ∀ i j, i < n → j < ln i → f i j = f' i j) : RowsAt W lo v n ln' f' bb oo := by
  obtain ⟨xs, h1, h2⟩ := h.own
  refine ⟨⟨xs, h1, fun i hi => by rw [← e i hi]; exact h2 i hi⟩, fun i hi h0 => h.row i hi (by rw [e i hi]; exact h0), fun i j hi hj => ?_, fun i k j m hi hk hne hj hm => h.apart i k j m hi hk hne (by rw [e i hi]; exact hj) (by rw [e k hk]; exact hm)⟩
  rw [← e i hi] at hj
  rw [← e2 i j hi hj]; exact h.cell i j hi hj
theorem RowsAt.tab {W : World} {lo : Nat} {A : Option Addr} {n c : Nat} {ln : Nat → Nat} {f : Tab} {bb oo : Nat → Nat} (h : RowsAt W lo (.slice A n c) n ln f bb oo) : TabOwn W lo A n ln f := by
  intro hn
  obtain ⟨xs, h1, h2⟩ := h.own
  obtain ⟨g, c', hv, hg1, hg2⟩ := h1.form hn
  obtain ⟨rfl, rfl⟩ : A = some ⟨g, 0, none⟩ ∧ c = c' := by injection hv with hA _ hc; exact ⟨hA, hc⟩
  refine ⟨g, 0, bb, oo, rfl, hg1, hg2, fun i hi => ?_, fun i hi h0 => ?_, h.cell, h.apart⟩
  · obtain ⟨Ai, ci, e1, e2⟩ := h2 i hi
    refine ⟨Ai, ci, ?_, e2⟩
    rw [Nat.zero_add]
    exact (h1.cellAt i (by omega)).trans e1
  · obtain ⟨a, b, c⟩ := h.row i hi h0
    exact ⟨a, b, fun e => c (by rw [e]; rfl)⟩
/-- One more row behind the others. -/
theorem RowsAt.push {W W2 : World} {lo : Nat} {v v' : Value} {n : Nat} {ln : Nat → Nat} {f : Tab} {bb oo : Nat → Nat} (h : RowsAt W lo v n ln f bb oo) {xs : List Value} (hx : ∀ i, i < n → ∃ A cap, xs[i]? = some (.slice A (ln i) cap) ∧ (0 < ln i → A = some ⟨bb i, oo i, none⟩)) (hl : xs.length = n)
    {A : Option Addr} {m cap b o : Nat} {r : Nat → Int} (hA : 0 < m → A = some ⟨b, o, none⟩ ∧ lo ≤ b ∧ b < W.heap.size ∧ some b ≠ v.ownBlock ∧ ∀ j, j < m → W.cell? ⟨b, o + j, none⟩ = some (.int .i64 (r j)) ∧ W.frozen? ⟨b, o + j, none⟩ = false)
    (hap : ∀ i j k, i < n → j < ln i → k < m → bb i = b → oo i + j ≠ o + k)
    (hown : W2.ownsRow lo 32 1 v' (n + 1) (xs ++ [.slice A m cap])) (hg : W.grownBy W2 v.ownBlock) (hv : v'.ownBlock = v.ownBlock ∨ ∃ b, v'.ownBlock = some b ∧ W.heap.size ≤ b) :
    RowsAt W2 lo v' (n + 1) (fun i => if i = n then m else ln i) (fun i => if i = n then r else f i) (fun i => if i = n then b else bb i) (fun i => if i = n then o else oo i) := by
  have ne : ∀ c, c < W.heap.size → some c ≠ v.ownBlock → some c ≠ v'.ownBlock := by
    intro c hc h1 h2
    rcases hv with e | ⟨b', e, hb'⟩
    · rw [e] at h2; exact h1 h2
    · rw [e] at h2; have := Option.some.inj h2; omega
  refine ⟨⟨_, hown, fun i hi => ?_⟩, fun i hi h0 => ?_, fun i j hi hj => ?_, fun i k j m' hi hk hne hj hm he => ?_⟩
  · by_cases e : i = n
    · subst e
      simp only [if_pos]
      exact ⟨A, cap, by rw [List.getElem?_append_right (by omega), hl, Nat.sub_self]; rfl, fun h0 => (hA h0).1⟩
    · simp only [if_neg e]
      obtain ⟨B, c, h1, h2⟩ := hx i (by omega)
      exact ⟨B, c, by rw [List.getElem?_append_left (by omega)]; exact h1, h2⟩
  · by_cases e : i = n
    · subst e
      simp only [if_pos] at h0 ⊢
      obtain ⟨_, h1, h2, h3, _⟩ := hA h0
      exact ⟨h1, Nat.lt_of_lt_of_le h2 hg.size, ne _ h2 h3⟩
    · simp only [if_neg e] at h0 ⊢
      obtain ⟨h1, h2, h3⟩ := h.row i (by omega) h0
      exact ⟨h1, Nat.lt_of_lt_of_le h2 hg.size, ne _ h2 h3⟩
  · by_cases e : i = n
    · subst e
      simp only [if_pos] at hj ⊢
      obtain ⟨_, h1, h2, h3, h4⟩ := hA (by omega)
      obtain ⟨a1, a2⟩ := h4 j hj
      have hbk := hg.block b h2 h3
      exact ⟨(World.cell?_of_block (a := ⟨b, o + j, none⟩) hbk).trans a1, (World.frozen?_of_block (a := ⟨b, o + j, none⟩) hbk).trans a2⟩
    · simp only [if_neg e] at hj ⊢
      obtain ⟨h1, h2, h3⟩ := h.row i (by omega) (by omega)
      obtain ⟨a1, a2⟩ := h.cell i j (by omega) hj
      have hbk := hg.block (bb i) h2 h3
      exact ⟨(World.cell?_of_block (a := ⟨bb i, oo i + j, none⟩) hbk).trans a1, (World.frozen?_of_block (a := ⟨bb i, oo i + j, none⟩) hbk).trans a2⟩
  · by_cases e : i = n
    · subst e
      have e2 : k ≠ i := fun x => hne x.symm
      simp only [if_pos, if_neg e2] at hj hm he ⊢
      exact fun x => hap k m' j (by omega) hm hj he.symm x.symm
    · by_cases e2 : k = n
      · subst e2
        simp only [if_pos, if_neg e] at hj hm he ⊢
        exact hap i j m' (by omega) hj hm he
      · simp only [if_neg e, if_neg e2] at hj hm he ⊢
        exact h.apart i k j m' (by omega) (by omega) hne hj hm he

set_option maxRecDepth 8000 in
set_option maxHeartbeats 2000000 in
theorem specOrb8 (n d : Int) (w : World) : Calls Try.prog 39 #[ang n d] w (ResAng w (o8 n d) (c8 n d)) := by
  have HS := Lib.hid (fun w => specIs1 n d w)
  rcases o8_cases n d with ⟨_, _, e1, e2, h1⟩ | ⟨a, _, e1, e2, h1⟩ | ⟨a, b, e1, e2, h1⟩ | ⟨a, b, _, e1, e2, h1⟩
  · rw [e1, e2]
    rw [h1] at HS
    clear e1 e2 h1
    go_enter Try.func39, Try.ntmps39
    go_wp2_with fail
    refine (HS.out _).mono ?_
    rintro e w1 ⟨rfl, hb1⟩
    go_wp2
    go_ret2
    refine ⟨none, 0, rfl, own_nil, ?_⟩
    (repeat' (first | (with_reducible exact Below.refl _ _) | (with_reducible assumption) | (with_reducible refine belowNext ?_ (by with_reducible assumption)) | (with_reducible refine belowAlloc ?_ _) | (with_reducible refine Below.drew ?_) | (with_reducible refine below_drewN ?_ _) | (with_reducible refine Below.setCell ?_ ?_ _) | go_size | (with_reducible refine sizeOf' ?_) | (with_reducible refine sizeAdd ?_) | (dsimp only; first | (with_reducible refine sizeOf' ?_) | (with_reducible refine sizeAdd ?_))))
  · have HO := Lib.hid (fun w => specOrbit n d w (ang_red h1))
    rw [e1, e2]
    rw [h1] at HS
    have hf : findOrb (n, d) 65 0 = none := by
      cases hf : findOrb (n, d) 65 0 with
      | none => rfl
      | some k => unfold oC at a; simp [h1, hf] at a
    have HO2 : Hid (∀ w : World, Calls Try.prog 67 #[ang n d] w fun e w' => e = .returned (.tuple #[.slice none 0 0, .int .i64 0, .bool false]) ∧ Below w.heap.size w w') := Lib.hid (fun w => (HO.out w).mono fun e w' h => by unfold ResOrb at h; rw [hf] at h; exact h)
    clear e1 e2 h1 hf HO a
    go_enter Try.func39, Try.ntmps39
    go_wp2_with fail
    refine (HS.out _).mono ?_
    rintro e w1 ⟨rfl, hb1⟩
    obtain ⟨hc1, hf1⟩ := bcell hb1
    go_wp2_with fail
    refine (HO2.out _).mono ?_
    rintro e w2 ⟨rfl, hb2⟩
    go_wp2
    go_ret2
    refine ⟨none, 0, rfl, own_nil, ?_⟩
    (repeat' (first | (with_reducible exact Below.refl _ _) | (with_reducible assumption) | (with_reducible refine belowNext ?_ (by with_reducible assumption)) | (with_reducible refine belowAlloc ?_ _) | (with_reducible refine Below.drew ?_) | (with_reducible refine below_drewN ?_ _) | (with_reducible refine Below.setCell ?_ ?_ _) | go_size | (with_reducible refine sizeOf' ?_) | (with_reducible refine sizeAdd ?_) | (dsimp only; first | (with_reducible refine sizeOf' ?_) | (with_reducible refine sizeAdd ?_))))
  all_goals
    have HO := Lib.hid (fun w => specOrbit n d w (ang_red h1))
    obtain ⟨k, hf⟩ : ∃ k, findOrb (n, d) 65 0 = some k := by
      cases hf : findOrb (n, d) 65 0 with
      | none => unfold oC at a; simp [h1, hf] at a
      | some k => exact ⟨k, rfl⟩
    have e3 : oL n d = orbList (n, d) k := by unfold oL; simp [h1, hf]
    rw [e1, e2]
    rw [h1] at HS
    have HO2 : Hid (∀ w : World, Calls Try.prog 67 #[ang n d] w fun e w' => ∃ A cap, e = .returned (.tuple #[.slice A k cap, .int .i64 (pre (n, d) : Int), .bool true]) ∧ w'.ownsRow w.heap.size 27 2 (.slice A k cap) k (flat (n, d) k) ∧ Below w.heap.size w w') := Lib.hid (fun w => (HO.out w).mono fun e w' h => by unfold ResOrb at h; rw [hf] at h; exact h)
    rw [e3] at b
    try rw [e3]
    rw [orbList_len] at b
    clear e1 e2 h1 hf HO a e3
  · have d7 : decide ((k : Int) > 7) = true := decide_eq_true (by omega)
    have d7' : decide ((7 : Int) < (k : Int)) = true := decide_eq_true (by omega)
    have d7n : decide (7 < k) = true := decide_eq_true (by omega)
    go_enter Try.func39, Try.ntmps39
    go_wp2_with fail
    refine (HS.out _).mono ?_
    rintro e w1 ⟨rfl, hb1⟩
    obtain ⟨hc1, hf1⟩ := bcell hb1
    go_wp2_with fail
    refine (HO2.out _).mono ?_
    rintro e w2 ⟨A, cap, rfl, hown, hb2⟩
    go_wp2
    go_ret2
    refine ⟨none, 0, rfl, own_nil, ?_⟩
    (repeat' (first | (with_reducible exact Below.refl _ _) | (with_reducible assumption) | (with_reducible refine belowNext ?_ (by with_reducible assumption)) | (with_reducible refine belowAlloc ?_ _) | (with_reducible refine Below.drew ?_) | (with_reducible refine below_drewN ?_ _) | (with_reducible refine Below.setCell ?_ ?_ _) | go_size | (with_reducible refine sizeOf' ?_) | (with_reducible refine sizeAdd ?_) | (dsimp only; first | (with_reducible refine sizeOf' ?_) | (with_reducible refine sizeAdd ?_))))
  · have d7 : decide ((k : Int) > 7) = false := decide_eq_false (by omega)
    have d7' : decide ((7 : Int) < (k : Int)) = false := decide_eq_false (by omega)
    have d7n : decide (7 < k) = false := decide_eq_false (by omega)
    go_enter Try.func39, Try.ntmps39
    go_wp2_with fail
    refine (HS.out _).mono ?_
    rintro e w1 ⟨rfl, hb1⟩
    obtain ⟨hc1, hf1⟩ := bcell hb1
    go_wp2_with fail
    refine (HO2.out _).mono ?_
    rintro e w2 ⟨A, cap, rfl, hown, hb2⟩
    have B1 : Below w.heap.size w w1 := by
      (repeat' (first | (with_reducible exact Below.refl _ _) | (with_reducible assumption) | (with_reducible refine belowNext ?_ (by with_reducible assumption)) | (with_reducible refine belowAlloc ?_ _) | (with_reducible refine Below.drew ?_) | (with_reducible refine below_drewN ?_ _) | (with_reducible refine Below.setCell ?_ ?_ _) | go_size | (with_reducible refine sizeOf' ?_) | (with_reducible refine sizeAdd ?_) | (dsimp only; first | (with_reducible refine sizeOf' ?_) | (with_reducible refine sizeAdd ?_))))
    have HW := Lib.hid (own_of_row hown)
    clear hown
    go_wp2
    go_ret2
    exact ⟨A, cap, by rw [orbList_len]; rfl, HW.out.low8 B1.size, belowNext B1 hb2⟩

theorem rowsAt_lit {W : World} {lo : Nat} (hl : lo ≤ W.heap.size) {ln : Nat → Nat} {f : Tab} {bb oo : Nat → Nat} : RowsAt (W.alloc (.cells #[] 32)) lo (.slice (some ⟨W.heap.size, 0, none⟩) 0 0) 0 ln f bb oo :=
  ⟨⟨[], World.ownsRow_lit W #[] 0 hl (by decide) rfl, fun i hi => absurd hi (by omega)⟩, fun i hi => absurd hi (by omega), fun i j hi => absurd hi (by omega), fun i k j m hi => absurd hi (by omega)⟩
theorem pF_old {l : List (Int × Int)} {p : Int × Int} {i j : Nat} (h : i < l.length) : pF l i j = pF (l ++ [p]) i j := by
  unfold pF
  rw [List.getD_eq_getElem?_getD, List.getD_eq_getElem?_getD, List.getElem?_append_left h]
theorem pF_new {l : List (Int × Int)} {p : Int × Int} {j : Nat} : pF (l ++ [p]) l.length j = if j = 0 then p.1 else p.2 := by
  unfold pF
  rw [List.getD_eq_getElem?_getD, List.getElem?_append_right (Nat.le_refl _), Nat.sub_self]; rfl

set_option maxRecDepth 8000 in
set_option maxHeartbeats 4000000 in
theorem specPairs8 (m : Nat) (hm : m ≤ 7) (w : World) : Calls Try.prog 40 #[.int .i64 m] w fun e w' => ∃ A cap, e = .returned (.slice A (prL m).length cap) ∧ Hid (TabOwn w' w.heap.size A (prL m).length (fun _ => 2) (pF (prL m))) ∧ Below w.heap.size w w' := by
  obtain ⟨i0, hi, hz0, hz1, hz2⟩ := infoS8_parts
  have HI := Lib.hid hi
  have HZ0 := Lib.hid hz0
  clear hi hz0
  go_enter Try.func40, Try.ntmps40
  go_wp2
  go_loopg [3, 4, 5] m (fun g s3 s4 _ wr => ∃ (k P N : Nat) (v : Value), k + g = m ∧ Hid (P = k + 1) ∧ s4 = .int .i64 (P : Int) ∧ s3 = v ∧ Hid ((prK m k).length = N) ∧ Hid (∃ bb oo, RowsAt wr w.heap.size v N (fun _ => 2) (pF (prK m k)) bb oo) ∧ Below w.heap.size w wr)
  case atStart => exact ⟨0, 1, 0, _, by omega, Lib.hid rfl, rfl, rfl, Lib.hid rfl, Lib.hid ⟨fun _ => 0, fun _ => 0, rowsAt_lit (Nat.le_refl _)⟩, belowAlloc (Below.refl _ _) _⟩
  case round =>
    obtain ⟨k, P, N, v, hkg, HP, rfl, ev, HN, HR, HB⟩ := hrel
    have ev := ev.symm
    subst ev
    have hP := HP.out
    cases gk with
    | zero =>
      obtain rfl : k = m := by omega
      have d1 : decide ((P : Int) ≤ (k : Int)) = false := decide_eq_false (by omega)
      have d1n : decide (P ≤ k) = false := decide_eq_false (by omega)
      obtain ⟨bb, oo, hR⟩ := HR.out
      obtain ⟨xs, ho, hx⟩ := hR.own
      obtain ⟨A, c, rfl, _⟩ := ownForm8 ho
      have HT : Hid (TabOwn wr w.heap.size A (prL k).length (fun _ => 2) (pF (prL k))) := Lib.hid (by
        have := hR.tab
        rw [← HN.out] at this
        exact this)
      have HN2 : Hid (N = (prL k).length) := Lib.hid HN.out.symm
      clear hkg hP hR ho hx HR HN
      go_wp2
      go_ret
      exact ⟨A, c, by rw [HN2.out]; rfl, HT, HB⟩
    | succ g =>
      have hkm : k < m := by omega
      have HKG := Lib.hid hkg
      have d1 : decide ((P : Int) ≤ (m : Int)) = true := decide_eq_true (by omega)
      have d1n : decide (P ≤ m) = true := decide_eq_true (by omega)
      have hs1 : IntKind.i64.wrap ((P : Int) + 1) = (P : Int) + 1 := IntWalk.i64_in _ (by omega)
      clear hkg hP
      go_wp2
      go_loopg [3, 5] (m - (k + 1)) (fun g s3 s5 wx => ∃ (j J N : Nat) (v : Value), j + g = m - (k + 1) ∧ Hid (J = k + 2 + j) ∧ s5 = .int .i64 (J : Int) ∧ s3 = v ∧ Hid ((prK m k ++ innP k j).length = N) ∧ Hid (∃ bb oo, RowsAt wx w.heap.size v N (fun _ => 2) (pF (prK m k ++ innP k j)) bb oo) ∧ Below w.heap.size w wx)
      case atStart => exact ⟨0, P + 1, N, _, by omega, Lib.hid (by have := HP.out; omega), by go_num, rfl, by rw [innP_zero, List.append_nil]; exact HN, by rw [innP_zero, List.append_nil]; exact HR, HB⟩
      case round =>
        clear HN HR HB
        obtain ⟨j, J, N, v, hjg, HJ, rfl, ev, HN, HR, HB⟩ := hrel
        have ev := ev.symm
        subst ev
        have hJ := HJ.out
        cases gk with
        | zero =>
          have d2 : decide ((J : Int) ≤ (m : Int)) = false := decide_eq_false (by omega)
          have d2n : decide (J ≤ m) = false := decide_eq_false (by omega)
          have e : prK m k ++ innP k j = prK m (k + 1) := by rw [show j = m - (k + 1) by omega]; rfl
          rw [e] at HN HR
          clear e hJ hjg
          go_wp2
          go_roundg g
          case measure => omega
          case rel => exact ⟨k + 1, P + 1, N, _, by have := HKG.out; omega, Lib.hid (by have := HP.out; omega), by go_num, rfl, HN, HR, HB⟩
        | succ g2 =>
          have d2 : decide ((J : Int) ≤ (m : Int)) = true := decide_eq_true (by omega)
          have d2n : decide (J ≤ m) = true := decide_eq_true (by omega)
          have hs2 : IntKind.i64.wrap ((J : Int) + 1) = (J : Int) + 1 := IntWalk.i64_in _ (by omega)
          have hbd := prK_bound hm hkm (q := j) (by omega)
          rw [HN.out] at hbd
          obtain ⟨bb, oo, hR⟩ := HR.out
          obtain ⟨xs, hown, hx⟩ := hR.own
          have HRR := Lib.hid (And.intro hR hx)
          have HJG := Lib.hid hjg
          have hi := HI.out
          have hz0 := HZ0.out
          have hzS := HB.size
          have HX := Lib.hid hown.1
          clear hJ hjg hR hx HR
          go_wp2_with (at_builtin; refine wpList_append_own_at _ rfl _ _ 24 rfl w.heap.size 32 i0 (.slice none 0 0) 1 24 Try.underlying24 hi hz0 hz1 hz2 rfl (by decide) v N xs rfl (World.ownsRow.alloc (World.ownsRow.alloc hown _) _) ⟨wr.heap.size + 1, 0, none⟩ 1 1 [.slice (some ⟨wr.heap.size, 0, none⟩) 2 2] rfl rfl ?c1 ?c2 ?c3 ?c4 ?c5 ?_)
          case c2 => first | rfl | (intro u hu; simp at hu; subst hu; rfl)
          case c3 => unfold maxLen; omega
          case c4 => omega
          case c5 => first | omega | (simp; omega)
          intro v' w1 hown' hgrow _ hat
          have HE : Hid (∃ bb oo, RowsAt w1 w.heap.size v' (N + 1) (fun _ => 2) (pF (prK m k ++ innP k (j + 1))) bb oo) := Lib.hid (by
            have hb : Below wr.heap.size wr ((wr.alloc (.cells #[.int .i64 (P : Int), .int .i64 (J : Int)] 2)).alloc (.cells #[.slice (some ⟨wr.heap.size, 0, none⟩) 2 2] 32)) := belowAlloc (belowAlloc (Below.refl _ _) _) _
            have e1 : (P : Int) = (k : Int) + 1 := by have := HP.out; omega
            have e2 : (J : Int) = (k : Int) + 2 + (j : Int) := by have := HJ.out; omega
            have hlt : ∀ i, i < N → bb i < wr.heap.size := fun i hi => (HRR.out.1.row i hi (by omega)).2.1
            have hob : some wr.heap.size ≠ v.ownBlock := fun e => by have := (World.ownsRow.lt hown _ e.symm).2; omega
            have h := RowsAt.push (W := (wr.alloc (.cells #[.int .i64 (P : Int), .int .i64 (J : Int)] 2)).alloc (.cells #[.slice (some ⟨wr.heap.size, 0, none⟩) 2 2] 32)) (b := wr.heap.size) (o := 0) (m := 2) (r := fun j' => if j' = 0 then (P : Int) else (J : Int)) (HRR.out.1.next hb) (xs := xs) HRR.out.2 (by have := HX.out; omega) (A := some ⟨wr.heap.size, 0, none⟩) (cap := 2)
              (fun _ => ⟨rfl, hzS, by simp; omega, hob, fun j' hj' => by
                match j', hj' with
                | 0, _ => exact ⟨by simp [go_sem], by simp [go_sem]⟩
                | 1, _ => exact ⟨by simp [go_sem], by simp [go_sem]⟩⟩) (fun i j' k' hi _ _ he => by have := hlt i hi; omega) hown' hgrow (by
                rcases hat with e | e
                · exact .inl e
                · exact .inr ⟨_, e, by simp⟩)
            refine ⟨_, _, h.congr (fun i hi => by by_cases e : i = N <;> simp [e]) (fun i j' hi hj' => ?_)⟩
            rw [innP_succ, ← List.append_assoc, ← e1, ← e2]
            by_cases e : i = N
            · subst e
              rw [if_pos rfl, ← HN.out, pF_new]
            · rw [if_neg e]
              exact pF_old (by rw [HN.out]; omega))
          have HN2 : Hid ((prK m k ++ innP k (j + 1)).length = N + 1) := Lib.hid (by
            have := HN.out
            simp only [List.length_append, innP_len] at this ⊢
            omega)
          have HB1 : Below w.heap.size w w1 := below_grown8 (show Below w.heap.size w ((wr.alloc _).alloc _) from belowAlloc (belowAlloc HB _) _) hgrow (fun j e => ownBlock8 hown j e) (by simp; omega)
          clear hown hown' hgrow HB hzS hi hz0 HRR HX hat HN
          go_wp2
          go_roundg g2
          case measure => omega
          case rel => exact ⟨j + 1, J + 1, N + 1, v', by have := HJG.out; omega, Lib.hid (by have := HJ.out; omega), by go_num, rfl, HN2, HE, HB1⟩
end Go.Proofs.Ytjomgbjiognmmaa

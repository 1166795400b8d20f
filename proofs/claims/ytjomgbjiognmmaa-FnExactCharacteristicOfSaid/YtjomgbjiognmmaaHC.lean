/-
  The matrix of pairs, plain; zeros, images, where a pair leads and its place, as the program finds them.
  The place of a pair; the matrix of pairs, as the program builds it.
  The matrix of pairs, as the program builds it.
-/
import Derived.Test.YtjomgbjiognmmaaHB
namespace Go.Proofs.Ytjomgbjiognmmaa
open Go.RowKit

/-- The number of the image of the angle k, or 0. -/
def imgI (L : List (Int × Int)) (k : Nat) : Int := plcI L (dbl (cA L k)) + 1
/-- Where a pair leads. -/
def ledL (L : List (Int × Int)) (p : Int × Int) : List (Int × Int) :=
  if sepP L p then [(1, imgI L (p.1 - 1).toNat), (1, imgI L (p.2 - 1).toNat)] else [(min (imgI L (p.1 - 1).toNat) (imgI L (p.2 - 1).toNat), max (imgI L (p.1 - 1).toNat) (imgI L (p.2 - 1).toNat))]
def hitJ (l : List (Int × Int)) (q : Int × Int) (j : Nat) : Int := if cA l j = q then 1 else 0
def sumH (l : List (Int × Int)) (j : Nat) : List (Int × Int) → Int
  | [] => 0
  | q :: qs => hitJ l q j + sumH l j qs
/-- The matrix of the pairs of an orbit. -/
def mxF (L : List (Int × Int)) : Tab := fun k j => sumH (prL L.length) j (ledL L (cA (prL L.length) k))
theorem sumH_app (l : List (Int × Int)) (j : Nat) (q : Int × Int) : ∀ qs, sumH l j (qs ++ [q]) = sumH l j qs + hitJ l q j
  | [] => by simp [sumH]
  | x :: qs => by simp only [List.cons_append, sumH]; rw [sumH_app l j q qs]; omega
theorem hitJ_bnd (l : List (Int × Int)) (q : Int × Int) (j : Nat) : 0 ≤ hitJ l q j ∧ hitJ l q j ≤ 1 := by unfold hitJ; split <;> omega
theorem sumH_bnd (l : List (Int × Int)) (j : Nat) : ∀ qs, 0 ≤ sumH l j qs ∧ sumH l j qs ≤ qs.length
  | [] => by simp [sumH]
  | x :: qs => by
    have := sumH_bnd l j qs
    have := hitJ_bnd l x j
    simp only [sumH, List.length_cons]
    omega
theorem ledL_len (L : List (Int × Int)) (p : Int × Int) : (ledL L p).length ≤ 2 := by unfold ledL; split <;> simp
theorem plcI_bnd {l : List (Int × Int)} (p : Int × Int) : -1 ≤ plcI l p ∧ plcI l p < l.length := by
  unfold plcI; split <;> omega
theorem imgI_bnd (L : List (Int × Int)) (k : Nat) : 0 ≤ imgI L k ∧ imgI L k ≤ L.length := by
  have := plcI_bnd (l := L) (dbl (cA L k))
  unfold imgI; omega
theorem prL_nodup {m : Nat} (hm : m ≤ 7) : (prL m).Nodup := by
  have : ∀ k : Fin 8, (prL k.1).Nodup := by decide
  exact this ⟨m, by omega⟩
theorem pF_cA {l : List (Int × Int)} {k : Nat} (h : k < l.length) : pF l k 0 = (cA l k).1 ∧ pF l k 1 = (cA l k).2 := by
  have e : l.getD k (0, 0) = cA l k := by
    unfold cA
    rw [List.getD_eq_getElem?_getD, List.getD_eq_getElem?_getD, List.getElem?_eq_getElem h]; rfl
  unfold pF
  rw [e]
  exact ⟨rfl, rfl⟩
theorem tabPair {w : World} {B : Nat} {A : Option Addr} {N : Nat} {l : List (Int × Int)} (h : TabRd w B A N (fun _ => 2) (pF l)) {k : Nat} (hk : k < N) (hl : l.length = N) :
    ∃ g off b o c, A = some ⟨g, off, none⟩ ∧ g < B ∧ b < B ∧ w.cell? ⟨g, off + k, none⟩ = some (.slice (some ⟨b, o, none⟩) 2 c) ∧ w.cell? ⟨b, o, none⟩ = some (.int .i64 (cA l k).1) ∧ w.cell? ⟨b, o + 1, none⟩ = some (.int .i64 (cA l k).2) := by
  obtain ⟨g, off, rfl, hg, hc⟩ := h (by omega)
  obtain ⟨Ai, ci, h1, h2⟩ := hc k hk
  obtain ⟨b, o, rfl, hb, h3⟩ := h2 (show 0 < 2 by omega)
  obtain ⟨e1, e2⟩ := pF_cA (l := l) (k := k) (by omega)
  have a := h3 0 (show 0 < 2 by omega)
  have b' := h3 1 (show 1 < 2 by omega)
  rw [e1, Nat.add_zero] at a
  rw [e2] at b'
  exact ⟨g, off, b, o, ci, rfl, hg, hb, h1, a, b'⟩
/-- One number of an owned table is written. -/
theorem TabAt.put {w : World} {lo g off : Nat} {bb oo : Nat → Nat} {n : Nat} {ln : Nat → Nat} {f : Tab} (h : TabAt w lo g off bb oo n ln f) {i j : Nat} (hi : i < n) (hj : j < ln i) (v : Int) :
    TabAt (w.setCell ⟨bb i, oo i + j, none⟩ (.int .i64 v)) lo g off bb oo n ln (fun i' j' => if i' = i ∧ j' = j then v else f i' j') := by
  refine ⟨h.glo, by simpa using h.gz, fun k hk => ?_, fun k hk h0 => by simpa using h.row k hk h0, fun k q hk hq => ?_, h.apart⟩
  · obtain ⟨Ai, ci, h1, h2⟩ := h.head k hk
    refine ⟨Ai, ci, ?_, h2⟩
    rw [World.cell?_setCell_other _ _ _ _ (by intro e; injection e with e; exact (h.row i hi (by omega)).2.2 e)]
    exact h1
  · obtain ⟨h1, h2⟩ := h.cell k q hk hq
    refine ⟨?_, by simpa using h2⟩
    by_cases e : k = i ∧ q = j
    · obtain ⟨rfl, rfl⟩ := e
      rw [if_pos ⟨rfl, rfl⟩]
      exact World.cell?_setCell_same _ _ _ h1
    · rw [if_neg e, World.cell?_setCell_other _ _ _ _ (by
        intro e2
        injection e2 with a b
        by_cases h3 : k = i
        · subst h3; exact e ⟨rfl, by omega⟩
        · exact h.apart i k j q hi hk (fun x => h3 x.symm) hj hq a b)]
      exact h1

theorem belowGrown8 {w w1 : World} (h : w.grownBy w1 none) : Below w.heap.size w w1 := ⟨h.os, h.tape, h.output, h.size, fun i hi => h.block i hi (fun e => by cases e)⟩
theorem made8 (n j : Nat) (h : j < n) : (madeCells (Value.int .i64 0).cells (n * 1)).toList[j]? = some (.int .i64 0) := by
  simp [madeCells, Value.cells, h, Nat.mod_one]

set_option maxRecDepth 8000 in
set_option maxHeartbeats 2000000 in
theorem implZero (n : Nat) (hn : n ≤ 21) (w : World) : Calls Try.prog 75 #[.int .i64 n] w fun e w' => ∃ A cap, e = .returned (.slice A n cap) ∧ Hid (TabOwn w' w.heap.size A n (fun _ => n) (fun _ _ => 0)) ∧ Below w.heap.size w w' := by
  obtain ⟨i0, hi, hz0, hz1, hz2⟩ := infoI8_parts
  obtain ⟨P, hP⟩ : ∃ P, n * n = P := ⟨_, rfl⟩
  have hP4 : P ≤ 441 := by rw [← hP]; exact Nat.mul_le_mul hn hn
  have hw : IntKind.i64.wrap ((n : Int) * (n : Int)) = (P : Int) := by rw [← hP, Int.natCast_mul]; exact IntWalk.i64_in _ (by rw [← Int.natCast_mul, hP]; omega)
  have HP := Lib.hid hP
  clear hP
  go_enter Try.func75, Try.ntmps75
  go_wp2_with (at_make; refine wpList_make_full _ rfl _ _ 32 rfl w.heap.size 2 i0 (.int .i64 0) 1 Try.underlying32 hi hz0 hz1 .i64 .i64 _ _ P rfl rfl rfl rfl (by rw [hz2]; omega) (by unfold maxLen; omega) (by omega) ?_; intro w2 hown2 hgrow2)
  have hB2 := belowGrown8 hgrow2
  have HR := Lib.hid (implRows (some ⟨w.heap.size, 0, none⟩) P P n n w.heap.size 0 w2 HP.out.symm (Nat.le_refl _) (fun h0 => ⟨rfl, h0⟩) (by omega) (by omega) (by omega))
  have HO := Lib.hid hown2
  clear hown2 hgrow2 hw
  go_wp2_with fail
  refine HR.out.mono ?_
  rintro e w3 ⟨A', cap', rfl, H3, hb3⟩
  have HT : Hid (TabOwn w3 w.heap.size A' n (fun _ => n) (fun _ _ => 0)) := Lib.hid (by
    refine rows_tab (F := fun _ => 0) H3.out hB2.size (fun h0 h1 => ?_) (fun t ht => ?_)
    · have hP : 0 < P := by rw [← HP.out]; exact Nat.mul_pos h1 h0
      have h2 := (World.ownsRow.lt HO.out _ rfl).2
      exact ⟨Nat.le_refl _, Nat.lt_of_lt_of_le h2 hb3.size, h2⟩
    · have h3 := ownNext8 HO.out hb3
      rw [HP.out] at ht
      rw [Nat.zero_add]
      exact ⟨(h3.cellAt t (by omega)).trans (made8 P t ht), h3.frozenAt _⟩)
  clear H3 HR HO
  go_wp2
  go_ret
  exact ⟨A', cap', rfl, HT, belowNext hB2 hb3⟩

set_option maxRecDepth 8000 in
set_option maxHeartbeats 4000000 in
theorem implImg (A : Option Addr) (m cap : Nat) (A2 : Option Addr) (N cap2 : Nat) (L : List (Int × Int)) (i : Int) (k : Nat) (w : World) (hr : AngRow w w.heap.size A L) (hl : L.length = m) (hm : m ≤ 7) (ha : allAng L = true) (hk : k < m) (hi : i = (k : Int) + 1) :
    Calls Try.prog 90 #[.agg #[.slice A m cap, .slice A2 N cap2], .int .i64 i] w fun e w' => e = .returned (.int .i64 (imgI L k)) ∧ Below w.heap.size w w' := by
  have HP := Lib.hid (fun W (hB : Below w.heap.size w W) => implPoint A m cap A2 N cap2 L i k W ((hr.below hB).more hB.size) hl hm hk hi)
  obtain ⟨h1, h2, h3, h4⟩ := isAng_ok (cA_ang ha (i := k) (by omega))
  have HD := Lib.hid (fun W => implDbl (cA L k).1 (cA L k).2 W h1 (by omega) h3 (by omega))
  have HX := Lib.hid (fun W (hB : Below w.heap.size w W) => idxQ A m cap L (redN (2 * (cA L k).1) (cA L k).2) (redD (2 * (cA L k).1) (cA L k).2) W ((hr.below hB).more hB.size) hl (by omega))
  have hbd := imgI_bnd L k
  have HE : Hid (plcI L (redN (2 * (cA L k).1) (cA L k).2, redD (2 * (cA L k).1) (cA L k).2) + 1 = imgI L k) := Lib.hid rfl
  have hpb := plcI_bnd (l := L) (redN (2 * (cA L k).1) (cA L k).2, redD (2 * (cA L k).1) (cA L k).2)
  generalize imgI L k = R at *
  generalize plcI L (redN (2 * (cA L k).1) (cA L k).2, redD (2 * (cA L k).1) (cA L k).2) = q at *
  generalize redN (2 * (cA L k).1) (cA L k).2 = x at *
  generalize redD (2 * (cA L k).1) (cA L k).2 = y at *
  generalize (cA L k).1 = p1 at *
  generalize (cA L k).2 = p2 at *
  have hw : IntKind.i64.wrap (q + 1) = q + 1 := IntWalk.i64_in _ (by omega)
  clear hr hi hk hl ha h1 h2 h3 h4
  go_enter Try.func90, Try.ntmps90
  go_wp2_with fail
  have S0 : (H4 w ⟨w.heap.size, 0, none⟩ ⟨w.heap.size, 1, none⟩ ⟨w.heap.size, 0, none⟩ ⟨w.heap.size, 1, none⟩ (.slice A m cap) (.slice A2 N cap2) (.slice A m cap) (.slice A2 N cap2)) (w.alloc (.cells #[.slice A m cap, .slice A2 N cap2] 53)) := by
    refine ⟨?_, by simp, by simp, by simp, by simp, ?_, ?_, ?_, ?_⟩
    · (repeat' (first | (with_reducible exact Below.refl _ _) | (with_reducible assumption) | (with_reducible refine belowNext ?_ (by with_reducible assumption)) | (with_reducible refine belowAlloc ?_ _) | (with_reducible refine Below.drew ?_) | (with_reducible refine below_drewN ?_ _) | (with_reducible refine Below.setCell ?_ ?_ _) | go_size | (with_reducible refine sizeOf' ?_) | (with_reducible refine sizeAdd ?_) | (dsimp only; first | (with_reducible refine sizeOf' ?_) | (with_reducible refine sizeAdd ?_))))
    all_goals simp [go_sem]
  refine wp_region_held_drew (S := (H4 w ⟨w.heap.size, 0, none⟩ ⟨w.heap.size, 1, none⟩ ⟨w.heap.size, 0, none⟩ ⟨w.heap.size, 1, none⟩ (.slice A m cap) (.slice A2 N cap2) (.slice A m cap) (.slice A2 N cap2))) (by kernel_rfl) ?_ (fun hHeld => ?_)
  · exact S0.on (Below.refl _ _).drew
  refine wpAnyH_take (i := 0) (v := ?_) rfl (by kernel_rfl) (by kernel_rfl) (by kernel_rfl) (fun _ _ _ h => h) (Or.inl ⟨by kernel_rfl, ?_⟩) hHeld ?_
  rotate_left
  · intro w hSw; obtain ⟨B, z1, z2, z3, z4, x1, x2, x3, x4⟩ := hSw; first | (go_simp; done) | (go_simp; with_reducible rfl)
  refine wpAnyH_take (i := 1) (v := ?_) rfl (by kernel_rfl) (by kernel_rfl) (by kernel_rfl) (fun _ _ _ h => h) (Or.inl ⟨by kernel_rfl, ?_⟩) hHeld ?_
  rotate_left
  · intro w hSw; obtain ⟨B, z1, z2, z3, z4, x1, x2, x3, x4⟩ := hSw; first | (go_simp; done) | (go_simp; with_reducible rfl)
  refine wpAnyH_take (i := 2) (v := ?_) rfl (by kernel_rfl) (by kernel_rfl) (by kernel_rfl) (fun _ _ _ h => h) (Or.inl ⟨by kernel_rfl, ?_⟩) hHeld ?_
  rotate_left
  · intro w hSw; obtain ⟨B, z1, z2, z3, z4, x1, x2, x3, x4⟩ := hSw; first | (go_simp; done) | (go_simp; with_reducible rfl)
  refine wpAnyH_take (i := 3) (v := ?_) rfl (by kernel_rfl) (by kernel_rfl) (by kernel_rfl) (fun _ _ _ h => h) (Or.inl ⟨by kernel_rfl, ?_⟩) hHeld ?_
  rotate_left
  · intro w hSw; obtain ⟨B, z1, z2, z3, z4, x1, x2, x3, x4⟩ := hSw; first | (go_simp; done) | (go_simp; with_reducible rfl)
  refine wpAnyH_ready (rs := [4]) (by kernel_rfl) (by simp) ?_
  refine AllReadyH.cons rfl (fun K hK => ?_) AllReadyH.nil
  go_simp
  go_wp2_with (go_at_call 71; (with_reducible refine (HP.out _ hHeld.B).mono ?_); rintro e w11 ⟨rfl, hb11⟩)
  have S11 := hHeld.on hb11
  refine hK.out _ _ ?_ (fun hHeld => ?_)
  · exact S11
  clear hK K
  refine wpAnyH_ready (rs := [5]) (by kernel_rfl) (by simp) ?_
  refine AllReadyH.cons rfl (fun K hK => ?_) AllReadyH.nil
  go_simp
  go_wp2_with (go_at_call 86; (with_reducible refine (HD.out _).mono ?_); rintro e w12 ⟨rfl, hb12⟩)
  have S12 := hHeld.on hb12
  refine hK.out _ _ ?_ (fun hHeld => ?_)
  · exact S12
  clear hK K
  refine wpAnyH_ready (rs := [6]) (by kernel_rfl) (by simp) ?_
  refine AllReadyH.cons rfl (fun K hK => ?_) AllReadyH.nil
  go_simp
  go_wp2_with (go_at_call 98; (with_reducible refine (HX.out _ hHeld.B).mono ?_); rintro e w13 ⟨rfl, hb13⟩)
  have S13 := hHeld.on hb13
  refine hK.out _ _ ?_ (fun hHeld => ?_)
  · exact S13
  clear hK K
  refine wpAnyH_take (i := 7) (v := ?_) rfl (by kernel_rfl) (by kernel_rfl) (by kernel_rfl) (fun _ _ _ h => h) (Or.inl ⟨by kernel_rfl, ?_⟩) hHeld ?_
  rotate_left
  · intro w hSw; obtain ⟨B, z1, z2, z3, z4, x1, x2, x3, x4⟩ := hSw; first | (go_simp; done) | (go_simp; with_reducible rfl)
  refine wpAnyH_take (i := 8) (v := ?_) rfl (by kernel_rfl) (by kernel_rfl) (by kernel_rfl) (fun _ _ _ h => h) (Or.inl ⟨by kernel_rfl, ?_⟩) hHeld ?_
  rotate_left
  · intro w hSw; obtain ⟨B, z1, z2, z3, z4, x1, x2, x3, x4⟩ := hSw; first | (go_simp; done) | (go_simp; with_reducible rfl)
  refine wpAnyH_done (by kernel_rfl) ?_ _
  clear hHeld S0
  go_wp2
  go_ret
  exact ⟨by rw [← HE.out]; rfl, S13.B⟩

theorem own1H {w : World} (W : World) (B : Below w.heap.size w W) (T : TypeId) (a b : Int) (g : Nat) (hg : g = W.heap.size) : AngOwn (W.alloc (.cells #[.int .i64 a, .int .i64 b] T)) w.heap.size (some ⟨g, 0, none⟩) [(a, b)] := by
  subst hg
  intro _
  refine ⟨W.heap.size, 0, rfl, B.size, by simp, fun i n m hi => ?_⟩
  match i, hi with
  | 0, hi => simp at hi; obtain ⟨rfl, rfl⟩ := hi; exact ⟨by simp [go_sem], by simp [go_sem], by simp [go_sem], by simp [go_sem]⟩

set_option maxRecDepth 8000 in
set_option maxHeartbeats 4000000 in
theorem implLed (A : Option Addr) (m cap : Nat) (A2 : Option Addr) (N cap2 : Nat) (L : List (Int × Int)) (Ap : Option Addr) (cp : Nat) (i j : Int) (k l : Nat) (w : World) (hr : AngRow w w.heap.size A L) (hl : L.length = m) (hm : m ≤ 7) (ha : allAng L = true)
    (hp : ∃ b o, Ap = some ⟨b, o, none⟩ ∧ b < w.heap.size ∧ w.cell? ⟨b, o, none⟩ = some (.int .i64 i) ∧ w.cell? ⟨b, o + 1, none⟩ = some (.int .i64 j)) (hk : k < m) (hi : i = (k : Int) + 1) (hkl : l < m) (hj : j = (l : Int) + 1) :
    Calls Try.prog 76 #[.agg #[.slice A m cap, .slice A2 N cap2], .slice Ap 2 cp] w fun e w' => ∃ A' c', e = .returned (.slice A' (ledL L (i, j)).length c') ∧ Hid (AngOwn w' w.heap.size A' (ledL L (i, j))) ∧ Below w.heap.size w w' := by
  obtain ⟨b, o, rfl, hb, y0, y1⟩ := hp
  have H1 := Lib.hid (fun W (hB : Below w.heap.size w W) => implImg A m cap A2 N cap2 L i k W ((hr.below hB).more hB.size) hl hm ha hk hi)
  have H2 := Lib.hid (fun W (hB : Below w.heap.size w W) => implImg A m cap A2 N cap2 L j l W ((hr.below hB).more hB.size) hl hm ha hkl hj)
  have H3 := Lib.hid (fun W (hB : Below w.heap.size w W) => implSep A m cap A2 N cap2 L (some ⟨b, o, none⟩) cp i j k l W ((hr.below hB).more hB.size) hl hm ha ⟨b, o, rfl, Nat.lt_of_lt_of_le hb hB.size, (hB.cell (p := ⟨b, o, none⟩) hb).trans y0, (hB.cell (p := ⟨b, o + 1, none⟩) hb).trans y1⟩ hk hi hkl hj)
  have HE : Hid (ledL L (i, j) = if sepB (cA L k) (cA L l) (cA L 0) then [(1, imgI L k), (1, imgI L l)] else [(min (imgI L k) (imgI L l), max (imgI L k) (imgI L l))]) := Lib.hid (by
    unfold ledL sepP
    simp only
    rw [show (i - 1).toNat = k by omega, show (j - 1).toNat = l by omega])
  generalize sepB (cA L k) (cA L l) (cA L 0) = S at *
  generalize imgI L k = u at *
  generalize imgI L l = v at *
  clear hr hi hj hk hkl hl ha
  have hbw : b < w.heap.size + 1 := by omega
  go_enter Try.func76, Try.ntmps76
  go_wp2_with fail
  have S0 : (H4 w ⟨w.heap.size, 0, none⟩ ⟨w.heap.size, 1, none⟩ ⟨b, o, none⟩ ⟨b, o + 1, none⟩ (.slice A m cap) (.slice A2 N cap2) (.int .i64 i) (.int .i64 j)) (w.alloc (.cells #[.slice A m cap, .slice A2 N cap2] 53)) := by
    have hB : Below w.heap.size w (w.alloc (.cells #[.slice A m cap, .slice A2 N cap2] 53)) := by
      (repeat' (first | (with_reducible exact Below.refl _ _) | (with_reducible assumption) | (with_reducible refine belowNext ?_ (by with_reducible assumption)) | (with_reducible refine belowAlloc ?_ _) | (with_reducible refine Below.drew ?_) | (with_reducible refine below_drewN ?_ _) | (with_reducible refine Below.setCell ?_ ?_ _) | go_size | (with_reducible refine sizeOf' ?_) | (with_reducible refine sizeAdd ?_) | (dsimp only; first | (with_reducible refine sizeOf' ?_) | (with_reducible refine sizeAdd ?_))))
    refine ⟨hB, by simp, by simp, by simp; omega, by simp; omega, by simp [go_sem], by simp [go_sem], cellThru hB hb y0, cellThru hB hb y1⟩
  refine wp_region_held_drew (S := (H4 w ⟨w.heap.size, 0, none⟩ ⟨w.heap.size, 1, none⟩ ⟨b, o, none⟩ ⟨b, o + 1, none⟩ (.slice A m cap) (.slice A2 N cap2) (.int .i64 i) (.int .i64 j))) (by kernel_rfl) ?_ (fun hHeld => ?_)
  · exact S0.on (Below.refl _ _).drew
  refine wpAnyH_take (i := 0) (v := ?_) rfl (by kernel_rfl) (by kernel_rfl) (by kernel_rfl) (fun _ _ _ h => h) (Or.inl ⟨by kernel_rfl, ?_⟩) hHeld ?_
  rotate_left
  · intro w hSw; obtain ⟨B, z1, z2, z3, z4, x1, x2, x3, x4⟩ := hSw; first | (go_simp; done) | (go_simp; with_reducible rfl)
  refine wpAnyH_take (i := 1) (v := ?_) rfl (by kernel_rfl) (by kernel_rfl) (by kernel_rfl) (fun _ _ _ h => h) (Or.inl ⟨by kernel_rfl, ?_⟩) hHeld ?_
  rotate_left
  · intro w hSw; obtain ⟨B, z1, z2, z3, z4, x1, x2, x3, x4⟩ := hSw; first | (go_simp; done) | (go_simp; with_reducible rfl)
  refine wpAnyH_take (i := 2) (v := ?_) rfl (by kernel_rfl) (by kernel_rfl) (by kernel_rfl) (fun _ _ _ h => h) (Or.inl ⟨by kernel_rfl, ?_⟩) hHeld ?_
  rotate_left
  · intro w hSw; obtain ⟨B, z1, z2, z3, z4, x1, x2, x3, x4⟩ := hSw; first | (go_simp; done) | (go_simp; with_reducible rfl)
  refine wpAnyH_take (i := 3) (v := ?_) rfl (by kernel_rfl) (by kernel_rfl) (by kernel_rfl) (fun _ _ _ h => h) (Or.inl ⟨by kernel_rfl, ?_⟩) hHeld ?_
  rotate_left
  · intro w hSw; obtain ⟨B, z1, z2, z3, z4, x1, x2, x3, x4⟩ := hSw; first | (go_simp; done) | (go_simp; with_reducible rfl)
  refine wpAnyH_take (i := 5) (v := ?_) rfl (by kernel_rfl) (by kernel_rfl) (by kernel_rfl) (fun _ _ _ h => h) (Or.inl ⟨by kernel_rfl, ?_⟩) hHeld ?_
  rotate_left
  · intro w hSw; obtain ⟨B, z1, z2, z3, z4, x1, x2, x3, x4⟩ := hSw; first | (go_simp; done) | (go_simp; with_reducible rfl)
  refine wpAnyH_take (i := 6) (v := ?_) rfl (by kernel_rfl) (by kernel_rfl) (by kernel_rfl) (fun _ _ _ h => h) (Or.inl ⟨by kernel_rfl, ?_⟩) hHeld ?_
  rotate_left
  · intro w hSw; obtain ⟨B, z1, z2, z3, z4, x1, x2, x3, x4⟩ := hSw; first | (go_simp; done) | (go_simp; with_reducible rfl)
  refine wpAnyH_take (i := 7) (v := ?_) rfl (by kernel_rfl) (by kernel_rfl) (by kernel_rfl) (fun _ _ _ h => h) (Or.inl ⟨by kernel_rfl, ?_⟩) hHeld ?_
  rotate_left
  · intro w hSw; obtain ⟨B, z1, z2, z3, z4, x1, x2, x3, x4⟩ := hSw; first | (go_simp; done) | (go_simp; with_reducible rfl)
  refine wpAnyH_take (i := 8) (v := ?_) rfl (by kernel_rfl) (by kernel_rfl) (by kernel_rfl) (fun _ _ _ h => h) (Or.inl ⟨by kernel_rfl, ?_⟩) hHeld ?_
  rotate_left
  · intro w hSw; obtain ⟨B, z1, z2, z3, z4, x1, x2, x3, x4⟩ := hSw; first | (go_simp; done) | (go_simp; with_reducible rfl)
  refine wpAnyH_ready (rs := [4]) (by kernel_rfl) (by simp) ?_
  refine AllReadyH.cons rfl (fun K hK => ?_) AllReadyH.nil
  go_simp
  go_wp2_with (go_at_call 90; (with_reducible refine (H1.out _ hHeld.B).mono ?_); rintro e w11 ⟨rfl, hb11⟩)
  have S11 := hHeld.on hb11
  refine hK.out _ _ ?_ (fun hHeld => ?_)
  · exact S11
  clear hK K
  refine wpAnyH_ready (rs := [9]) (by kernel_rfl) (by simp) ?_
  refine AllReadyH.cons rfl (fun K hK => ?_) AllReadyH.nil
  go_simp
  go_wp2_with (go_at_call 90; (with_reducible refine (H2.out _ hHeld.B).mono ?_); rintro e w12 ⟨rfl, hb12⟩)
  have S12 := hHeld.on hb12
  refine hK.out _ _ ?_ (fun hHeld => ?_)
  · exact S12
  clear hK K
  refine wpAnyH_take (i := 10) (v := ?_) rfl (by kernel_rfl) (by kernel_rfl) (by kernel_rfl) (fun _ _ _ h => h) (Or.inl ⟨by kernel_rfl, ?_⟩) hHeld ?_
  rotate_left
  · intro w hSw; obtain ⟨B, z1, z2, z3, z4, x1, x2, x3, x4⟩ := hSw; first | (go_simp; done) | (go_simp; with_reducible rfl)
  refine wpAnyH_take (i := 11) (v := ?_) rfl (by kernel_rfl) (by kernel_rfl) (by kernel_rfl) (fun _ _ _ h => h) (Or.inl ⟨by kernel_rfl, ?_⟩) hHeld ?_
  rotate_left
  · intro w hSw; obtain ⟨B, z1, z2, z3, z4, x1, x2, x3, x4⟩ := hSw; first | (go_simp; done) | (go_simp; with_reducible rfl)
  refine wpAnyH_done (by kernel_rfl) ?_ _
  obtain ⟨B, z1, z2, z3, z4, x1, x2, x3, x4⟩ := id S12
  clear hHeld S0 y0 y1
  go_wp2_with fail
  refine (H3.out _ B).mono ?_
  rintro e w13 ⟨rfl, hb13⟩
  have B13 := belowNext B hb13
  clear S11 S12 H1 H2 H3 x1 x2 x3 x4
  have hz13 := B13.size
  cases S
  · have he : ledL L (i, j) = [(min u v, max u v)] := by rw [HE.out, if_neg (by simp)]
    have HE2 := Lib.hid he
    clear he HE
    go_wp2
    all_goals
      go_ret
      have he := HE2.out
      first
      | (have e0 : v = u := by omega
         subst e0
         have e : (min v v, max v v) = (v, v) := by simp only [Prod.mk.injEq]; omega
         rw [e] at he
         rw [he]
         first | refine ⟨_, ⟨1, rfl⟩, Lib.hid ?_, ?_⟩ | refine ⟨_, 1, rfl, Lib.hid ?_, ?_⟩
         · exact own1H w13 B13 _ _ _ _ rfl
         · (repeat' (first | (with_reducible exact Below.refl _ _) | (with_reducible assumption) | (with_reducible refine belowNext ?_ (by with_reducible assumption)) | (with_reducible refine belowAlloc ?_ _) | (with_reducible refine Below.drew ?_) | (with_reducible refine below_drewN ?_ _) | (with_reducible refine Below.setCell ?_ ?_ _) | go_size | (with_reducible refine sizeOf' ?_) | (with_reducible refine sizeAdd ?_) | (dsimp only; first | (with_reducible refine sizeOf' ?_) | (with_reducible refine sizeAdd ?_)))))
      | (have e : (min u v, max u v) = (v, u) := by simp only [Prod.mk.injEq]; omega
         rw [e] at he
         rw [he]
         first | refine ⟨_, ⟨1, rfl⟩, Lib.hid ?_, ?_⟩ | refine ⟨_, 1, rfl, Lib.hid ?_, ?_⟩
         · exact own1H w13 B13 _ _ _ _ rfl
         · (repeat' (first | (with_reducible exact Below.refl _ _) | (with_reducible assumption) | (with_reducible refine belowNext ?_ (by with_reducible assumption)) | (with_reducible refine belowAlloc ?_ _) | (with_reducible refine Below.drew ?_) | (with_reducible refine below_drewN ?_ _) | (with_reducible refine Below.setCell ?_ ?_ _) | go_size | (with_reducible refine sizeOf' ?_) | (with_reducible refine sizeAdd ?_) | (dsimp only; first | (with_reducible refine sizeOf' ?_) | (with_reducible refine sizeAdd ?_)))))
      | (have e : (min u v, max u v) = (u, v) := by simp only [Prod.mk.injEq]; omega
         rw [e] at he
         rw [he]
         first | refine ⟨_, ⟨1, rfl⟩, Lib.hid ?_, ?_⟩ | refine ⟨_, 1, rfl, Lib.hid ?_, ?_⟩
         · exact own1H w13 B13 _ _ _ _ rfl
         · (repeat' (first | (with_reducible exact Below.refl _ _) | (with_reducible assumption) | (with_reducible refine belowNext ?_ (by with_reducible assumption)) | (with_reducible refine belowAlloc ?_ _) | (with_reducible refine Below.drew ?_) | (with_reducible refine below_drewN ?_ _) | (with_reducible refine Below.setCell ?_ ?_ _) | go_size | (with_reducible refine sizeOf' ?_) | (with_reducible refine sizeAdd ?_) | (dsimp only; first | (with_reducible refine sizeOf' ?_) | (with_reducible refine sizeAdd ?_)))))
  · have he : ledL L (i, j) = [(1, u), (1, v)] := by rw [HE.out, if_pos rfl]
    have HE2 := Lib.hid he
    clear he HE
    go_wp2
    go_ret
    have he := HE2.out
    rw [he]
    first | refine ⟨_, ⟨2, rfl⟩, Lib.hid ?_, ?_⟩ | refine ⟨_, 2, rfl, Lib.hid ?_, ?_⟩
    · exact own2 w13 B13 _ _ _ _ _ _ rfl
    · (repeat' (first | (with_reducible exact Below.refl _ _) | (with_reducible assumption) | (with_reducible refine belowNext ?_ (by with_reducible assumption)) | (with_reducible refine belowAlloc ?_ _) | (with_reducible refine Below.drew ?_) | (with_reducible refine below_drewN ?_ _) | (with_reducible refine Below.setCell ?_ ?_ _) | go_size | (with_reducible refine sizeOf' ?_) | (with_reducible refine sizeAdd ?_) | (dsimp only; first | (with_reducible refine sizeOf' ?_) | (with_reducible refine sizeAdd ?_))))

set_option maxRecDepth 8000 in
set_option maxHeartbeats 2000000 in
theorem implPF (b o cp : Nat) (a c i j : Int) (g1 g2 : Nat) (w : World) (y0 : w.cell? ⟨b, o, none⟩ = some (.int .i64 a)) (y1 : w.cell? ⟨b, o + 1, none⟩ = some (.int .i64 c))
    (z0 : w.cell? ⟨g1, 0, none⟩ = some (.int .i64 i)) (z1 : w.cell? ⟨g2, 0, none⟩ = some (.int .i64 j)) :
    Calls Try.prog 84 #[.slice (some ⟨b, o, none⟩) 2 cp, .pointer (some ⟨g1, 0, none⟩), .pointer (some ⟨g2, 0, none⟩)] w fun e w' => e = .returned (.bool (decide ((a, c) = (i, j)))) ∧ Below w.heap.size w w' := by
  by_cases h1 : a = i
  · by_cases h2 : c = j
    · have e : decide ((a, c) = (i, j)) = true := decide_eq_true (by rw [h1, h2])
      have e1 : (a == i) = true := by simp [h1]
      have e2 : (c == j) = true := by simp [h2]
      rw [e]
      clear e h1 h2
      go_enter Try.func84, Try.ntmps84
      go_wp2_with fail
      go_region
      all_goals
        go_wp2
        go_ret
        refine ⟨?_, ?_⟩
        · rfl
        · (repeat' (first | (with_reducible exact Below.refl _ _) | (with_reducible assumption) | (with_reducible refine belowNext ?_ (by with_reducible assumption)) | (with_reducible refine belowAlloc ?_ _) | (with_reducible refine Below.drew ?_) | (with_reducible refine below_drewN ?_ _) | (with_reducible refine Below.setCell ?_ ?_ _) | go_size | (with_reducible refine sizeOf' ?_) | (with_reducible refine sizeAdd ?_) | (dsimp only; first | (with_reducible refine sizeOf' ?_) | (with_reducible refine sizeAdd ?_))))
    · have e : decide ((a, c) = (i, j)) = false := decide_eq_false (by simp [h2])
      have e1 : (a == i) = true := by simp [h1]
      have e2 : (c == j) = false := by simp [h2]
      rw [e]
      clear e h1 h2
      go_enter Try.func84, Try.ntmps84
      go_wp2_with fail
      go_region
      all_goals
        go_wp2
        go_ret
        refine ⟨?_, ?_⟩
        · rfl
        · (repeat' (first | (with_reducible exact Below.refl _ _) | (with_reducible assumption) | (with_reducible refine belowNext ?_ (by with_reducible assumption)) | (with_reducible refine belowAlloc ?_ _) | (with_reducible refine Below.drew ?_) | (with_reducible refine below_drewN ?_ _) | (with_reducible refine Below.setCell ?_ ?_ _) | go_size | (with_reducible refine sizeOf' ?_) | (with_reducible refine sizeAdd ?_) | (dsimp only; first | (with_reducible refine sizeOf' ?_) | (with_reducible refine sizeAdd ?_))))
  · have e : decide ((a, c) = (i, j)) = false := decide_eq_false (by simp [h1])
    have e1 : (a == i) = false := by simp [h1]
    rw [e]
    clear e h1
    go_enter Try.func84, Try.ntmps84
    go_wp2_with fail
    go_region
    all_goals
      go_wp2
      go_ret
      refine ⟨?_, ?_⟩
      · rfl
      · (repeat' (first | (with_reducible exact Below.refl _ _) | (with_reducible assumption) | (with_reducible refine belowNext ?_ (by with_reducible assumption)) | (with_reducible refine belowAlloc ?_ _) | (with_reducible refine Below.drew ?_) | (with_reducible refine below_drewN ?_ _) | (with_reducible refine Below.setCell ?_ ?_ _) | go_size | (with_reducible refine sizeOf' ?_) | (with_reducible refine sizeAdd ?_) | (dsimp only; first | (with_reducible refine sizeOf' ?_) | (with_reducible refine sizeAdd ?_))))

set_option maxRecDepth 8000 in
set_option maxHeartbeats 2000000 in
theorem implIdx8 (A : Option Addr) (N cap : Nat) (l : List (Int × Int)) (i j : Int) (g1 g2 : Nat) (w : World) (hr : TabRd w w.heap.size A N (fun _ => 2) (pF l)) (hl : l.length = N) (hm : N ≤ 1000)
    (z0 : w.cell? ⟨g1, 0, none⟩ = some (.int .i64 i)) (z1 : w.cell? ⟨g2, 0, none⟩ = some (.int .i64 j)) (h1 : g1 < w.heap.size) (h2 : g2 < w.heap.size) :
    Calls Try.prog 80 #[.slice A N cap, .func (Fn.func 84) #[] #[.pointer (some ⟨g1, 0, none⟩), .pointer (some ⟨g2, 0, none⟩)]] w fun e w' => e = .returned (.int .i64 (plcI l (i, j))) ∧ Below w.heap.size w w' := by
  have hcf : ∀ args W, (callFunc 84 args).run Try.prog W = .ok (.enter 84 args) W := by intro args W; kernel_rfl
  have HR := Lib.hid hr
  have HL := Lib.hid hl
  clear hr hl
  go_enter Try.func80, Try.ntmps80
  go_wp2
  go_loopg [5, 8] N (fun g _ ix wr => ∃ k : Nat, k + g = N ∧ ix = .int .i64 k ∧ Hid (∀ t, t < k → cA l t ≠ (i, j)) ∧ Hid (Below w.heap.size w wr))
  case atStart => exact ⟨0, by omega, rfl, Lib.hid (fun t h => absurd h (by omega)), Lib.hid (Below.refl _ _)⟩
  case round =>
    obtain ⟨k, hkg, rfl, HY, HB⟩ := hrel
    cases gk with
    | zero =>
      obtain rfl : k = N := by omega
      have HQ : Hid (plcI l (i, j) = -1) := Lib.hid (plcI_no (by have h := plc_end (l := l) (p := (i, j)) (fun t ht => HY.out t (by have := HL.out; omega)); omega))
      clear hkg
      go_wp2
      go_ret
      exact ⟨by rw [HQ.out]; rfl, HB.out⟩
    | succ g =>
      have hkN : k < N := by omega
      obtain ⟨gg, off, b, o, c, rfl, hgg, hb, x0, x1, x2⟩ := tabPair HR.out hkN HL.out
      have hs := HB.out.size
      have x0 := cellThru HB.out hgg x0
      have hgw : gg < wr.heap.size := by omega
      have HPF := Lib.hid (implPF b o c (cA l k).1 (cA l k).2 i j g1 g2 wr (cellThru HB.out hb x1) (cellThru HB.out hb x2) (cellThru HB.out h1 z0) (cellThru HB.out h2 z1))
      obtain ⟨r, hR⟩ : ∃ r, decide (((cA l k).1, (cA l k).2) = (i, j)) = r := ⟨_, rfl⟩
      have HRr := Lib.hid hR
      rw [hR] at HPF
      have HKG := Lib.hid hkg
      clear hR hkg x1 x2
      go_wp2_with fail
      refine HPF.out.mono ?_
      rintro e w1 ⟨rfl, hb1⟩
      have HB1 := Lib.hid (belowNext HB.out hb1)
      clear x0 HPF HB hb1
      cases r
      · have HN : Hid (cA l k ≠ (i, j)) := Lib.hid (of_decide_eq_false HRr.out)
        go_wp2
        go_roundg g
        case measure => omega
        case rel =>
          refine ⟨k + 1, by have := HKG.out; omega, by go_num, Lib.hid (fun t ht => ?_), HB1⟩
          by_cases e : t = k
          · subst e; exact HN.out
          · exact HY.out t (by omega)
      · have HQ : Hid (plcI l (i, j) = (k : Int)) := Lib.hid (by
          have hkl : k < l.length := by have := HL.out; omega
          have hp := plc_stop hkl HY.out (of_decide_eq_true HRr.out)
          rw [plcI_yes (by omega), hp])
        go_wp2
        go_ret
        exact ⟨by rw [HQ.out]; rfl, HB1.out⟩

set_option maxRecDepth 8000 in
set_option maxHeartbeats 2000000 in
theorem implPlc (A : Option Addr) (m cap : Nat) (A2 : Option Addr) (N cap2 : Nat) (l : List (Int × Int)) (i j : Int) (w : World) (hr : TabRd w w.heap.size A2 N (fun _ => 2) (pF l)) (hl : l.length = N) (hm : N ≤ 1000) :
    Calls Try.prog 64 #[.agg #[.slice A m cap, .slice A2 N cap2], .int .i64 i, .int .i64 j] w fun e w' => e = .returned (.int .i64 (plcI l (i, j))) ∧ Below w.heap.size w w' := by
  obtain ⟨W0, hW0⟩ : ∃ W0, ((w.alloc (.cells #[.slice A m cap, .slice A2 N cap2] 53)).alloc (.cells #[.int .i64 i] 2)).alloc (.cells #[.int .i64 j] 2) = W0 := ⟨_, rfl⟩
  have B0 : Below w.heap.size w W0 := by
    rw [← hW0]
    exact belowAlloc (belowAlloc (belowAlloc (Below.refl _ _) _) _) _
  have HX := Lib.hid (implIdx8 A2 N cap2 l i j (w.heap.size + 1) (w.heap.size + 1 + 1) W0 ((hr.below B0).more B0.size) hl hm (by rw [← hW0]; simp [go_sem]) (by rw [← hW0]; simp [go_sem]) (by rw [← hW0]; simp <;> omega) (by rw [← hW0]; simp <;> omega))
  have HW := Lib.hid hW0
  generalize plcI l (i, j) = R at *
  clear hr hl hW0
  go_enter Try.func64, Try.ntmps64
  go_wp2_with fail
  rw [HW.out]
  refine HX.out.mono ?_
  rintro e w1 ⟨rfl, hb1⟩
  go_wp2
  go_ret
  exact ⟨rfl, belowNext B0 hb1⟩

/-- What the building of a matrix keeps. -/
structure MxS (w : World) (A : Option Addr) (m cap : Nat) (A2 : Option Addr) (N cap2 g off : Nat) (bb oo : Nat → Nat) (f : Tab) (W : World) : Prop where
  B : Below w.heap.size w W
  z : w.heap.size < W.heap.size
  c0 : W.cell? ⟨w.heap.size, 0, none⟩ = some (.slice A m cap)
  c1 : W.cell? ⟨w.heap.size, 1, none⟩ = some (.slice A2 N cap2)
  tab : 0 < N → TabAt W (w.heap.size + 1) g off bb oo N (fun _ => N) f
theorem MxS.on {w W W1 : World} {A : Option Addr} {m cap : Nat} {A2 : Option Addr} {N cap2 g off : Nat} {bb oo : Nat → Nat} {f : Tab} (H : MxS w A m cap A2 N cap2 g off bb oo f W) (hb : Below W.heap.size W W1) : MxS w A m cap A2 N cap2 g off bb oo f W1 :=
  ⟨belowNext H.B hb, Nat.lt_of_lt_of_le H.z hb.size, cellThru hb H.z H.c0, cellThru hb H.z H.c1, fun h => (H.tab h).next hb⟩
theorem MxS.put {w W : World} {A : Option Addr} {m cap : Nat} {A2 : Option Addr} {N cap2 g off : Nat} {bb oo : Nat → Nat} {f : Tab} (H : MxS w A m cap A2 N cap2 g off bb oo f W) {i j : Nat} (hi : i < N) (hj : j < N) (v : Int) :
    MxS w A m cap A2 N cap2 g off bb oo (fun i' j' => if i' = i ∧ j' = j then v else f i' j') (W.setCell ⟨bb i, oo i + j, none⟩ (.int .i64 v)) := by
  have h1 := ((H.tab (by omega)).row i hi (show 0 < N by omega)).1
  refine ⟨H.B.setCell (by show w.heap.size ≤ bb i; omega) _, by simpa using H.z, ?_, ?_, fun h => (H.tab h).put hi hj v⟩
  · rw [World.cell?_setCell_other _ _ _ _ (by intro e; injection e; omega)]; exact H.c0
  · rw [World.cell?_setCell_other _ _ _ _ (by intro e; injection e; omega)]; exact H.c1
theorem MxS.congr {w W : World} {A : Option Addr} {m cap : Nat} {A2 : Option Addr} {N cap2 g off : Nat} {bb oo : Nat → Nat} {f f' : Tab} (H : MxS w A m cap A2 N cap2 g off bb oo f W) (e : ∀ i j, i < N → j < N → f i j = f' i j) : MxS w A m cap A2 N cap2 g off bb oo f' W :=
  ⟨H.B, H.z, H.c0, H.c1, fun h => (H.tab h).congr e⟩
/-- The matrix when k rows are done, and t of the pairs to which the next one leads. -/
def mxK (L : List (Int × Int)) (k t : Nat) : Tab := fun i j => if i < k then mxF L i j else if i = k then sumH (prL L.length) j ((ledL L (cA (prL L.length) k)).take t) else 0
theorem mxK_next {L : List (Int × Int)} {k t : Nat} (ht : (ledL L (cA (prL L.length) k)).length ≤ t) (i j : Nat) : mxK L k t i j = mxK L (k + 1) 0 i j := by
  unfold mxK
  by_cases h : i < k
  · rw [if_pos h, if_pos (by omega)]
  · by_cases e : i = k
    · subst e
      rw [if_neg h, if_pos rfl, if_pos (by omega), List.take_of_length_le ht]; rfl
    · rw [if_neg h, if_neg e, if_neg (by omega)]
      by_cases e2 : i = k + 1
      · rw [if_pos e2]; rfl
      · rw [if_neg e2]
theorem hit_place {l : List (Int × Int)} (hn : l.Nodup) {q : Int × Int} {j : Nat} (hj : j < l.length) : hitJ l q j = if plcI l q = (j : Int) then 1 else 0 := by
  unfold hitJ
  by_cases h : cA l j = q
  · rw [if_pos h, if_pos]
    rw [← h, plcI_yes (by rw [plc_at hn hj]; exact hj), plc_at hn hj]
  · rw [if_neg h, if_neg]
    intro e
    apply h
    have h1 : plc l q < l.length := by
      rcases Nat.lt_or_ge (plc l q) l.length with h1 | h1
      · exact h1
      · rw [plcI_no (by omega)] at e; omega
    rw [plcI_yes h1] at e
    have := plc_get h1
    rw [← this]
    congr 1
    omega
theorem cA_get8 {l : List (Int × Int)} {t : Nat} (ht : t < l.length) : cA l t = l[t] := by
  unfold cA; rw [List.getD_eq_getElem?_getD, List.getElem?_eq_getElem ht]; rfl
theorem mxK_step {L : List (Int × Int)} {k t : Nat} (ht : t < (ledL L (cA (prL L.length) k)).length) (hm : L.length ≤ 7) {i j : Nat} (hj : j < (prL L.length).length) :
    mxK L k (t + 1) i j = if i = k ∧ plcI (prL L.length) (cA (ledL L (cA (prL L.length) k)) t) = (j : Int) then mxK L k t i j + 1 else mxK L k t i j := by
  unfold mxK
  by_cases h : i < k
  · rw [if_pos h, if_pos h, if_neg (by omega)]
  · by_cases e : i = k
    · subst e
      rw [if_neg h, if_pos rfl, if_neg h, if_pos rfl, List.take_succ_eq_append_getElem ht, sumH_app]
      have e1 : cA (ledL L (cA (prL L.length) i)) t = (ledL L (cA (prL L.length) i))[t] := cA_get8 ht
      rw [← e1, hit_place (prL_nodup hm) hj]
      by_cases h2 : plcI (prL L.length) (cA (ledL L (cA (prL L.length) i)) t) = (j : Int)
      · rw [if_pos h2, if_pos ⟨rfl, h2⟩]
      · rw [if_neg h2, if_neg (fun x => h2 x.2)]; omega
    · rw [if_neg h, if_neg e, if_neg h, if_neg e, if_neg (fun x => e x.1)]
theorem mxK_bnd (L : List (Int × Int)) (k t i j : Nat) : 0 ≤ mxK L k t i j ∧ mxK L k t i j ≤ 2 := by
  have b : ∀ (p : Int × Int) (s : List (Int × Int)), s.length ≤ (ledL L p).length → 0 ≤ sumH (prL L.length) j s ∧ sumH (prL L.length) j s ≤ 2 := by
    intro p s hs
    have h1 := sumH_bnd (prL L.length) j s
    have h2 := ledL_len L p
    omega
  unfold mxK
  split
  · exact b _ _ (Nat.le_refl _)
  · split
    · exact b (cA (prL L.length) k) _ (by rw [List.length_take]; omega)
    · omega

set_option maxRecDepth 8000 in
set_option maxHeartbeats 4000000 in
theorem implMx (A : Option Addr) (m cap : Nat) (A2 : Option Addr) (N cap2 : Nat) (L : List (Int × Int)) (w : World) (hr : AngRow w w.heap.size A L) (hl : L.length = m) (hm : m ≤ 7) (ha : allAng L = true) (ht : TabRd w w.heap.size A2 N (fun _ => 2) (pF (prL m))) (hN : (prL m).length = N) :
    Calls Try.prog 45 #[.agg #[.slice A m cap, .slice A2 N cap2]] w fun e w' => ∃ A' c', e = .returned (.slice A' N c') ∧ Hid (TabOwn w' w.heap.size A' N (fun _ => N) (mxF L)) ∧ Below w.heap.size w w' := by
  subst hl
  have hN21 := prL_len hm
  rw [hN] at hN21
  have HZ := Lib.hid (fun W => implZero N hN21 W)
  have HR := Lib.hid hr
  have HT := Lib.hid ht
  have HNn := Lib.hid hN
  have HAng := Lib.hid ha
  have HBd := Lib.hid (prL_bnd hm)
  obtain ⟨m, hml⟩ : ∃ m, L.length = m := ⟨_, rfl⟩
  have HLm := Lib.hid hml
  rw [hml] at hm ⊢
  clear hr ht hN ha hml
  go_enter Try.func45, Try.ntmps45
  go_wp2_with fail
  refine (HZ.out _).mono ?_
  rintro e w1 ⟨A3, c3, rfl, hT3, hb1⟩
  have z1 : w.heap.size < w1.heap.size := by have := hb1.size; simp at this; omega
  have q0 : w1.cell? ⟨w.heap.size, 0, none⟩ = some (.slice A m cap) := cellThru hb1 (by simp) (by simp [go_sem])
  have q1 : w1.cell? ⟨w.heap.size, 1, none⟩ = some (.slice A2 N cap2) := cellThru hb1 (by simp) (by simp [go_sem])
  obtain ⟨g, off, bb, oo, hTab⟩ := tab_ex (hT3.out.low (lo' := w.heap.size + 1) (by simp))
  have B1 : Below w.heap.size w w1 := by
    (repeat' (first | (with_reducible exact Below.refl _ _) | (with_reducible assumption) | (with_reducible refine belowNext ?_ (by with_reducible assumption)) | (with_reducible refine belowAlloc ?_ _) | (with_reducible refine Below.drew ?_) | (with_reducible refine below_drewN ?_ _) | (with_reducible refine Below.setCell ?_ ?_ _) | go_size | (with_reducible refine sizeOf' ?_) | (with_reducible refine sizeAdd ?_) | (dsimp only; first | (with_reducible refine sizeOf' ?_) | (with_reducible refine sizeAdd ?_))))
  have HS0 : Hid (MxS w A m cap A2 N cap2 g off bb oo (mxK L 0 0) w1) := Lib.hid ⟨B1, z1, q0, q1, fun h => (hTab h).2.congr fun i j _ _ => by unfold mxK; rw [if_neg (by omega)]; split <;> rfl⟩
  have HA3 : Hid (0 < N → A3 = some ⟨g, off, none⟩) := Lib.hid (fun h => (hTab h).1)
  clear hT3 hTab hb1 B1 HZ
  go_wp2
  go_loopg [4, 5, 7, 8, 16] N (fun gg _ _ _ _ ix wr => ∃ k : Nat, k + gg = N ∧ ix = .int .i64 k ∧ Hid (MxS w A m cap A2 N cap2 g off bb oo (mxK L k 0) wr))
  case atStart => exact ⟨0, by omega, rfl, HS0⟩
  case round =>
    clear HS0 q0 q1 z1
    obtain ⟨k, hkg, rfl, HS⟩ := hrel
    cases gk with
    | zero =>
      obtain rfl : k = N := by omega
      have HTb : Hid (TabOwn wr w.heap.size A3 k (fun _ => k) (mxF L)) := Lib.hid (fun h0 => by
        obtain rfl := HA3.out h0
        refine TabOwn.low (lo := w.heap.size + 1) (fun _ => ⟨g, off, bb, oo, rfl, (HS.out.tab h0).congr fun i j hi _ => ?_⟩) (by omega) h0
        unfold mxK; rw [if_pos hi])
      have B2 := HS.out.B
      clear HS hkg
      go_wp2
      go_ret
      exact ⟨A3, c3, rfl, HTb, B2⟩
    | succ gg =>
      have hkN : k < N := by omega
      have hN0 : 0 < N := by omega
      obtain rfl := HA3.out hN0
      have hB := HS.out.B
      have hkl : k < (prL L.length).length := by rw [HNn.out]; exact hkN
      have hp := HBd.out _ (cA_mem hkl)
      obtain ⟨g2, off2, b, o, cc, rfl, hg2, hb2, x0, x1, x2⟩ := tabPair HT.out hkN HNn.out
      have hlm := HLm.out
      obtain ⟨P, hP⟩ : ∃ P, cA (prL L.length) k = P := ⟨_, rfl⟩
      have HP := Lib.hid hP
      rw [hP] at hp x1 x2
      obtain ⟨a, c⟩ := P
      simp only at hp x1 x2
      obtain ⟨ka, hka⟩ : ∃ ka : Nat, a = (ka : Int) + 1 := ⟨(a - 1).toNat, by omega⟩
      obtain ⟨kb, hkb⟩ : ∃ kb : Nat, c = (kb : Int) + 1 := ⟨(c - 1).toNat, by omega⟩
      have HLed := Lib.hid (fun W (hB : Below w.heap.size w W) => implLed A m cap (some ⟨g2, off2, none⟩) N cap2 L (some ⟨b, o, none⟩) cc a c ka kb W ((HR.out.below hB).more hB.size) HLm.out hm HAng.out ⟨b, o, rfl, Nat.lt_of_lt_of_le hb2 hB.size, (hB.cell (p := ⟨b, o, none⟩) hb2).trans x1, (hB.cell (p := ⟨b, o + 1, none⟩) hb2).trans x2⟩ (by omega) hka (by omega) hkb)
      have hl2 := ledL_len L (a, c)
      obtain ⟨l', hl'⟩ : ∃ l', ledL L (a, c) = l' := ⟨_, rfl⟩
      have HLd : Hid (ledL L (cA (prL L.length) k) = l') := Lib.hid (by rw [hP]; exact hl')
      rw [hl'] at HLed hl2
      obtain ⟨q, hq⟩ : ∃ q, l'.length = q := ⟨_, rfl⟩
      have HQ := Lib.hid hq
      rw [hq] at hl2 HLed
      have y0 : wr.cell? ⟨g2, off2 + k, none⟩ = some (.slice (some ⟨b, o, none⟩) 2 cc) := cellThru hB hg2 x0
      have q0 := HS.out.c0
      have q1 := HS.out.c1
      have hzw := HS.out.z
      have hg2w : g2 < wr.heap.size := Nat.lt_of_lt_of_le hg2 hB.size
      obtain ⟨X, hX⟩ : ∃ X, wr.heap.size = X := ⟨_, rfl⟩
      have HbX : Hid (bb k < X) := Lib.hid (by rw [← hX]; exact ((HS.out.tab hN0).row k hkN hN0).2.1)
      have HX := Lib.hid hX
      have HKG := Lib.hid hkg
      clear hp hP hl' hq hka hkb x0 x1 x2 hkg hlm hX
      go_wp2_with fail
      refine (HLed.out _ hB).mono ?_
      rintro e w2 ⟨A4, c4, rfl, h4, hb3⟩
      have HS2 : Hid (MxS w A m cap (some ⟨g2, off2, none⟩) N cap2 g off bb oo (mxK L k 0) w2 ∧ AngOwn w2 X A4 l') := Lib.hid ⟨HS.out.on hb3, by rw [← HX.out]; exact h4.out⟩
      clear h4 hb3 y0 q0 q1 hzw hg2w hB HS HLed
      go_wp2
      go_loopg [7, 8, 25] q (fun gg _ _ ix wx => ∃ t : Nat, t + gg = q ∧ ix = .int .i64 t ∧ Hid (MxS w A m cap (some ⟨g2, off2, none⟩) N cap2 g off bb oo (mxK L k t) wx ∧ AngOwn wx X A4 l'))
      case atStart => exact ⟨0, by omega, rfl, HS2⟩
      case round =>
        clear HS2
        obtain ⟨t, htg, rfl, HS⟩ := hrel
        cases gk with
        | zero =>
          obtain rfl : t = q := by omega
          have HS3 : Hid (MxS w A m cap (some ⟨g2, off2, none⟩) N cap2 g off bb oo (mxK L (k + 1) 0) wr) := Lib.hid (HS.out.1.congr fun i j _ _ => mxK_next (by rw [HLd.out, HQ.out]; exact Nat.le_refl _) i j)
          clear HS htg
          go_wp2
          go_roundg gg
          case measure => omega
          case rel => exact ⟨k + 1, by have := HKG.out; omega, by go_num, HS3⟩
        | succ gt =>
          have htq : t < q := by omega
          have htl : t < l'.length := by rw [HQ.out]; exact htq
          obtain ⟨b4, o4, rfl, hb4X, hb4, hc4⟩ := HS.out.2 (by intro h; rw [h] at htl; simp at htl)
          obtain ⟨u0, u1, _, _⟩ := hc4 t _ _ (cA_some htl)
          have HPl := Lib.hid (fun W (hB : Below w.heap.size w W) => implPlc A m cap (some ⟨g2, off2, none⟩) N cap2 (prL L.length) (cA l' t).1 (cA l' t).2 W ((HT.out.below hB).more hB.size) HNn.out (by omega))
          have HSt := Lib.hid (fun i j (hj : j < N) => mxK_step (L := L) (k := k) (t := t) (i := i) (j := j) (by rw [HLd.out]; exact htl) (by rw [HLm.out]; exact hm) (by rw [HNn.out]; exact hj))
          rw [HLd.out] at HSt
          have HSt : Hid (∀ i j, j < N → mxK L k (t + 1) i j = if i = k ∧ plcI (prL L.length) ((cA l' t).1, (cA l' t).2) = (j : Int) then mxK L k t i j + 1 else mxK L k t i j) := HSt
          have hpb := plcI_bnd (l := prL L.length) ((cA l' t).1, (cA l' t).2)
          rw [HNn.out] at hpb
          generalize plcI (prL L.length) ((cA l' t).1, (cA l' t).2) = p at *
          generalize (cA l' t).1 = x at *
          generalize (cA l' t).2 = y at *
          have q0 := HS.out.1.c0
          have q1 := HS.out.1.c1
          have hzw := HS.out.1.z
          have hB := HS.out.1.B
          have HTG := Lib.hid htg
          clear hc4 htg
          go_wp2_with fail
          refine (HPl.out _ (by (repeat' (first | (with_reducible exact Below.refl _ _) | (with_reducible assumption) | (with_reducible refine belowNext ?_ (by with_reducible assumption)) | (with_reducible refine belowAlloc ?_ _) | (with_reducible refine Below.drew ?_) | (with_reducible refine below_drewN ?_ _) | (with_reducible refine Below.setCell ?_ ?_ _) | go_size | (with_reducible refine sizeOf' ?_) | (with_reducible refine sizeAdd ?_) | (dsimp only; first | (with_reducible refine sizeOf' ?_) | (with_reducible refine sizeAdd ?_)))))).mono ?_
          rintro e w3 ⟨rfl, hb3⟩
          have hb3 : Below wr.heap.size wr w3 := belowNext (belowAlloc (Below.refl _ _) _) hb3
          have HS3 : Hid (MxS w A m cap (some ⟨g2, off2, none⟩) N cap2 g off bb oo (mxK L k t) w3 ∧ AngOwn w3 X (some ⟨b4, o4, none⟩) l') := Lib.hid ⟨HS.out.1.on hb3, HS.out.2.next hb3⟩
          clear HS hb3 q0 q1 hzw hB u0 u1 HPl hb4X hb4
          by_cases hp0 : 0 ≤ p
          · obtain ⟨P, rfl⟩ : ∃ P : Nat, p = (P : Int) := ⟨p.toNat, by omega⟩
            have hPN : P < N := by omega
            have hPI : (P : Int) < (N : Int) := by omega
            have hkI : (k : Int) < (N : Int) := by omega
            have d0 : decide ((P : Int) ≥ 0) = true := decide_eq_true (by omega)
            have d0' : decide ((0 : Int) ≤ (P : Int)) = true := decide_eq_true (by omega)
            obtain ⟨Ai, ci, y0, hAi⟩ := (HS3.out.1.tab hN0).head k hkN
            obtain rfl := hAi hN0
            obtain ⟨y1, y2⟩ := (HS3.out.1.tab hN0).cell k P hkN hPN
            have hgw := (HS3.out.1.tab hN0).gz
            have hbw := ((HS3.out.1.tab hN0).row k hkN hN0).2.1
            have hv := mxK_bnd L k t k P
            obtain ⟨V, hV⟩ : ∃ V, mxK L k t k P = V := ⟨_, rfl⟩
            have HV := Lib.hid hV
            rw [hV] at hv y1
            have hwV : IntKind.i64.wrap (V + 1) = V + 1 := IntWalk.i64_in _ (by omega)
            clear hAi hV hpb hp0
            go_wp2
            go_roundg gt
            case measure => omega
            case rel =>
              refine ⟨t + 1, by have := HTG.out; omega, by go_num, Lib.hid ⟨(HS3.out.1.put hkN hPN (V + 1)).congr fun i j _ hj => ?_, HS3.out.2.setLow HbX.out⟩⟩
              rw [HSt.out i j hj]
              by_cases e : i = k ∧ j = P
              · obtain ⟨rfl, rfl⟩ := e
                rw [if_pos ⟨rfl, rfl⟩, if_pos ⟨rfl, rfl⟩, HV.out]
              · rw [if_neg e, if_neg (fun h => e ⟨h.1, by omega⟩)]
          · have d0 : decide (p ≥ 0) = false := decide_eq_false (by omega)
            have d0' : decide ((0 : Int) ≤ p) = false := decide_eq_false (by omega)
            have HPn := Lib.hid hp0
            have HS4 : Hid (MxS w A m cap (some ⟨g2, off2, none⟩) N cap2 g off bb oo (mxK L k (t + 1)) w3 ∧ AngOwn w3 X (some ⟨b4, o4, none⟩) l') := Lib.hid ⟨HS3.out.1.congr fun i j _ hj => by
              rw [HSt.out i j hj, if_neg (fun h => HPn.out (by have := h.2; omega))], HS3.out.2⟩
            clear hp0 hpb HS3
            go_wp2
            go_roundg gt
            case measure => omega
            case rel => exact ⟨t + 1, by have := HTG.out; omega, by go_num, HS4⟩
end Go.Proofs.Ytjomgbjiognmmaa

/-
  Contracts: InternalAddress, on both sides; written by genE17.py.
-/
import Derived.Test.YtomcmjnhfloeeaaDoorE14
import Derived.Test.YtomcmjnhfloeeaaDoorD2
import Derived.Maps.OwnIn
namespace Go.Proofs.YtomcmjnhfloeeaaDoor
open Go.RowKit
attribute [local go_sem] Oper.semAt_some

/-- The block in which the gathered numbers lie. -/
def rowQ (s : Nat) (W : World) : Option Nat := (W.cell? ⟨s, 0, none⟩).bind Value.ownBlock
theorem rowQ_boxed {W : World} {s : Nat} {t : TypeId} {v : Value} (h : Boxed W s t v) : rowQ s W = v.ownBlock := by unfold rowQ; rw [h.cell]; rfl
theorem boxed_ownQ {X Y : World} {r : Option Nat} {B : Nat} {t : TypeId} {v : Value} (h : Boxed X B t v) (hg : X.grownBy Y r) (hr : ∀ b, r = some b → ∃ o : Obj, X.heap[b]? = some o ∧ o.isCells = false) : Boxed Y B t v :=
  h.kept hg fun e => by
    obtain ⟨o, ho, hc⟩ := hr B e.symm
    rw [show X.heap[B]? = _ from h] at ho; cases ho; cases hc
theorem row_ownQ {X Y : World} {r : Option Nat} {n0 k : Nat} {e : TypeId} {sz : Nat} {v : Value} {xs : List Value} (h : X.ownsRow n0 e sz v k xs) (hg : X.grownBy Y r) (hr : ∀ b, r = some b → ∃ o : Obj, X.heap[b]? = some o ∧ o.isCells = false) : Y.ownsRow n0 e sz v k xs := by
  refine h.kept hg ?_
  rcases h.2 with ⟨rfl, _⟩ | ⟨g, cap, cur, rfl, _, hgb, _⟩
  · exact .inl rfl
  · refine .inr fun e' => ?_
    obtain ⟨o, ho, hc⟩ := hr g (by simpa [Value.ownBlock] using e'.symm)
    rw [hgb] at ho; cases ho; cases hc
/-- Between two rounds: k numbers have been gathered. s: the block of the list's box; D: the first block of the loop's own. -/
structure AdI (w : World) (x y : Wd) (s D k : Nat) (W : World) : Prop where
  le : k ≤ 20
  nz : ∀ j, j < k → seqR x y 1 j ≠ 0
  list : ∃ v, Boxed W s 40 v ∧ W.ownsRow D 2 1 v k (numsV (firstR x y 1 k))
  B : Below w.heap.size w W
  z : D ≤ W.heap.size
def AdX (w : World) (x y : Wd) (s D : Nat) : Code → Nat → World → Prop
  | .exit i, _, W => i = 0 ∧ AdI w x y s D 20 W
  | _, _, _ => False
theorem AdI.own (w : World) (x y : Wd) (s D : Nat) (hs : s < D) (hw : w.heap.size ≤ D) : ∀ k X Y r, AdI w x y s D k X → X.grownBy Y r → (∀ b, r = some b → D ≤ b ∧ some b ≠ rowQ s X) → AdI w x y s D k Y ∧ rowQ s Y = rowQ s X := by
  rintro k X Y r h hg hr
  obtain ⟨v, hv, hrow⟩ := h.list
  have hv' : Boxed Y s 40 v := hv.kept hg fun e => by have := (hr _ e.symm).1; omega
  have hrow' : Y.ownsRow D 2 1 v k (numsV (firstR x y 1 k)) := by
    refine hrow.kept hg ?_
    rcases hrow.2 with ⟨rfl, _⟩ | ⟨g, cap, cur, rfl, _⟩
    · exact .inl rfl
    · refine .inr fun e => ?_
      have := (hr g (by simpa [Value.ownBlock] using e.symm)).2
      rw [rowQ_boxed hv] at this
      exact this rfl
  exact ⟨⟨h.le, h.nz, ⟨v, hv', hrow'⟩, h.B.grown hg h.B.size (fun b e => Nat.le_trans hw (hr b e).1), Nat.le_trans h.z hg.size⟩, (rowQ_boxed hv').trans (rowQ_boxed hv).symm⟩
theorem AdX.own (w : World) (x y : Wd) (s D : Nat) (hw : w.heap.size ≤ D) (c : Code) : OwnFrom D (AdX w x y s D c) := by
  rintro k X Y r h hg hr
  have hr' : ∀ b, r = some b → ∃ o : Obj, X.heap[b]? = some o ∧ o.isCells = false := fun b e => (hr b e).2
  cases c <;> try exact h
  case exit =>
    obtain ⟨hi, h1, h2, ⟨v, hv, hrow⟩, h3, h4⟩ := h
    exact ⟨hi, h1, h2, ⟨v, boxed_ownQ hv hg hr', row_ownQ hrow hg hr'⟩, h3.grown hg h3.size (fun b e => Nat.le_trans hw (hr b e).1), Nat.le_trans h4 hg.size⟩
theorem AdI.row {w : World} {x y : Wd} {s D k : Nat} {W : World} {r : Nat} (h : AdI w x y s D k W) (hr : rowQ s W = some r) : ∃ o : Obj, W.heap[r]? = some o ∧ o.isCells = true := by
  obtain ⟨v, hv, hrow⟩ := h.list
  rw [rowQ_boxed hv] at hr
  rcases hrow.2 with ⟨rfl, _⟩ | ⟨g, cap, cur, rfl, _, hgb, _⟩
  · cases hr
  · obtain rfl : g = r := by simpa [Value.ownBlock] using hr
    exact ⟨_, hgb, rfl⟩
theorem AdI.apart {w : World} {x y : Wd} {s D k : Nat} {W : World} {b : Nat} (h : AdI w x y s D k W) (hb : b < D) : some b ≠ rowQ s W := by
  obtain ⟨v, hv, hrow⟩ := h.list
  rw [rowQ_boxed hv]
  intro e
  have := own_blockI hrow b e.symm
  omega
/-- A number more. -/
theorem ad_step {w : World} {x y : Wd} {s D k : Nat} {W w1 : World} {v v' : Value} {T1 : TypeId} {K : Int} (h : AdI w x y s D k W) (hv : Boxed W s 40 v) (hrow : W.ownsRow D 2 1 v k (numsV (firstR x y 1 k))) (hs : s < D) (hws : w.heap.size ≤ s)
    (hk : k < 20) (hK : K = (seqR x y 1 k : Int)) (hnz : seqR x y 1 k ≠ 0) (ho : w1.ownsRow D 2 1 v' (k + 1) (numsV (firstR x y 1 k) ++ [.int .i64 K])) (h2 : (W.alloc (.cells #[.int .i64 K] T1)).grownBy w1 v.ownBlock)
    (hat : v'.ownBlock = v.ownBlock ∨ v'.ownBlock = some (W.alloc (.cells #[.int .i64 K] T1)).heap.size) (prot : Nat → Prop) (hp : ¬ prot s) :
    KeepX D prot (rowQ s W) W (w1.setCell ⟨s, 0, none⟩ v') ∧ AdI w x y s D (k + 1) (w1.setCell ⟨s, 0, none⟩ v') ∧
      (rowQ s (w1.setCell ⟨s, 0, none⟩ v') = rowQ s W ∨ ∀ b, rowQ s (w1.setCell ⟨s, 0, none⟩ v') = some b → W.heap.size ≤ b) := by
  have sz : W.heap.size ≤ (w1.setCell ⟨s, 0, none⟩ v').heap.size := by have := h2.size; simp [World.setCell] at *; omega
  have st : ∀ B, B < W.heap.size → B ≠ s → some B ≠ v.ownBlock → (w1.setCell ⟨s, 0, none⟩ v').heap[B]? = W.heap[B]? := by
    intro B hB hs hv
    rw [Below.heap_setCell _ _ _ _ hs, h2.block B (by simp; omega) hv, Below.heap_alloc _ _ _ hB]
  obtain ⟨a1, a2, -, -, a5⟩ := hv.appended (n₀ := w.heap.size) (by decide) (ownMonoI hrow (by omega)) h.B.size hws (ownMonoI ho (by omega)) h2
  have a3 : (w1.setCell ⟨s, 0, none⟩ v').ownsRow D 2 1 v' (k + 1) (numsV (firstR x y 1 k) ++ [.int .i64 K]) := ho.kept (grownBy_setCell' w1 s v') (.inr (a1.not_row (by decide) ho).symm)
  refine ⟨⟨sz, fun b hb hl hr => ?_⟩, ⟨by omega, fun j hj => ?_, ⟨v', a2, ?_⟩, ?_, Nat.le_trans h.z sz⟩, ?_⟩
  · refine st b hl (fun e => ?_) (by rw [rowQ_boxed hv] at hr; exact hr)
    subst e
    rcases hb with hb | hb
    · omega
    · exact hp hb
  · rcases Nat.lt_or_ge j k with h3 | h3
    · exact h.nz j h3
    · rw [show j = k by omega]; exact hnz
  · rw [firstR_snoc, numsV_snoc, ← hK]; exact a3
  · exact h.B.trans a5
  · rw [rowQ_boxed a2, rowQ_boxed hv]
    rcases hat with e | e
    · exact .inl e
    · refine .inr fun b hb => ?_
      rw [e] at hb
      cases hb
      simp

/-- What InternalAddress answers. -/
def AddrOf (w : World) (x y : Wd) (e : Ending) (w' : World) : Prop :=
  ∃ c A cap, e = .returned (.tuple #[.slice A c cap, .int .i64 0]) ∧ Hid (CntIs x y 1 20 c) ∧ ownsI w' w.heap.size (.slice A (firstR x y 1 c).length cap) (firstR x y 1 c) ∧ Below w.heap.size w w'

set_option maxHeartbeats 1000000 in
theorem implIA0 (x y : Wd) (w : World) (hxy : x.length + y.length ≤ 1048576) (h : isSeq x y = false) :
    Calls Tryd.prog 25 #[sqV x y] w fun e w' => e = .returned (.tuple #[.slice none 0 0, .int .i64 1]) ∧ Below w.heap.size w w' := by
  have H1 := Lib.hid (fun w => implIsSeq x y w hxy)
  rw [h] at H1
  have S0 := sqs0 w x y 25
  clear h hxy
  go_enter Tryd.func25, Tryd.ntmps25
  go_wp2_with fail
  refine (H1.out _).mono ?_
  rintro e w1 ⟨rfl, hb1⟩
  have S1 := S0.on hb1
  go_wp2
  go_ret2
  exact ⟨rfl, S1.B⟩
set_option maxHeartbeats 1000000 in
theorem specIA0 (x y : Wd) (w : World) (hxy : x.length + y.length ≤ 1048576) (h : isSeq x y = false) :
    Calls Tryd.prog 24 #[sqV x y] w fun e w' => e = .returned (.tuple #[.slice none 0 0, .int .i64 1]) ∧ Below w.heap.size w w' := by
  have H1 := Lib.hid (fun w => specL01Seq x y w hxy)
  rw [h] at H1
  have S0 := sqs0 w x y 25
  clear h hxy
  go_enter Tryd.func24, Tryd.ntmps24
  go_wp2_with fail
  refine (H1.out _).mono ?_
  rintro e w1 ⟨rfl, hb1⟩
  have S1 := S0.on hb1
  go_wp2
  go_ret2
  exact ⟨rfl, S1.B⟩
set_option maxHeartbeats 1000000 in
theorem specIA1 (x y : Wd) (w : World) (hxy : x.length + y.length ≤ 1048576) (h : isSeq x y = true) :
    Calls Tryd.prog 24 #[sqV x y] w (AddrOf w x y) := by
  have H1 := Lib.hid (fun w => specL01Seq x y w hxy)
  rw [h] at H1
  have HA : Hid (∀ W, Calls Tryd.prog 54 #[sqV x y, .int .i64 1, .int .i64 20] W fun e w' => (∃ c A cap, e = .returned (.slice A c cap) ∧ Hid (CntIs x y 1 20 c) ∧ ownsI w' W.heap.size (.slice A (firstR x y 1 c).length cap) (firstR x y 1 c)) ∧ Below W.heap.size W w') := Lib.hid (fun W => specAlong x y 1 20 W h (by omega) (by omega))
  have S0 := sqs0 w x y 25
  clear h hxy
  go_enter Tryd.func24, Tryd.ntmps24
  go_wp2_with fail
  refine (H1.out _).mono ?_
  rintro e w1 ⟨rfl, hb1⟩
  have S1 := S0.on hb1
  obtain ⟨bb, z, c0, c1⟩ := id S1
  clear S0 hb1
  go_wp2_with fail
  refine (HA.out _).mono ?_
  rintro e w2 ⟨⟨c, A, cap, rfl, Hc, O⟩, hb2⟩
  have S2 := S1.on hb2
  have HO := Lib.hid (ownMonoI O (Nat.le_of_lt z))
  clear S1 hb2 O bb z c0 c1
  go_wp2
  go_ret2
  exact ⟨c, A, cap, rfl, Hc, HO.out, S2.B⟩

set_option maxRecDepth 100000 in
set_option maxHeartbeats 4000000 in
theorem implIA1 (x y : Wd) (w : World) (hxy : x.length + y.length ≤ 1048576) (h : isSeq x y = true) :
    Calls Tryd.prog 25 #[sqV x y] w (AddrOf w x y) := by
  have HH := Lib.hid h
  have H1 := Lib.hid (fun w => implIsSeq x y w hxy)
  rw [h] at H1
  have HT := Lib.hid (fun w => implTab x y w h)
  have HL := Lib.hid (fun (g Bf Bt : Nat) (w : World) (HT : ItB w Bf Bt g 1 x y) => listSeq 8 x y Bf Bt g 1 21 (by omega) (by omega) (by omega) w h HT)
  have S0 := sqs0 w x y 25
  clear h hxy
  refine (callsIn_wide (n := 9)).1 ?_
  refine callsIn_of_wp_marks Tryd.func25 rfl trivial ?_ rfl
  simp only [Tryd.ntmps25, List.size_toArray, List.length_cons, List.length_nil, Nat.reduceAdd, Nat.reduceSub, Array.replicate_succ, Array.replicate_zero, List.push_toArray, List.append_toArray, List.nil_append, List.cons_append]
  gi_wp2_with fail
  refine ⟨trivial, callsIn_wide.2 ((H1.out _).mono ?_)⟩
  rintro e w1 ⟨rfl, hb1⟩
  have S1 := (S0.on hb1).on (belowAlloc (Below.refl _ _) (.cells #[.slice none 0 0] 40))
  have Z1 : w.heap.size < w1.heap.size := (S0.on hb1).z
  have A1 : Boxed (w1.alloc (.cells #[.slice none 0 0] 40)) w1.heap.size 40 (.slice none 0 0) := Boxed.new w1 40 (.slice none 0 0)
  have zs : w1.heap.size < (w1.alloc (.cells #[.slice none 0 0] 40)).heap.size := by simp
  obtain ⟨bb, zz, c0, c1⟩ := id S1
  clear S0 hb1
  gi_wp2_with fail
  refine ⟨trivial, callsIn_wide.2 ((HT.out _).mono ?_)⟩
  rintro e w2 ⟨g, n, rfl, hm2, hg, hb2⟩
  have S2 := S1.on hb2
  have A2 : Boxed w2 w1.heap.size 40 (.slice none 0 0) := A1.kept (belowGQ hb2) (by simp)
  have Z2 : w1.heap.size < w2.heap.size := Nat.lt_of_lt_of_le zs hb2.size
  have G2 : w1.heap.size < g := Nat.lt_of_lt_of_le zs hg
  have M2 := Lib.hid hm2
  clear S1 A1 zs hb2 hg hm2 bb zz c0 c1 HT
  gi_wp2_with fail
  refine ⟨trivial, callsIn_wide.2 ((listMake x y g 1 _).mono ?_)⟩
  rintro e w3 ⟨rfl, hw3⟩
  gi_wp2
  obtain ⟨s, hs⟩ : ∃ s, w1.heap.size = s := ⟨_, rfl⟩
  rw [hs] at Z1 A2 Z2 G2 ⊢
  have HD : w3.heap.size = w2.heap.size + 1 + 1 := by rw [← hw3]; simp
  have B3 : Below w2.heap.size w2 w3 := by rw [← hw3]; (repeat' (first | (with_reducible exact Below.refl _ _) | (with_reducible assumption) | (with_reducible refine belowNext ?_ (by with_reducible assumption)) | (with_reducible refine belowAlloc ?_ _) | (with_reducible refine Below.drew ?_) | (with_reducible refine below_drewN ?_ _) | (with_reducible refine Below.setCell ?_ ?_ _) | go_size | (with_reducible refine sizeOf' ?_) | (with_reducible refine sizeAdd ?_) | (dsimp only; first | (with_reducible refine sizeOf' ?_) | (with_reducible refine sizeAdd ?_))))
  have HIt : ItB w3 (w2.heap.size + 1) w2.heap.size g 1 x y := by
    rw [← hw3]
    exact ⟨by simp, by simp; omega, by simp [go_sem], by simp [go_sem], by simp [go_sem], by simp [go_sem], ⟨n, (M2.out.alloc _).alloc _⟩⟩
  have A3 : Boxed w3 s 40 (.slice none 0 0) := A2.kept (belowGQ B3) (by simp)
  have S3 := S2.on B3
  have start : AdI w x y s w3.heap.size 0 w3 := ⟨by omega, fun j hj => absurd hj (by omega), ⟨_, A3, World.ownsRow_nil _ _ _ _⟩, S3.B, Nat.le_refl _⟩
  have hgD : g < w3.heap.size := by obtain ⟨n', hm⟩ := HIt.m; exact hm.lt
  clear hw3 A2 S2 A3 S3 B3 M2 hs
  obtain ⟨i0, hi, hz0, hz1, hz2⟩ := infoI_parts
  refine wpIn_till2 (by omega) (gf := 75) (lb := #[.pointer (some ⟨w2.heap.size + 1, 0, none⟩), .pointer (some ⟨w2.heap.size, 0, none⟩)]) rfl (enters_of Tryd.func75 (by kernel_rfl) rfl) (HL.out g _ _ w3 HIt) (Below.refl _ _) (fun _ => rfl)
    (rowQ s) (AdI w x y s w3.heap.size) (AdX w x y s w3.heap.size) (AdI.own w x y s _ (by omega) (by omega)) (AdX.own w x y s _ (by omega)) (fun k X h => by have := h.le; omega) (fun k X r h => h.row)
    (fun k X b h hb => h.apart (by rcases hb with rfl | rfl | rfl <;> omega)) start
    (fun k a' W => a' = { tmps := #[sqV x y, .pointer (some ⟨w.heap.size, 0, none⟩), .slice none 0 0, .int .i64 0, .pointer (some ⟨s, 0, none⟩), .int .i64 (seqR x y 1 k : Int), sqV x y, .bool true, .bool false, sqV x y, tabV x y g, .func (.func 75) #[] #[.pointer (some ⟨w2.heap.size + 1, 0, none⟩), .pointer (some ⟨w2.heap.size, 0, none⟩)], .int .i64 (seqR x y 1 k : Int), undef, undef, undef, undef, undef, undef, undef, undef], defers := [] })
    ?hAx ?assign ?body ?done ?stop
  case hAx =>
    rintro k a' - X Y r h gr hr
    exact h
  case assign =>
    intro l k W K hsW hI hm hK
    gi_wp2
    exact hK _ _ (grown_of_below (Below.refl _ _)) rfl
  case body =>
    rintro l k a' W hl hI hm rfl
    obtain ⟨v, hv, hrow⟩ := hI.list
    have q0 := hv.cell
    have j0 := hv.frozen
    have hle := hI.le
    obtain ⟨A, cap, hvA⟩ : ∃ A cap, v = .slice A k cap := by
      rcases hrow.2 with ⟨rfl, h0⟩ | ⟨g', cap', cur, hv', _⟩
      · exact ⟨none, 0, by rw [h0]⟩
      · exact ⟨_, _, hv'⟩
    subst hvA
    have HI := Lib.hid hI
    have HZ := Lib.hid hm
    have HV := Lib.hid hv
    have HO := Lib.hid hrow
    have hzD : w3.heap.size ≤ W.heap.size := hI.z
    clear hI HIt HL start hm hv
    by_cases hk : k = 20
    · subst hk
      clear hrow
      generalize (seqR x y 1 20 : Int) = K at *
      gi_wp2
      exact ⟨KeepX.refl _ _ _ _, rfl, HI.out⟩
    · have hk2 : k < 20 := by omega
      have hk3 : ((k : Int) == 20) = false := by simp; omega
      have HKv : Hid (∃ K, K = (seqR x y 1 k : Int)) := Lib.hid ⟨_, rfl⟩
      obtain ⟨K, hK⟩ := HKv.out
      have HK := Lib.hid hK
      rw [← hK]
      clear hK HKv
      gi_wp2_with (gi_at_builtin; refine wpListIn_append_own_at _ rfl _ _ 40 rfl w3.heap.size 2 i0 (.int .i64 0) 1 8 Tryd.underlying40 hi hz0 hz1 hz2 rfl (by decide) (.slice A k cap) k _ rfl (World.ownsRow.alloc hrow _) ⟨W.heap.size, 0, none⟩ 1 1 [.int .i64 K] rfl rfl ?c1 ?c2 ?c3 ?c4 ?c5 ?_)
      case c1 => exact cell_one_new _ _ _
      case c2 => intro u hu; simp at hu; subst hu; rfl
      case c3 => unfold maxLen; omega
      case c4 => omega
      case c5 => simp; omega
      intro v' w4 hown4 hgrow4 _ hat4
      obtain ⟨A', cap', rfl⟩ := formI hown4
      have hs4 : w4.heap[s]? = W.heap[s]? := (hgrow4.block s (by simp; omega) (HV.out.not_row (by decide) HO.out)).trans (Below.heap_alloc _ _ _ (by omega))
      have y0 : w4.cell? ⟨s, 0, none⟩ = some (.slice A k cap) := (World.cell?_of_block hs4).trans q0
      have y1 : w4.frozen? ⟨s, 0, none⟩ = false := (World.frozen?_of_block hs4).trans j0
      have H4 := Lib.hid (And.intro hown4 (And.intro hgrow4 hat4))
      clear hs4 hown4 hgrow4 hat4 hrow
      gi_wp2
      exact ad_step (T1 := 2) HI.out HV.out HO.out (by omega) (by omega) hk2 HK.out HZ.out (by have := H4.out.1; rw [← HD] at this; exact this) H4.out.2.1 (by simpa using H4.out.2.2) _ (by rintro (e | e | e) <;> omega)
  case done =>
    intro D k W hD hz hI hK
    have HC : Hid (CntIs x y 1 20 k) := Lib.hid ⟨hI.le, hI.nz, .inr (Classical.not_not.1 hz)⟩
    obtain ⟨v, hv, hrow⟩ := hI.list
    obtain ⟨A, cap, hvA⟩ : ∃ A cap, v = .slice A k cap := by
      rcases hrow.2 with ⟨rfl, h0⟩ | ⟨g', cap', cur, hv', _⟩
      · exact ⟨none, 0, by rw [h0]⟩
      · exact ⟨_, _, hv'⟩
    subst hvA
    have q0 := hv.cell
    have HI := Lib.hid hI
    have HO := Lib.hid hrow
    clear HL start hz hI hrow hv HIt
    gi_wp2
    refine ⟨by simp, .inl ⟨_, _, rfl, run_takeDeferred hK, ?_⟩⟩
    refine ⟨.tuple #[.slice A k cap, .int .i64 0], by simp [results, Tryd.results25, go_sem], k, A, cap, rfl, HC, ?_, HI.out.B.grown (grownBy_putObj' W D (.deferred none)) HI.out.B.size (fun b e => by cases e; omega)⟩
    have := row_ownQ HO.out (grownBy_putObj' W D (.deferred none)) (fun b e => by cases e; exact ⟨_, hK, rfl⟩)
    unfold ownsI
    rw [firstR_len]
    exact ownMonoI this (by omega)
  case stop =>
    intro D c k W hD hx hK
    cases c <;> try exact hx.elim
    case exit i =>
      obtain ⟨rfl, hI⟩ := hx
      have HC : Hid (CntIs x y 1 20 20) := Lib.hid ⟨hI.le, hI.nz, .inl rfl⟩
      obtain ⟨v, hv, hrow⟩ := hI.list
      obtain ⟨A, cap, hvA⟩ : ∃ A cap, v = .slice A 20 cap := by
        rcases hrow.2 with ⟨rfl, h0⟩ | ⟨g', cap', cur, hv', _⟩
        · exact ⟨none, 0, by rw [h0]⟩
        · exact ⟨_, _, hv'⟩
      subst hvA
      have q0 := hv.cell
      have HI := Lib.hid hI
      have HO := Lib.hid hrow
      clear HL start hI hrow hv HIt
      gi_wp2
      refine ⟨by simp, .inl ⟨_, _, rfl, run_takeDeferred hK, ?_⟩⟩
      refine ⟨.tuple #[.slice A 20 cap, .int .i64 0], by simp [results, Tryd.results25, go_sem], 20, A, cap, rfl, HC, ?_, HI.out.B.grown (grownBy_putObj' W D (.deferred none)) HI.out.B.size (fun b e => by cases e; omega)⟩
      have := row_ownQ HO.out (grownBy_putObj' W D (.deferred none)) (fun b e => by cases e; exact ⟨_, hK, rfl⟩)
      unfold ownsI
      rw [firstR_len]
      exact ownMonoI this (by omega)
end Go.Proofs.YtomcmjnhfloeeaaDoor

/-
  Rows of angles that a call holds; an angle put in its place among angles in order (plain mathematics).
  Contracts: an angle put in its place among angles in order, as the model does it.
  Contracts: angles in order, none twice, as the model does it.
-/
import Derived.Test.YtnoaahkpcnkbnaaVX
import Derived.Test.YtnoaahkpcnkbnaaW30
import Derived.Test.YtnoaahkpcnkbnaaW7
import Derived.Deep.DeepCutAuto
import Derived.RangeFuncBox
import Derived.WalkSmall
import Derived.OneCell
import Derived.Still
import Derived.StillTactics
import Derived.StillTailTactics
import Derived.Test.YtnoaahkpcnkbnaaW9
import Derived.Deep.LoopGhost
namespace Go.Proofs.Ytnoaahkpcnkbnaa
open Go.RowKit

def lessA (q p : Int × Int) : Bool := ltA q.1 q.2 p.1 p.2
/-- How many angles at the head of a list are lesser. -/
def lessNA (out : List (Int × Int)) (p : Int × Int) : Nat := out.findIdx fun q => !lessA q p
/-- An angle put in its place, if it is new. -/
def insA (out : List (Int × Int)) (p : Int × Int) : List (Int × Int) := if out[lessNA out p]? = some p then out else out.take (lessNA out p) ++ p :: out.drop (lessNA out p)
theorem insA_old {out : List (Int × Int)} {p : Int × Int} (h : out[lessNA out p]? = some p) : insA out p = out := by unfold insA; rw [if_pos h]
theorem insA_new {out : List (Int × Int)} {p : Int × Int} (h : ¬ out[lessNA out p]? = some p) : insA out p = out.take (lessNA out p) ++ p :: out.drop (lessNA out p) := by unfold insA; rw [if_neg h]
theorem insA_len {out : List (Int × Int)} {p : Int × Int} (h : ¬ out[lessNA out p]? = some p) : (insA out p).length = out.length + 1 := by
  rw [insA_new h]
  have : lessNA out p ≤ out.length := List.findIdx_le_length
  simp only [List.length_append, List.length_cons, List.length_take, List.length_drop]
  omega
theorem lessNA_le (out : List (Int × Int)) (p : Int × Int) : lessNA out p ≤ out.length := List.findIdx_le_length
theorem lessNA_lt {out : List (Int × Int)} {p : Int × Int} {j : Nat} (h : j < lessNA out p) {q : Int × Int} (hq : out[j]? = some q) : lessA q p = true := by
  obtain ⟨hj, rfl⟩ := List.getElem?_eq_some_iff.1 hq
  have := List.not_of_lt_findIdx h
  simpa using this
theorem lessNA_at {out : List (Int × Int)} {p : Int × Int} {q : Int × Int} (hq : out[lessNA out p]? = some q) : lessA q p = false := by
  obtain ⟨hj, rfl⟩ := List.getElem?_eq_some_iff.1 hq
  have := List.findIdx_getElem (xs := out) (p := fun q => !lessA q p) (w := hj)
  have h2 : (!lessA out[lessNA out p] p) = true := this
  cases h3 : lessA out[lessNA out p] p
  · rfl
  · rw [h3] at h2; cases h2
theorem lessNA_stop {out : List (Int × Int)} {p : Int × Int} {k : Nat} (hk : k < out.length) (h : ∀ j, j < k → ∀ q, out[j]? = some q → lessA q p = true) {q : Int × Int} (hq : out[k]? = some q) (hn : lessA q p = false) : lessNA out p = k := by
  rcases Nat.lt_trichotomy (lessNA out p) k with h1 | h1 | h1
  · have hl : lessNA out p < out.length := by omega
    have e := List.getElem?_eq_getElem hl
    have a := h _ h1 _ e
    have b := lessNA_at e
    rw [a] at b; cases b
  · exact h1
  · have := lessNA_lt h1 hq
    rw [this] at hn; cases hn
theorem lessNA_end {out : List (Int × Int)} {p : Int × Int} (h : ∀ j, j < out.length → ∀ q, out[j]? = some q → lessA q p = true) : lessNA out p = out.length := by
  rcases Nat.lt_or_ge (lessNA out p) out.length with h1 | h1
  · have e := List.getElem?_eq_getElem h1
    have a := h _ h1 _ e
    have b := lessNA_at e
    rw [a] at b; cases b
  · have := lessNA_le out p; omega

/-- The cells of a list of angles. -/
def flatA : List (Int × Int) → List Value
  | [] => []
  | p :: l => .int .i64 p.1 :: .int .i64 p.2 :: flatA l
theorem flatA_app : ∀ (l m : List (Int × Int)), flatA (l ++ m) = flatA l ++ flatA m
  | [], m => rfl
  | p :: l, m => by simp [flatA, flatA_app l m]
theorem flatA_len : ∀ l : List (Int × Int), (flatA l).length = l.length * 2
  | [] => rfl
  | p :: l => by simp [flatA, flatA_len l]; omega
theorem flatA_at : ∀ {l : List (Int × Int)} {i : Nat} {a b : Int}, l[i]? = some (a, b) → (flatA l)[i * 2]? = some (.int .i64 a) ∧ (flatA l)[i * 2 + 1]? = some (.int .i64 b)
  | [], i, a, b, h => by simp at h
  | p :: l, 0, a, b, h => by simp at h; subst h; simp [flatA]
  | p :: l, i + 1, a, b, h => by
    simp at h
    obtain ⟨h1, h2⟩ := flatA_at h
    have e1 : (i + 1) * 2 = i * 2 + 1 + 1 := by omega
    rw [e1]
    simp only [flatA, List.getElem?_cons_succ]
    exact ⟨h1, h2⟩
theorem flatA_take : ∀ (l : List (Int × Int)) (k : Nat), flatA (l.take k) = (flatA l).take (k * 2)
  | [], k => by simp [flatA]
  | p :: l, 0 => by simp [flatA]
  | p :: l, k + 1 => by
    rw [List.take_succ_cons, show (k + 1) * 2 = k * 2 + 1 + 1 by omega]
    simp only [flatA, List.take_succ_cons, flatA_take l k]
theorem flatA_drop : ∀ (l : List (Int × Int)) (k : Nat), flatA (l.drop k) = (flatA l).drop (k * 2)
  | [], k => by simp [flatA]
  | p :: l, 0 => by simp
  | p :: l, k + 1 => by
    rw [List.drop_succ_cons, show (k + 1) * 2 = k * 2 + 1 + 1 by omega]
    simp only [flatA, List.drop_succ_cons, flatA_drop l k]
theorem flatA_one : ∀ (l : List (Int × Int)), ∀ u ∈ flatA l, u.oneCell' = true
  | [], u, h => by simp [flatA] at h
  | p :: l, u, h => by
    simp only [flatA, List.mem_cons] at h
    rcases h with rfl | rfl | h
    · rfl
    · rfl
    · exact flatA_one l u h
theorem news_of_rowA {w : World} {lo g n cap : Nat} {e : TypeId} {xs : List Value} (h : w.ownsRow lo e 2 (.slice (some ⟨g, 0, none⟩) n cap) n xs) (o : Nat) (news : List Value) (hn : ∀ i u, news[i]? = some u → xs[o + i]? = some u) :
    ∀ i u, news[i]? = some u → w.cell? ((⟨g, o, none⟩ : Addr).add i) = some u := by
  intro i u hu
  have hadd : (⟨g, o, none⟩ : Addr).add i = ⟨g, o + i, none⟩ := by unfold Addr.add; split <;> simp_all
  have hx := hn i u hu
  have hl := (List.getElem?_eq_some_iff.1 hx).1
  rw [h.1] at hl
  rw [hadd]
  exact (h.cellAt (o + i) hl).trans hx
theorem ownA_of {w : World} {lo : Nat} {l : List (Int × Int)} {A : Option Addr} {len cap : Nat} (hl : l.length = len) (h : w.ownsRow lo 32 2 (.slice A len cap) len (flatA l)) : AngOwn w lo A l := by
  intro hne
  have hk : 0 < len := by
    rcases Nat.eq_zero_or_pos len with h0 | h0
    · rw [h0] at hl; exact absurd (List.eq_nil_of_length_eq_zero hl) hne
    · exact h0
  obtain ⟨g, c, hv, hlo, hg⟩ := h.form hk
  obtain ⟨rfl, rfl⟩ : A = some ⟨g, 0, none⟩ ∧ cap = c := by injection hv with hA hn hc; exact ⟨hA, hc⟩
  refine ⟨g, 0, rfl, hlo, hg, fun i a b hi => ?_⟩
  have hik : i < len := by
    rcases Nat.lt_or_ge i l.length with h1 | h1
    · omega
    · rw [List.getElem?_eq_none h1] at hi; cases hi
  obtain ⟨f1, f2⟩ := flatA_at hi
  rw [show 0 + i * 2 = i * 2 by omega]
  exact ⟨(h.cellAt _ (by omega)).trans f1, (h.cellAt _ (by omega)).trans f2, h.frozenAt _, h.frozenAt _⟩

theorem ownsCapA {W : World} {e : TypeId} {size : Nat} {A : Option Addr} {n cap : Nat} {xs : List Value} {lo : Nat} (h : W.ownsRow lo e size (.slice A n cap) n xs) : n ≤ cap := by
  rcases h.2 with ⟨a, b⟩ | ⟨g, cap', cur, a, _, _, b, _⟩
  · omega
  · injection a with _ _ hc; omega
theorem eqA_iff4 (a b c d : Int) : eqA a b c d = true ↔ (a, b) = (c, d) := by
  unfold eqA; simp
theorem allAng_at {l : List (Int × Int)} (h : allAng l = true) {k : Nat} {n d : Int} (hx : l[k]? = some (n, d)) : isAng n d = true := by
  unfold allAng at h
  rw [List.all_eq_true] at h
  exact h (n, d) (List.mem_of_getElem? hx)
/-- What the condition of the loop tells, and what the look at the place. -/
def StopResA (w1 : World) (O : List (Int × Int)) (p : Int × Int) (j : Nat) (v : Value) (W : World) : Prop := ∃ t : Bool, v = .bool t ∧ Hid ((t = true → ∃ q, O[j]? = some q ∧ lessA q p = true) ∧ (t = false → lessNA O p = j)) ∧ Below w1.heap.size w1 W
def EqResA (w1 : World) (O : List (Int × Int)) (p : Int × Int) (j : Nat) (v : Value) (W : World) : Prop := ∃ t : Bool, v = .bool t ∧ Hid (t = true ↔ O[j]? = some p) ∧ Below w1.heap.size w1 W

set_option maxRecDepth 100000 in
set_option maxHeartbeats 2000000 in
theorem specInsA (lo b c : Nat) (O : List (Int × Int)) (p1 p2 : Int) (w : World) (hlo : lo ≤ w.heap.size) (hok : allAng O = true) (hp : isAng p1 p2 = true) (hm : O.length ≤ 1100000) (hown : w.ownsRow lo 32 2 (.slice (some ⟨b, 0, none⟩) O.length c) O.length (flatA O)) :
    Calls Try.prog 30 #[.slice (some ⟨b, 0, none⟩) O.length c, ang p1 p2] w fun e w' => ∃ b' c', e = .returned (.slice (some ⟨b', 0, none⟩) (insA O (p1, p2)).length c') ∧ w'.ownsRow lo 32 2 (.slice (some ⟨b', 0, none⟩) (insA O (p1, p2)).length c') (insA O (p1, p2)).length (flatA (insA O (p1, p2))) ∧ Below w.heap.size w w' := by
  have HOk := Lib.hid hok
  have HP := Lib.hid hp
  obtain ⟨i0, hi, hz0, hz1, hz2⟩ := infoAg_parts infoAg
  have HW0 := Lib.hid hown
  clear hok hp hown
  go_enter Try.func30, Try.ntmps30
  go_wp2_with fail
  obtain ⟨w1, hw1⟩ : ∃ w1, w.alloc (.cells #[.int .i64 p1, .int .i64 p2] 32) = w1 := ⟨_, rfl⟩
  have hg1 : w.heap.size < w1.heap.size := by rw [← hw1]; simp
  have y0 : w1.cell? ⟨w.heap.size, 0, none⟩ = some (.int .i64 p1) := by rw [← hw1]; simp [go_sem]
  have y1 : w1.cell? ⟨w.heap.size, 1, none⟩ = some (.int .i64 p2) := by rw [← hw1]; simp [go_sem]
  have B1 : Hid (Below w.heap.size w w1) := Lib.hid (by rw [← hw1]; exact belowAlloc (Below.refl _ _) _)
  have HW1 : Hid (w1.ownsRow lo 32 2 (.slice (some ⟨b, 0, none⟩) O.length c) O.length (flatA O)) := Lib.hid (by rw [← hw1]; exact World.ownsRow.alloc HW0.out _)
  rw [hw1]
  have hbw : b < w1.heap.size := own_ltL HW1.out b rfl
  clear hw1 HW0
  go_loopg [5] O.length (fun g2 s5 wx => ∃ j : Nat, j + g2 = O.length ∧ s5 = .int .i64 j ∧ Hid (∀ i, i < j → ∀ q, O[i]? = some q → lessA q (p1, p2) = true) ∧ Hid (Below w1.heap.size w1 wx))
  case atStart => exact ⟨0, by omega, rfl, Lib.hid (fun i h => absurd h (by omega)), Lib.hid (Below.refl _ _)⟩
  case round =>
    obtain ⟨j, hjg, rfl, HJ, BX⟩ := hrel
    have a0 := cellThru BX.out hg1 y0
    have a1 := cellThru BX.out hg1 y1
    have hg2 : w.heap.size < wr.heap.size := Nat.lt_of_lt_of_le hg1 BX.out.size
    have hb2 : b < wr.heap.size := Nat.lt_of_lt_of_le hbw BX.out.size
    go_upto_region 2 with fail
    go_cut [18] (fun s18 wy => StopResA w1 O (p1, p2) j s18 wy)
    case first =>
      cases gk with
      | zero =>
        have HST : Hid (lessNA O (p1, p2) = j) := Lib.hid (by
          obtain rfl : j = O.length := by omega
          exact lessNA_end HJ.out)
        have hn : ¬ ((j : Int) < (O.length : Int)) := by omega
        have hn2 : ((j : Int) < (O.length : Int)) = False := by simp; omega
        have hn3 : ¬ (j < O.length) := by omega
        clear hjg
        refine wp_region_any (by kernel_rfl) ?_
        try (change wpAny _ _ _ _ _ _ _ (World.drew _))
        refine wpAny_take (i := 0) (v := ?_) rfl (by kernel_rfl) (by kernel_rfl) (by kernel_rfl) (fun _ _ _ h => h) (Or.inl ⟨by kernel_rfl, ?_⟩) ?_
        rotate_left
        · intro w; first | (go_simp; done) | (go_simp; with_reducible rfl)
        refine wpAny_take (i := 1) (v := ?_) rfl (by kernel_rfl) (by kernel_rfl) (by kernel_rfl) (fun _ _ _ h => h) (Or.inl ⟨by kernel_rfl, ?_⟩) ?_
        rotate_left
        · intro w; first | (go_simp; done) | (go_simp; with_reducible rfl)
        refine wpAny_take (i := 2) (v := ?_) rfl (by kernel_rfl) (by kernel_rfl) (by kernel_rfl) (fun _ _ _ h => h) (Or.inl ⟨by kernel_rfl, ?_⟩) ?_
        rotate_left
        · intro w; first | (go_simp; done) | (go_simp; with_reducible rfl)
        refine wpAny_take (i := 3) (v := ?_) rfl (by kernel_rfl) (by kernel_rfl) (by kernel_rfl) (fun _ _ _ h => h) (Or.inl ⟨by kernel_rfl, ?_⟩) ?_
        rotate_left
        · intro w; first | (go_simp; done) | (go_simp; with_reducible rfl)
        refine wpAny_take (i := 4) (v := ?_) rfl (by kernel_rfl) (by kernel_rfl) (by kernel_rfl) (fun _ _ _ h => h) (Or.inl ⟨by kernel_rfl, ?_⟩) ?_
        rotate_left
        · intro w; first | (go_simp; done) | (go_simp; with_reducible rfl)
        refine wpAny_take (i := 5) (v := undef) rfl (by kernel_rfl) (by kernel_rfl) (by kernel_rfl) (fun _ _ _ h => h) (Or.inr ⟨by kernel_rfl, rfl⟩) ?_
        go_simp
        refine wpAny_take (i := 6) (v := undef) rfl (by kernel_rfl) (by kernel_rfl) (by kernel_rfl) (fun _ _ _ h => h) (Or.inr ⟨by kernel_rfl, rfl⟩) ?_
        go_simp
        refine wpAny_take (i := 7) (v := undef) rfl (by kernel_rfl) (by kernel_rfl) (by kernel_rfl) (fun _ _ _ h => h) (Or.inr ⟨by kernel_rfl, rfl⟩) ?_
        go_simp
        refine wpAny_take (i := 8) (v := undef) rfl (by kernel_rfl) (by kernel_rfl) (by kernel_rfl) (fun _ _ _ h => h) (Or.inr ⟨by kernel_rfl, rfl⟩) ?_
        go_simp
        refine wpAny_take (i := 9) (v := undef) rfl (by kernel_rfl) (by kernel_rfl) (by kernel_rfl) (fun _ _ _ h => h) (Or.inr ⟨by kernel_rfl, rfl⟩) ?_
        go_simp
        refine wpAny_take (i := 10) (v := undef) rfl (by kernel_rfl) (by kernel_rfl) (by kernel_rfl) (fun _ _ _ h => h) (Or.inr ⟨by kernel_rfl, rfl⟩) ?_
        go_simp
        refine wpAny_take (i := 11) (v := ?_) rfl (by kernel_rfl) (by kernel_rfl) (by kernel_rfl) (fun _ _ _ h => h) (Or.inl ⟨by kernel_rfl, ?_⟩) ?_
        rotate_left
        · intro w; first | (go_simp; done) | (go_simp; with_reducible rfl)
        refine wpAny_done (by kernel_rfl) ?_ _
        have B1 : Below w1.heap.size w1 wr.drew := BX.out.drew
        go_wp2_with fail
        go_meet
        exact ⟨false, rfl, Lib.hid ⟨fun h => (by cases h), fun _ => HST.out⟩, B1⟩
      | succ g2 =>
        have hjl : j < O.length := by omega
        obtain ⟨⟨q1, q2⟩, hq⟩ : ∃ q, O[j]? = some q := ⟨_, List.getElem?_eq_getElem hjl⟩
        obtain ⟨r0, r1⟩ := flatA_at hq
        have o0 := cellThru BX.out hbw ((HW1.out.cellAt (j * 2) (by omega)).trans r0)
        have o1 := cellThru BX.out hbw ((HW1.out.cellAt (j * 2 + 1) (by omega)).trans r1)
        have hlf : isAng q1 q2 = true := allAng_at HOk.out hq
        have HLe := Lib.hid (fun w => specLess q1 q2 p1 p2 w (isAng_ok hlf) (isAng_ok HP.out))
        obtain ⟨t, ht⟩ : ∃ t, ltA q1 q2 p1 p2 = t := ⟨_, rfl⟩
        rw [ht] at HLe
        have ht' : lessA (q1, q2) (p1, p2) = t := ht
        have HT1 : Hid (t = true → ∃ q, O[j]? = some q ∧ lessA q (p1, p2) = true) := Lib.hid (fun h => ⟨_, hq, ht'.trans h⟩)
        have HT0 : Hid (t = false → lessNA O (p1, p2) = j) := Lib.hid (fun h => lessNA_stop hjl HJ.out hq (ht'.trans h))
        clear hq ht ht' r0 r1 hlf
        refine wp_region_any (by kernel_rfl) ?_
        try (change wpAny _ _ _ _ _ _ _ (World.drew _))
        refine wpAny_take (i := 0) (v := ?_) rfl (by kernel_rfl) (by kernel_rfl) (by kernel_rfl) (fun _ _ _ h => h) (Or.inl ⟨by kernel_rfl, ?_⟩) ?_
        rotate_left
        · intro w; first | (go_simp; done) | (go_simp; with_reducible rfl)
        refine wpAny_take (i := 1) (v := ?_) rfl (by kernel_rfl) (by kernel_rfl) (by kernel_rfl) (fun _ _ _ h => h) (Or.inl ⟨by kernel_rfl, ?_⟩) ?_
        rotate_left
        · intro w; first | (go_simp; done) | (go_simp; with_reducible rfl)
        refine wpAny_take (i := 2) (v := ?_) rfl (by kernel_rfl) (by kernel_rfl) (by kernel_rfl) (fun _ _ _ h => h) (Or.inl ⟨by kernel_rfl, ?_⟩) ?_
        rotate_left
        · intro w; first | (go_simp; done) | (go_simp; with_reducible rfl)
        refine wpAny_take (i := 3) (v := ?_) rfl (by kernel_rfl) (by kernel_rfl) (by kernel_rfl) (fun _ _ _ h => h) (Or.inl ⟨by kernel_rfl, ?_⟩) ?_
        rotate_left
        · intro w; first | (go_simp; done) | (go_simp; with_reducible rfl)
        refine wpAny_take (i := 4) (v := ?_) rfl (by kernel_rfl) (by kernel_rfl) (by kernel_rfl) (fun _ _ _ h => h) (Or.inl ⟨by kernel_rfl, ?_⟩) ?_
        rotate_left
        · intro w; first | (go_simp; done) | (go_simp; with_reducible rfl)
        refine wpAny_take (i := 5) (v := ?_) rfl (by kernel_rfl) (by kernel_rfl) (by kernel_rfl) (fun _ _ _ h => h) (Or.inl ⟨by kernel_rfl, ?_⟩) ?_
        rotate_left
        · intro w; first | (go_simp; done) | (go_simp; with_reducible rfl)
        refine wpAny_take (i := 6) (v := ?_) rfl (by kernel_rfl) (by kernel_rfl) (by kernel_rfl) (fun _ _ _ h => h) (Or.inl ⟨by kernel_rfl, ?_⟩) ?_
        rotate_left
        · intro w; first | (go_simp; done) | (go_simp; with_reducible rfl)
        refine wpAny_take (i := 7) (v := ?_) rfl (by kernel_rfl) (by kernel_rfl) (by kernel_rfl) (fun _ _ _ h => h) (Or.inl ⟨by kernel_rfl, ?_⟩) ?_
        rotate_left
        · intro w; first | (go_simp; done) | (go_simp; with_reducible rfl)
        refine wpAny_ready (rs := [8, 9]) (by kernel_rfl) (by simp) ?_
        refine AllReady.cons rfl (fun K hK => ?_) (AllReady.cons rfl (fun K hK => ?_) AllReady.nil)
        · go_simp
          refine hK _ _ ?_
          clear hK K
          refine wpAny_ready (rs := [9]) (by kernel_rfl) (by simp) ?_
          refine AllReady.cons rfl (fun K hK => ?_) AllReady.nil
          go_simp
          refine hK _ _ ?_
          clear hK K
          refine wpAny_ready (rs := [10]) (by kernel_rfl) (by simp) ?_
          refine AllReady.cons rfl (fun K hK => ?_) AllReady.nil
          go_simp
          go_wp2_with (go_at_call 44; (with_reducible refine (HLe.out _).mono ?_); rintro e w2 ⟨rfl, hb2⟩)
          refine wpAny_take (i := 11) (v := ?_) rfl (by kernel_rfl) (by kernel_rfl) (by kernel_rfl) (fun _ _ _ h => h) (Or.inl ⟨by kernel_rfl, ?_⟩) ?_
          rotate_left
          · intro w; first | (go_simp; done) | (go_simp; with_reducible rfl)
          refine wpAny_done (by kernel_rfl) ?_ _
          have B1 : Below w1.heap.size w1 w2 := belowNext BX.out.drew hb2
          go_wp2_with fail
          go_meet
          exact ⟨t, rfl, Lib.hid ⟨fun h => HT1.out h, fun h => HT0.out h⟩, B1⟩
        · go_simp
          refine hK _ _ ?_
          clear hK K
          refine wpAny_ready (rs := [8]) (by kernel_rfl) (by simp) ?_
          refine AllReady.cons rfl (fun K hK => ?_) AllReady.nil
          go_simp
          refine hK _ _ ?_
          clear hK K
          refine wpAny_ready (rs := [10]) (by kernel_rfl) (by simp) ?_
          refine AllReady.cons rfl (fun K hK => ?_) AllReady.nil
          go_simp
          go_wp2_with (go_at_call 44; (with_reducible refine (HLe.out _).mono ?_); rintro e w2 ⟨rfl, hb2⟩)
          refine wpAny_take (i := 11) (v := ?_) rfl (by kernel_rfl) (by kernel_rfl) (by kernel_rfl) (fun _ _ _ h => h) (Or.inl ⟨by kernel_rfl, ?_⟩) ?_
          rotate_left
          · intro w; first | (go_simp; done) | (go_simp; with_reducible rfl)
          refine wpAny_done (by kernel_rfl) ?_ _
          have B1 : Below w1.heap.size w1 w2 := belowNext BX.out.drew hb2
          go_wp2_with fail
          go_meet
          exact ⟨t, rfl, Lib.hid ⟨fun h => HT1.out h, fun h => HT0.out h⟩, B1⟩
    case rest =>
      obtain ⟨t, ht, HQ, B2⟩ := hcut
      subst ht
      cases t
      · have hL := HQ.out.2 rfl
        have HBc := Lib.hid B2
        have hjO : j ≤ O.length := by omega
        have hcO : O.length ≤ c := ownsCapA HW1.out
        have HLs := Lib.hid hL
        have s0 := cellThru HBc.out hg1 y0
        have s1 := cellThru HBc.out hg1 y1
        have hgc : w.heap.size < wc.heap.size := Nat.lt_of_lt_of_le hg1 HBc.out.size
        have hbc : b < wc.heap.size := Nat.lt_of_lt_of_le hbw HBc.out.size
        clear HQ B2 a0 a1 hg2 hb2 hL BX HJ
        go_upto_region 4 with fail
        go_cut [32] (fun s32 wy => EqResA w1 O (p1, p2) j s32 wy)
        case first =>
          by_cases hjl : j < O.length
          · obtain ⟨⟨q1, q2⟩, hq⟩ : ∃ q, O[j]? = some q := ⟨_, List.getElem?_eq_getElem hjl⟩
            obtain ⟨r0, r1⟩ := flatA_at hq
            have o0 := cellThru HBc.out hbw ((HW1.out.cellAt (j * 2) (by omega)).trans r0)
            have o1 := cellThru HBc.out hbw ((HW1.out.cellAt (j * 2 + 1) (by omega)).trans r1)
            obtain ⟨t, ht⟩ : ∃ t, eqA q1 q2 p1 p2 = t := ⟨_, rfl⟩
            have Q1 := fun W => eqlAng q1 q2 p1 p2 W
            rw [ht] at Q1
            have HT2 : Hid (t = true ↔ O[j]? = some (p1, p2)) := Lib.hid (by
              rw [← ht, eqA_iff4, hq, Option.some.injEq])
            clear hq ht r0 r1
            refine wp_region_any (by kernel_rfl) ?_
            try (change wpAny _ _ _ _ _ _ _ (World.drew _))
            refine wpAny_take (i := 0) (v := ?_) rfl (by kernel_rfl) (by kernel_rfl) (by kernel_rfl) (fun _ _ _ h => h) (Or.inl ⟨by kernel_rfl, ?_⟩) ?_
            rotate_left
            · intro w; first | (go_simp; done) | (go_simp; with_reducible rfl)
            refine wpAny_take (i := 1) (v := ?_) rfl (by kernel_rfl) (by kernel_rfl) (by kernel_rfl) (fun _ _ _ h => h) (Or.inl ⟨by kernel_rfl, ?_⟩) ?_
            rotate_left
            · intro w; first | (go_simp; done) | (go_simp; with_reducible rfl)
            refine wpAny_take (i := 2) (v := ?_) rfl (by kernel_rfl) (by kernel_rfl) (by kernel_rfl) (fun _ _ _ h => h) (Or.inl ⟨by kernel_rfl, ?_⟩) ?_
            rotate_left
            · intro w; first | (go_simp; done) | (go_simp; with_reducible rfl)
            refine wpAny_take (i := 3) (v := ?_) rfl (by kernel_rfl) (by kernel_rfl) (by kernel_rfl) (fun _ _ _ h => h) (Or.inl ⟨by kernel_rfl, ?_⟩) ?_
            rotate_left
            · intro w; first | (go_simp; done) | (go_simp; with_reducible rfl)
            refine wpAny_take (i := 4) (v := ?_) rfl (by kernel_rfl) (by kernel_rfl) (by kernel_rfl) (fun _ _ _ h => h) (Or.inl ⟨by kernel_rfl, ?_⟩) ?_
            rotate_left
            · intro w; first | (go_simp; done) | (go_simp; with_reducible rfl)
            refine wpAny_take (i := 5) (v := ?_) rfl (by kernel_rfl) (by kernel_rfl) (by kernel_rfl) (fun _ _ _ h => h) (Or.inl ⟨by kernel_rfl, ?_⟩) ?_
            rotate_left
            · intro w; first | (go_simp; done) | (go_simp; with_reducible rfl)
            refine wpAny_take (i := 6) (v := ?_) rfl (by kernel_rfl) (by kernel_rfl) (by kernel_rfl) (fun _ _ _ h => h) (Or.inl ⟨by kernel_rfl, ?_⟩) ?_
            rotate_left
            · intro w; first | (go_simp; done) | (go_simp; with_reducible rfl)
            refine wpAny_take (i := 7) (v := ?_) rfl (by kernel_rfl) (by kernel_rfl) (by kernel_rfl) (fun _ _ _ h => h) (Or.inl ⟨by kernel_rfl, ?_⟩) ?_
            rotate_left
            · intro w; first | (go_simp; done) | (go_simp; with_reducible rfl)
            refine wpAny_ready (rs := [8, 9]) (by kernel_rfl) (by simp) ?_
            refine AllReady.cons rfl (fun K hK => ?_) (AllReady.cons rfl (fun K hK => ?_) AllReady.nil)
            · go_simp
              refine hK _ _ ?_
              clear hK K
              refine wpAny_ready (rs := [9]) (by kernel_rfl) (by simp) ?_
              refine AllReady.cons rfl (fun K hK => ?_) AllReady.nil
              go_simp
              refine hK _ _ ?_
              clear hK K
              refine wpAny_take (i := 10) (v := ?_) rfl (by kernel_rfl) (by kernel_rfl) (by kernel_rfl) (fun _ _ _ h => h) (Or.inl ⟨by kernel_rfl, ?_⟩) ?_
              rotate_left
              · intro w; first | (go_simp; done) | (go_simp; with_reducible rfl)
              refine wpAny_take (i := 11) (v := ?_) rfl (by kernel_rfl) (by kernel_rfl) (by kernel_rfl) (fun _ _ _ h => h) (Or.inl ⟨by kernel_rfl, ?_⟩) ?_
              rotate_left
              · intro w; first | (go_simp; done) | (go_simp; with_reducible rfl)
              refine wpAny_done (by kernel_rfl) ?_ _
              have B3 : Below w1.heap.size w1 wc.drew := HBc.out.drew
              go_wp2_with fail
              go_meet
              exact ⟨t, rfl, HT2, B3⟩
            · go_simp
              refine hK _ _ ?_
              clear hK K
              refine wpAny_ready (rs := [8]) (by kernel_rfl) (by simp) ?_
              refine AllReady.cons rfl (fun K hK => ?_) AllReady.nil
              go_simp
              refine hK _ _ ?_
              clear hK K
              refine wpAny_take (i := 10) (v := ?_) rfl (by kernel_rfl) (by kernel_rfl) (by kernel_rfl) (fun _ _ _ h => h) (Or.inl ⟨by kernel_rfl, ?_⟩) ?_
              rotate_left
              · intro w; first | (go_simp; done) | (go_simp; with_reducible rfl)
              refine wpAny_take (i := 11) (v := ?_) rfl (by kernel_rfl) (by kernel_rfl) (by kernel_rfl) (fun _ _ _ h => h) (Or.inl ⟨by kernel_rfl, ?_⟩) ?_
              rotate_left
              · intro w; first | (go_simp; done) | (go_simp; with_reducible rfl)
              refine wpAny_done (by kernel_rfl) ?_ _
              have B3 : Below w1.heap.size w1 wc.drew := HBc.out.drew
              go_wp2_with fail
              go_meet
              exact ⟨t, rfl, HT2, B3⟩
          · have HNo : Hid (¬ O[j]? = some (p1, p2)) := Lib.hid (by
              rw [List.getElem?_eq_none (by omega)]; simp)
            have hn : ¬ ((j : Int) < (O.length : Int)) := by omega
            have hn2 : ((j : Int) < (O.length : Int)) = False := by simp; omega
            clear hjg
            refine wp_region_any (by kernel_rfl) ?_
            try (change wpAny _ _ _ _ _ _ _ (World.drew _))
            refine wpAny_take (i := 0) (v := ?_) rfl (by kernel_rfl) (by kernel_rfl) (by kernel_rfl) (fun _ _ _ h => h) (Or.inl ⟨by kernel_rfl, ?_⟩) ?_
            rotate_left
            · intro w; first | (go_simp; done) | (go_simp; with_reducible rfl)
            refine wpAny_take (i := 1) (v := ?_) rfl (by kernel_rfl) (by kernel_rfl) (by kernel_rfl) (fun _ _ _ h => h) (Or.inl ⟨by kernel_rfl, ?_⟩) ?_
            rotate_left
            · intro w; first | (go_simp; done) | (go_simp; with_reducible rfl)
            refine wpAny_take (i := 2) (v := ?_) rfl (by kernel_rfl) (by kernel_rfl) (by kernel_rfl) (fun _ _ _ h => h) (Or.inl ⟨by kernel_rfl, ?_⟩) ?_
            rotate_left
            · intro w; first | (go_simp; done) | (go_simp; with_reducible rfl)
            refine wpAny_take (i := 3) (v := ?_) rfl (by kernel_rfl) (by kernel_rfl) (by kernel_rfl) (fun _ _ _ h => h) (Or.inl ⟨by kernel_rfl, ?_⟩) ?_
            rotate_left
            · intro w; first | (go_simp; done) | (go_simp; with_reducible rfl)
            refine wpAny_take (i := 4) (v := ?_) rfl (by kernel_rfl) (by kernel_rfl) (by kernel_rfl) (fun _ _ _ h => h) (Or.inl ⟨by kernel_rfl, ?_⟩) ?_
            rotate_left
            · intro w; first | (go_simp; done) | (go_simp; with_reducible rfl)
            refine wpAny_take (i := 5) (v := undef) rfl (by kernel_rfl) (by kernel_rfl) (by kernel_rfl) (fun _ _ _ h => h) (Or.inr ⟨by kernel_rfl, rfl⟩) ?_
            go_simp
            refine wpAny_take (i := 6) (v := undef) rfl (by kernel_rfl) (by kernel_rfl) (by kernel_rfl) (fun _ _ _ h => h) (Or.inr ⟨by kernel_rfl, rfl⟩) ?_
            go_simp
            refine wpAny_take (i := 7) (v := undef) rfl (by kernel_rfl) (by kernel_rfl) (by kernel_rfl) (fun _ _ _ h => h) (Or.inr ⟨by kernel_rfl, rfl⟩) ?_
            go_simp
            refine wpAny_take (i := 8) (v := undef) rfl (by kernel_rfl) (by kernel_rfl) (by kernel_rfl) (fun _ _ _ h => h) (Or.inr ⟨by kernel_rfl, rfl⟩) ?_
            go_simp
            refine wpAny_take (i := 9) (v := undef) rfl (by kernel_rfl) (by kernel_rfl) (by kernel_rfl) (fun _ _ _ h => h) (Or.inr ⟨by kernel_rfl, rfl⟩) ?_
            go_simp
            refine wpAny_take (i := 10) (v := undef) rfl (by kernel_rfl) (by kernel_rfl) (by kernel_rfl) (fun _ _ _ h => h) (Or.inr ⟨by kernel_rfl, rfl⟩) ?_
            go_simp
            refine wpAny_take (i := 11) (v := ?_) rfl (by kernel_rfl) (by kernel_rfl) (by kernel_rfl) (fun _ _ _ h => h) (Or.inl ⟨by kernel_rfl, ?_⟩) ?_
            rotate_left
            · intro w; first | (go_simp; done) | (go_simp; with_reducible rfl)
            refine wpAny_done (by kernel_rfl) ?_ _
            have B3 : Below w1.heap.size w1 wc.drew := HBc.out.drew
            go_wp2_with fail
            go_meet
            exact ⟨false, rfl, Lib.hid ⟨fun h => (by cases h), fun h => absurd h HNo.out⟩, B3⟩
        case rest =>
          obtain ⟨t, ht, HQ, B3⟩ := hcut
          subst ht
          have HWd : Hid (wc.ownsRow lo 32 2 (.slice (some ⟨b, 0, none⟩) O.length c) O.length (flatA O)) := Lib.hid (ownTurnL HW1.out (belowGL B3) (fun j e => by cases e))
          have HBd := Lib.hid (B1.out.trans (B3.mono B1.out.size))
          cases t
          · have HNw : Hid (¬ O[lessNA O (p1, p2)]? = some (p1, p2)) := Lib.hid (by
              rw [HLs.out]; intro h; have := HQ.out.2 h; cases this)
            have s0 := cellThru B3 hg1 y0
            have s1 := cellThru B3 hg1 y1
            have hgd : w.heap.size < wc.heap.size := Nat.lt_of_lt_of_le hg1 B3.size
            have hbd : b < wc.heap.size := Nat.lt_of_lt_of_le hbw B3.size
            clear HQ B3 HBc HW1 B1 y0 y1 hg1 hbw hgc hbc
            by_cases hcj : c = j
            · have hm0 : O.length = j := by omega
              have hd : O.drop j = [] := by rw [← hm0]; exact List.drop_length
              go_wp2_with fail
              refine wp_region_any (by kernel_rfl) ?_
              try (change wpAny _ _ _ _ _ _ _ (World.drew _))
              refine wpAny_take (i := 2) (v := ?_) rfl (by kernel_rfl) (by kernel_rfl) (by kernel_rfl) (fun _ _ _ h => h) (Or.inl ⟨by kernel_rfl, ?_⟩) ?_
              rotate_left
              · intro w; first | (go_simp; done) | (go_simp; with_reducible rfl)
              refine wpAny_take (i := 3) (v := ?_) rfl (by kernel_rfl) (by kernel_rfl) (by kernel_rfl) (fun _ _ _ h => h) (Or.inl ⟨by kernel_rfl, ?_⟩) ?_
              rotate_left
              · intro w; first | (go_simp; done) | (go_simp; with_reducible rfl)
              refine wpAny_take (i := 4) (v := ?_) rfl (by kernel_rfl) (by kernel_rfl) (by kernel_rfl) (fun _ _ _ h => h) (Or.inl ⟨by kernel_rfl, ?_⟩) ?_
              rotate_left
              · intro w; first | (go_simp; done) | (go_simp; with_reducible rfl)
              refine wpAny_ready (rs := [0]) (by kernel_rfl) (by simp) ?_
              refine AllReady.cons rfl (fun K hK => ?_) AllReady.nil
              go_simp
              refine hK _ _ ?_
              clear hK K
              refine wpAny_ready (rs := [1]) (by kernel_rfl) (by simp) ?_
              refine AllReady.cons rfl (fun K hK => ?_) AllReady.nil
              go_simp
              refine hK _ _ ?_
              clear hK K
              refine wpAny_ready (rs := [5]) (by kernel_rfl) (by simp) ?_
              refine AllReady.cons rfl (fun K hK => ?_) AllReady.nil
              refine step_append_atL _ rfl (.tmp 35) (.tmp 38) 26 rfl wc.heap.size 32 i0 (.agg #[.int .i64 0, .int .i64 0]) 2 16 Try.underlying26 hi hz0 hz1 hz2 rfl (by decide) (.slice (some ⟨wc.heap.size, 0, none⟩) 1 1) 1 [.int .i64 p1, .int .i64 p2] rfl ⟨rfl, .inr ⟨wc.heap.size, 1, #[.int .i64 p1, .int .i64 p2], rfl, Nat.le_refl _, heap_alloc_new wc (.cells #[.int .i64 p1, .int .i64 p2] 32), by omega, by unfold maxLen; omega, rfl, rfl⟩⟩ _ _ _ (flatA (O.drop j)) rfl ?r1 ?r2 ?r3 ?r4 ?r5 ?r6 ?_
              case r1 => have e := flatA_len (O.drop j); rw [List.length_drop] at e; omega
              case r2 => rw [hd]; intro i u hu; simp [flatA] at hu
              case r3 => exact flatA_one _
              case r4 => unfold maxLen; omega
              case r5 => omega
              case r6 => simp
              intro v9 w9 hown9 hgrow9
              refine hK _ _ ?_
              clear hK K
              refine wpAny_take (i := 6) (v := ?_) rfl (by kernel_rfl) (by kernel_rfl) (by kernel_rfl) (fun _ _ _ h => h) (Or.inl ⟨by kernel_rfl, ?_⟩) ?_
              rotate_left
              · intro w; first | (go_simp; done) | (go_simp; with_reducible rfl)
              refine wpAny_done (by kernel_rfl) ?_ _
              have hown9' : w9.ownsRow wc.heap.size 32 2 v9 (O.length - j + 1) (flatA ((p1, p2) :: O.drop j)) := by
                have e0 : O.length - j + 1 = 1 + (O.length - j) := by omega
                rw [e0]
                rw [show O.length - j = 0 by omega]
                exact hown9
              obtain ⟨gr, cr, rfl⟩ := ownsRow_succ hown9'
              have hgr : wc.heap.size ≤ gr := own_blockL hown9' gr rfl
              have hgl : gr < w9.heap.size := own_ltL hown9' gr rfl
              have HR9 := Lib.hid hown9'
              have hs9 : wc.heap.size < w9.heap.size := by have := hgrow9.size; simp at this; omega
              have HW9 : Hid (w9.ownsRow lo 32 2 (.slice (some ⟨b, 0, none⟩) O.length c) O.length (flatA O)) := Lib.hid (ownFarL (show World.ownsRow ((wc.alloc (.cells #[.int .i64 p1, .int .i64 p2] 32)).drew) lo 32 2 (.slice (some ⟨b, 0, none⟩) O.length c) O.length (flatA O) from World.ownsRow.alloc HWd.out _) hgrow9 (fun j e => by simp [Value.ownBlock] at e ⊢; omega))
              have HB9 : Hid (Below w.heap.size w w9) := Lib.hid ((belowAlloc HBd.out (.cells #[.int .i64 p1, .int .i64 p2] 32)).drew.grown hgrow9 (by simp; omega) (fun j e => by simp [Value.ownBlock] at e; omega))
              have hcO2 : j ≤ c := by omega
              clear hown9 hown9' hgrow9 s0 s1 HWd HBd
              go_wp2_with (at_builtin; refine wpList_append_own_at _ rfl _ _ 26 rfl wc.heap.size 32 i0 (.agg #[.int .i64 0, .int .i64 0]) 2 16 Try.underlying26 hi hz0 hz1 hz2 rfl (by decide) (.slice (some ⟨w9.heap.size, 0, none⟩) 0 0) 0 [] rfl ⟨rfl, .inr ⟨w9.heap.size, 0, #[], rfl, Nat.le_of_lt hs9, heap_alloc_new w9 (.cells #[] 32), by omega, by unfold maxLen; omega, rfl, rfl⟩⟩ ⟨b, 0, none⟩ j _ (flatA (O.take j)) rfl ?r1 ?r2 ?r3 ?r4 ?r5 ?r6 ?_)
              case r1 => have e := flatA_len (O.take j); rw [List.length_take] at e; omega
              case r2 => exact news_of_rowA (World.ownsRow.alloc HW9.out _) 0 _ (fun i u hu => by rw [flatA_take] at hu; rw [Nat.zero_add]; rw [List.getElem?_take] at hu; split at hu; exact hu; cases hu)
              case r3 => exact flatA_one _
              case r4 => unfold maxLen; omega
              case r5 => omega
              case r6 => simp; omega
              intro v10 w10 hown10 hgrow10 _ _
              have HR10 : Hid (w10.ownsRow wc.heap.size 32 2 (.slice (some ⟨gr, 0, none⟩) (O.length - j + 1) cr) (O.length - j + 1) (flatA ((p1, p2) :: O.drop j))) := Lib.hid (ownFarL (World.ownsRow.alloc HR9.out (.cells #[] 32)) hgrow10 (fun j e => by simp [Value.ownBlock] at e ⊢; omega))
              have HB10 : Hid (Below w.heap.size w w10) := Lib.hid ((belowAlloc HB9.out (.cells #[] 32)).grown hgrow10 (by simp; omega) (fun j e => by simp [Value.ownBlock] at e; omega))
              have hs10 : wc.heap.size < w10.heap.size := by have := hgrow10.size; simp at this; omega
              have HO10 := Lib.hid hown10
              clear hown10 hgrow10 HR9 HW9 HB9
              go_wp2_with (at_builtin; refine wpList_append_own_at _ rfl _ _ 26 rfl wc.heap.size 32 i0 (.agg #[.int .i64 0, .int .i64 0]) 2 16 Try.underlying26 hi hz0 hz1 hz2 rfl (by decide) v10 j (flatA (O.take j)) rfl HO10.out ⟨gr, 0, none⟩ _ _ (flatA ((p1, p2) :: O.drop j)) rfl ?r1 ?r2 ?r3 ?r4 ?r5 ?r6 ?_)
              case r1 => have e := flatA_len ((p1, p2) :: O.drop j); rw [List.length_cons, List.length_drop] at e; omega
              case r2 => exact news_of_rowA HR10.out 0 _ (fun i u hu => by rw [Nat.zero_add]; exact hu)
              case r3 => exact flatA_one _
              case r4 => unfold maxLen; omega
              case r5 => omega
              case r6 => omega
              intro v11 w11 hown11 hgrow11 _ _
              have hown11' : w11.ownsRow wc.heap.size 32 2 v11 (O.length + 1) (flatA (insA O (p1, p2))) := by
                have e1 : j + (O.length - j + 1) = O.length + 1 := by omega
                have e2 : flatA (O.take j) ++ flatA ((p1, p2) :: O.drop j) = flatA (insA O (p1, p2)) := by rw [insA_new HNw.out, HLs.out, flatA_app]
                rw [hd] at e2
                rw [show O.length + 1 = j + 1 by omega, ← e2]
                exact hown11
              obtain ⟨gn, cn, rfl⟩ := ownsRow_succ hown11'
              have HB11 : Hid (Below w.heap.size w w11) := Lib.hid (HB10.out.grown hgrow11 (by omega) (fun j e => by have := own_blockL HO10.out j e; omega))
              have HW11 : Hid (w11.ownsRow lo 32 2 (.slice (some ⟨gn, 0, none⟩) (O.length + 1) cn) (O.length + 1) (flatA (insA O (p1, p2)))) := Lib.hid (ownMonoL hown11' (by omega))
              clear hown11 hown11' hgrow11 HO10 HR10 HB10
              go_wp2
              go_ret
              rw [insA_len HNw.out]
              exact ⟨gn, cn, rfl, HW11.out, HB11.out⟩
            · skip
              go_wp2_with fail
              refine wp_region_any (by kernel_rfl) ?_
              try (change wpAny _ _ _ _ _ _ _ (World.drew _))
              refine wpAny_take (i := 2) (v := ?_) rfl (by kernel_rfl) (by kernel_rfl) (by kernel_rfl) (fun _ _ _ h => h) (Or.inl ⟨by kernel_rfl, ?_⟩) ?_
              rotate_left
              · intro w; first | (go_simp; done) | (go_simp; with_reducible rfl)
              refine wpAny_take (i := 3) (v := ?_) rfl (by kernel_rfl) (by kernel_rfl) (by kernel_rfl) (fun _ _ _ h => h) (Or.inl ⟨by kernel_rfl, ?_⟩) ?_
              rotate_left
              · intro w; first | (go_simp; done) | (go_simp; with_reducible rfl)
              refine wpAny_take (i := 4) (v := ?_) rfl (by kernel_rfl) (by kernel_rfl) (by kernel_rfl) (fun _ _ _ h => h) (Or.inl ⟨by kernel_rfl, ?_⟩) ?_
              rotate_left
              · intro w; first | (go_simp; done) | (go_simp; with_reducible rfl)
              refine wpAny_ready (rs := [0]) (by kernel_rfl) (by simp) ?_
              refine AllReady.cons rfl (fun K hK => ?_) AllReady.nil
              go_simp
              refine hK _ _ ?_
              clear hK K
              refine wpAny_ready (rs := [1]) (by kernel_rfl) (by simp) ?_
              refine AllReady.cons rfl (fun K hK => ?_) AllReady.nil
              go_simp
              refine hK _ _ ?_
              clear hK K
              refine wpAny_ready (rs := [5]) (by kernel_rfl) (by simp) ?_
              refine AllReady.cons rfl (fun K hK => ?_) AllReady.nil
              refine step_append_atL _ rfl (.tmp 35) (.tmp 38) 26 rfl wc.heap.size 32 i0 (.agg #[.int .i64 0, .int .i64 0]) 2 16 Try.underlying26 hi hz0 hz1 hz2 rfl (by decide) (.slice (some ⟨wc.heap.size, 0, none⟩) 1 1) 1 [.int .i64 p1, .int .i64 p2] rfl ⟨rfl, .inr ⟨wc.heap.size, 1, #[.int .i64 p1, .int .i64 p2], rfl, Nat.le_refl _, heap_alloc_new wc (.cells #[.int .i64 p1, .int .i64 p2] 32), by omega, by unfold maxLen; omega, rfl, rfl⟩⟩ _ _ _ (flatA (O.drop j)) rfl ?r1 ?r2 ?r3 ?r4 ?r5 ?r6 ?_
              case r1 => have e := flatA_len (O.drop j); rw [List.length_drop] at e; omega
              case r2 => exact news_of_rowA (show World.ownsRow ((wc.alloc (.cells #[.int .i64 p1, .int .i64 p2] 32)).drew) lo 32 2 (.slice (some ⟨b, 0, none⟩) O.length c) O.length (flatA O) from World.ownsRow.alloc HWd.out _) (j * 2) _ (fun i u hu => by rw [flatA_drop, List.getElem?_drop] at hu; exact hu)
              case r3 => exact flatA_one _
              case r4 => unfold maxLen; omega
              case r5 => omega
              case r6 => simp
              intro v9 w9 hown9 hgrow9
              refine hK _ _ ?_
              clear hK K
              refine wpAny_take (i := 6) (v := ?_) rfl (by kernel_rfl) (by kernel_rfl) (by kernel_rfl) (fun _ _ _ h => h) (Or.inl ⟨by kernel_rfl, ?_⟩) ?_
              rotate_left
              · intro w; first | (go_simp; done) | (go_simp; with_reducible rfl)
              refine wpAny_done (by kernel_rfl) ?_ _
              have hown9' : w9.ownsRow wc.heap.size 32 2 v9 (O.length - j + 1) (flatA ((p1, p2) :: O.drop j)) := by
                have e0 : O.length - j + 1 = 1 + (O.length - j) := by omega
                rw [e0]
                exact hown9
              obtain ⟨gr, cr, rfl⟩ := ownsRow_succ hown9'
              have hgr : wc.heap.size ≤ gr := own_blockL hown9' gr rfl
              have hgl : gr < w9.heap.size := own_ltL hown9' gr rfl
              have HR9 := Lib.hid hown9'
              have hs9 : wc.heap.size < w9.heap.size := by have := hgrow9.size; simp at this; omega
              have HW9 : Hid (w9.ownsRow lo 32 2 (.slice (some ⟨b, 0, none⟩) O.length c) O.length (flatA O)) := Lib.hid (ownFarL (show World.ownsRow ((wc.alloc (.cells #[.int .i64 p1, .int .i64 p2] 32)).drew) lo 32 2 (.slice (some ⟨b, 0, none⟩) O.length c) O.length (flatA O) from World.ownsRow.alloc HWd.out _) hgrow9 (fun j e => by simp [Value.ownBlock] at e ⊢; omega))
              have HB9 : Hid (Below w.heap.size w w9) := Lib.hid ((belowAlloc HBd.out (.cells #[.int .i64 p1, .int .i64 p2] 32)).drew.grown hgrow9 (by simp; omega) (fun j e => by simp [Value.ownBlock] at e; omega))
              have hcO2 : j ≤ c := by omega
              clear hown9 hown9' hgrow9 s0 s1 HWd HBd
              go_wp2_with (at_builtin; refine wpList_append_own_at _ rfl _ _ 26 rfl wc.heap.size 32 i0 (.agg #[.int .i64 0, .int .i64 0]) 2 16 Try.underlying26 hi hz0 hz1 hz2 rfl (by decide) (.slice (some ⟨w9.heap.size, 0, none⟩) 0 0) 0 [] rfl ⟨rfl, .inr ⟨w9.heap.size, 0, #[], rfl, Nat.le_of_lt hs9, heap_alloc_new w9 (.cells #[] 32), by omega, by unfold maxLen; omega, rfl, rfl⟩⟩ ⟨b, 0, none⟩ j _ (flatA (O.take j)) rfl ?r1 ?r2 ?r3 ?r4 ?r5 ?r6 ?_)
              case r1 => have e := flatA_len (O.take j); rw [List.length_take] at e; omega
              case r2 => exact news_of_rowA (World.ownsRow.alloc HW9.out _) 0 _ (fun i u hu => by rw [flatA_take] at hu; rw [Nat.zero_add]; rw [List.getElem?_take] at hu; split at hu; exact hu; cases hu)
              case r3 => exact flatA_one _
              case r4 => unfold maxLen; omega
              case r5 => omega
              case r6 => simp; omega
              intro v10 w10 hown10 hgrow10 _ _
              have HR10 : Hid (w10.ownsRow wc.heap.size 32 2 (.slice (some ⟨gr, 0, none⟩) (O.length - j + 1) cr) (O.length - j + 1) (flatA ((p1, p2) :: O.drop j))) := Lib.hid (ownFarL (World.ownsRow.alloc HR9.out (.cells #[] 32)) hgrow10 (fun j e => by simp [Value.ownBlock] at e ⊢; omega))
              have HB10 : Hid (Below w.heap.size w w10) := Lib.hid ((belowAlloc HB9.out (.cells #[] 32)).grown hgrow10 (by simp; omega) (fun j e => by simp [Value.ownBlock] at e; omega))
              have hs10 : wc.heap.size < w10.heap.size := by have := hgrow10.size; simp at this; omega
              have HO10 := Lib.hid hown10
              clear hown10 hgrow10 HR9 HW9 HB9
              go_wp2_with (at_builtin; refine wpList_append_own_at _ rfl _ _ 26 rfl wc.heap.size 32 i0 (.agg #[.int .i64 0, .int .i64 0]) 2 16 Try.underlying26 hi hz0 hz1 hz2 rfl (by decide) v10 j (flatA (O.take j)) rfl HO10.out ⟨gr, 0, none⟩ _ _ (flatA ((p1, p2) :: O.drop j)) rfl ?r1 ?r2 ?r3 ?r4 ?r5 ?r6 ?_)
              case r1 => have e := flatA_len ((p1, p2) :: O.drop j); rw [List.length_cons, List.length_drop] at e; omega
              case r2 => exact news_of_rowA HR10.out 0 _ (fun i u hu => by rw [Nat.zero_add]; exact hu)
              case r3 => exact flatA_one _
              case r4 => unfold maxLen; omega
              case r5 => omega
              case r6 => omega
              intro v11 w11 hown11 hgrow11 _ _
              have hown11' : w11.ownsRow wc.heap.size 32 2 v11 (O.length + 1) (flatA (insA O (p1, p2))) := by
                have e1 : j + (O.length - j + 1) = O.length + 1 := by omega
                have e2 : flatA (O.take j) ++ flatA ((p1, p2) :: O.drop j) = flatA (insA O (p1, p2)) := by rw [insA_new HNw.out, HLs.out, flatA_app]
                rw [e1, e2] at hown11
                exact hown11
              obtain ⟨gn, cn, rfl⟩ := ownsRow_succ hown11'
              have HB11 : Hid (Below w.heap.size w w11) := Lib.hid (HB10.out.grown hgrow11 (by omega) (fun j e => by have := own_blockL HO10.out j e; omega))
              have HW11 : Hid (w11.ownsRow lo 32 2 (.slice (some ⟨gn, 0, none⟩) (O.length + 1) cn) (O.length + 1) (flatA (insA O (p1, p2)))) := Lib.hid (ownMonoL hown11' (by omega))
              clear hown11 hown11' hgrow11 HO10 HR10 HB10
              go_wp2
              go_ret
              rw [insA_len HNw.out]
              exact ⟨gn, cn, rfl, HW11.out, HB11.out⟩
          · have he : insA O (p1, p2) = O := insA_old (by rw [HLs.out]; exact HQ.out.1 rfl)
            go_wp2
            go_ret
            exact ⟨b, c, rfl, HWd.out, HBd.out⟩
      · obtain ⟨q, hq, hlq⟩ := HQ.out.1 rfl
        have hjl : j < O.length := (List.getElem?_eq_some_iff.1 hq).1
        obtain ⟨g2, rfl⟩ : ∃ g2, gk = g2 + 1 := ⟨gk - 1, by omega⟩
        have HJ2 : Hid (∀ i, i < j + 1 → ∀ q, O[i]? = some q → lessA q (p1, p2) = true) := Lib.hid (fun i h q' hq' => by
          by_cases hij : i = j
          · subst hij
            rw [hq] at hq'
            injection hq' with e
            rw [← e]; exact hlq
          · exact HJ.out i (by omega) q' hq')
        have HB2 := Lib.hid B2
        clear HQ hq hlq B2 a0 a1 hg2 hb2
        go_wp2
        go_roundg g2
        case measure => omega
        case rel => exact ⟨j + 1, by omega, by go_num, HJ2, HB2⟩

/-- A row of one's own lies still where the blocks of old do. -/
theorem ownKeepA {W1 W2 : World} {e : TypeId} {size : Nat} {v : Value} {n : Nat} {xs : List Value} {lo : Nat} (h : W1.ownsRow lo e size v n xs) (hb : Below W1.heap.size W1 W2) : W2.ownsRow lo e size v n xs := by
  refine ⟨h.1, ?_⟩
  rcases h.2 with ⟨a, b⟩ | ⟨g, cap, cur, a, b, c, d⟩
  · exact .inl ⟨a, b⟩
  · exact .inr ⟨g, cap, cur, a, b, (hb.block g (Array.getElem?_eq_some_iff.1 c).1).trans c, d⟩
/-- All of a list put in their places. -/
def insAll (l : List (Int × Int)) : List (Int × Int) := l.foldl insA []
theorem insAll_next {l : List (Int × Int)} {k : Nat} {p : Int × Int} (h : l[k]? = some p) : insAll (l.take (k + 1)) = insA (insAll (l.take k)) p := by
  unfold insAll
  rw [List.take_add_one, h, Option.toList_some, List.foldl_append]
  rfl
theorem insA_le (out : List (Int × Int)) (p : Int × Int) : (insA out p).length ≤ out.length + 1 := by
  by_cases h : out[lessNA out p]? = some p
  · rw [insA_old h]; omega
  · rw [insA_len h]; omega
theorem insA_mem {out : List (Int × Int)} {p q : Int × Int} : q ∈ insA out p ↔ q = p ∨ q ∈ out := by
  by_cases h : out[lessNA out p]? = some p
  · rw [insA_old h]
    have := List.mem_of_getElem? h
    constructor
    · exact fun x => .inr x
    · rintro (rfl | x)
      · exact this
      · exact x
  · rw [insA_new h]
    have e : q ∈ out ↔ q ∈ out.take (lessNA out p) ∨ q ∈ out.drop (lessNA out p) := by
      rw [← List.mem_append, List.take_append_drop]
    rw [List.mem_append, List.mem_cons, e]
    constructor
    · rintro (h | h | h)
      · exact .inr (.inl h)
      · exact .inl h
      · exact .inr (.inr h)
    · rintro (h | h | h)
      · exact .inr (.inl h)
      · exact .inl h
      · exact .inr (.inr h)
theorem foldA_len : ∀ (l o : List (Int × Int)), (l.foldl insA o).length ≤ o.length + l.length
  | [], o => Nat.le_refl _
  | p :: l, o => by
    have h1 := foldA_len l (insA o p)
    have h2 := insA_le o p
    simp only [List.foldl_cons, List.length_cons]
    omega
theorem insAll_len (l : List (Int × Int)) : (insAll l).length ≤ l.length := by
  have := foldA_len l []
  simpa [insAll] using this
theorem foldA_mem : ∀ (l o : List (Int × Int)) (q : Int × Int), q ∈ l.foldl insA o ↔ q ∈ l ∨ q ∈ o
  | [], o, q => by simp
  | p :: l, o, q => by
    rw [List.foldl_cons, foldA_mem l (insA o p) q, insA_mem, List.mem_cons]
    constructor
    · rintro (h | h | h)
      · exact .inl (.inr h)
      · exact .inl (.inl h)
      · exact .inr h
    · rintro ((h | h) | h)
      · exact .inr (.inl h)
      · exact .inl h
      · exact .inr (.inr h)
theorem insAll_mem (l : List (Int × Int)) (q : Int × Int) : q ∈ insAll l ↔ q ∈ l := by
  unfold insAll
  rw [foldA_mem]
  simp
theorem allAng_ins {l : List (Int × Int)} (h : allAng l = true) : allAng (insAll l) = true := by
  unfold allAng at *
  rw [List.all_eq_true] at *
  exact fun x hx => h x ((insAll_mem l x).1 hx)
theorem allAng_next {l : List (Int × Int)} {k : Nat} {n d : Int} (h : allAng (l.take k) = true) (hq : l[k]? = some (n, d)) (hi : isAng n d = true) : allAng (l.take (k + 1)) = true := by
  unfold allAng at *
  rw [List.take_add_one, hq, Option.toList_some, List.all_append, h]
  simp [hi]

end Go.Proofs.Ytnoaahkpcnkbnaa

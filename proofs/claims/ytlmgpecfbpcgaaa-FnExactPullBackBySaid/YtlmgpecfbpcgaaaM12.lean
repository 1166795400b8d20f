/-
  Contracts: ConditionThatFails, on the program's side.
-/
import Derived.Test.YtlmgpecfbpcgaaaM11
import Derived.Test.YtlmgpecfbpcgaaaM9
namespace Go.Proofs.Ytlmgpecfbpcgaaa
open Go.RowKit

theorem fC1 : ∀ args W, (callFunc 104 args).run Try.prog W = .ok (.enter 104 args) W := by intro args W; kernel_rfl
theorem fC2 : ∀ args W, (callFunc 105 args).run Try.prog W = .ok (.enter 105 args) W := by intro args W; kernel_rfl
abbrev candV (A : Option Addr) (len cap : Nat) (B : Option Addr) (len' cap' : Nat) : Value := .agg #[.slice A len cap, .slice B len' cap']
/-- What the conditions behind the first one tell. -/
def ResFl (w : World) (x : Lf4) (r J : List Lf4) (e : Ending) (w' : World) : Prop := (∃ v : Int, e = .returned (.int .i64 v) ∧ Hid (FailIs x r J v)) ∧ Below w.heap.size w w'

set_option maxHeartbeats 2000000 in
theorem implFails (x : Lf4) (A : Option Addr) (len cap : Nat) (l : List Lf4) (B : Option Addr) (len' cap' : Nat) (J : List Lf4) (w : World) (hx : isLfX x = true) (hr : LfRow w w.heap.size A l) (hl : l.length = len) (hm : len ≤ 1000000000000) (hcap : len ≤ cap) (h0 : l[0]? = some x) (ha : allLf l = true)
    (hr' : LfRow w w.heap.size B J) (hl' : J.length = len') (hm' : len' ≤ 1000000000000) (ha' : allLf J = true) :
    Calls Try.prog 63 #[candV A len cap B len' cap'] w (ResFl w x l J) := by
  have HN := Lib.hid (fun W (hB : Below w.heap.size w W) => implHC A len cap l W ((hr.below hB).more hB.size) hl hm hcap ha)
  have HS := Lib.hid (fun W (hB : Below w.heap.size w W) (hG : w.heap.size < W.heap.size) (hc : W.cell? ⟨w.heap.size, 0, none⟩ = some (.slice A len cap)) =>
    ctnAny _ #[.pointer (some ⟨w.heap.size, 0, none⟩)] fC1 (fun y => lngB y x = true) A len cap l W ((hr.below hB).more hB.size) hl hm (fun k n d m c W' hk hB' =>
      closShorter (n, d, m, c) x A len cap l w.heap.size W' (allLf_at ha hk) hx ((hr.below (hB.trans (hB'.mono hB.size))).more (Nat.le_trans hB.size hB'.size)) hl h0 (Nat.lt_of_lt_of_le hG hB'.size) (cellThru hB' hG hc)))
  have HM := Lib.hid (fun W (hB : Below w.heap.size w W) (hG : w.heap.size < W.heap.size) (hc : W.cell? ⟨w.heap.size, 1, none⟩ = some (.slice B len' cap')) =>
    ctnAny _ #[.pointer (some ⟨w.heap.size, 0, none⟩)] fC2 (fun y => CrossOne y J) A len cap l W ((hr.below hB).more hB.size) hl hm (fun k n d m c W' hk hB' =>
      closMajor (n, d, m, c) B len' cap' J w.heap.size W' (allLf_at ha hk) ((hr'.below (hB.trans (hB'.mono hB.size))).more (Nat.le_trans hB.size hB'.size)) hl' hm' ha' (Nat.lt_of_lt_of_le hG hB'.size) (cellThru hB' hG hc)))
  clear hr hl h0 ha hr' hl' ha' hx hm hm' hcap
  go_enter Try.func63, Try.ntmps63
  go_wp2_with fail
  refine (HN.out _ (by (repeat' (first | (with_reducible exact Below.refl _ _) | (with_reducible assumption) | (with_reducible refine belowNext ?_ (by with_reducible assumption)) | (with_reducible refine belowAlloc ?_ _) | (with_reducible refine Below.drew ?_) | (with_reducible refine below_drewN ?_ _) | (with_reducible refine Below.setCell ?_ ?_ _) | go_size | (with_reducible refine sizeOf' ?_) | (with_reducible refine sizeAdd ?_) | (dsimp only; first | (with_reducible refine sizeOf' ?_) | (with_reducible refine sizeAdd ?_)))))).mono ?_
  rintro e w1 ⟨⟨r, rfl, HQ⟩, hb1⟩
  obtain ⟨hc1, hf1⟩ := bcell hb1
  have hz1_0 : w.heap.size < w1.heap.size := by have := hb1.size; first | omega | (simp at this; omega)
  have B1 : Below w.heap.size w w1 := by
    (repeat' (first | (with_reducible exact Below.refl _ _) | (with_reducible assumption) | (with_reducible refine belowNext ?_ (by with_reducible assumption)) | (with_reducible refine belowAlloc ?_ _) | (with_reducible refine Below.drew ?_) | (with_reducible refine below_drewN ?_ _) | (with_reducible refine Below.setCell ?_ ?_ _) | go_size | (with_reducible refine sizeOf' ?_) | (with_reducible refine sizeAdd ?_) | (dsimp only; first | (with_reducible refine sizeOf' ?_) | (with_reducible refine sizeAdd ?_))))
  have q0 : w1.cell? ⟨w.heap.size, 0, none⟩ = some (.slice A len cap) := cellThru hb1 (by simp) (by simp [go_sem])
  have q1 : w1.cell? ⟨w.heap.size, 1, none⟩ = some (.slice B len' cap') := cellThru hb1 (by simp) (by simp [go_sem])
  clear hb1 hc1 hf1
  cases r
  · have H1 : Hid (NoCross l) := Lib.hid (Classical.byContradiction fun h => by have := HQ.out.2 h; cases this)
    go_wp2_with fail
    refine (HS.out _ B1 hz1_0 q0).mono ?_
    rintro e w2 ⟨⟨r, rfl, HQ2⟩, hb2⟩
    have B2 : Below w.heap.size w w2 := belowNext B1 hb2
    have p0 := cellThru hb2 hz1_0 q0
    have p1 := cellThru hb2 hz1_0 q1
    have hz2 : w.heap.size < w2.heap.size := Nat.lt_of_lt_of_le hz1_0 hb2.size
    clear hb2 q0 q1 B1 hz1_0 HQ
    cases r
    · have H2 : Hid (¬ AnyL l (fun y => lngB y x = true)) := Lib.hid (fun h => by have := HQ2.out.2 h; cases this)
      go_wp2_with fail
      refine (HM.out _ B2 hz2 p1).mono ?_
      rintro e w3 ⟨⟨r, rfl, HQ3⟩, hb3⟩
      have B3 : Below w.heap.size w w3 := belowNext B2 hb3
      cases r
      · have H3 : Hid (¬ AnyL l (fun y => CrossOne y J)) := Lib.hid (fun h => by have := HQ3.out.2 h; cases this)
        go_wp2
        go_ret
        exact ⟨⟨_, rfl, Lib.hid (.inr (.inr (.inr ⟨H1.out, H2.out, H3.out, rfl⟩)))⟩, B3⟩
      · have H3 := Lib.hid (HQ3.out.1 rfl)
        go_wp2
        go_ret
        exact ⟨⟨_, rfl, Lib.hid (.inr (.inr (.inl ⟨H1.out, H2.out, H3.out, rfl⟩)))⟩, B3⟩
    · have H2 := Lib.hid (HQ2.out.1 rfl)
      go_wp2
      go_ret
      exact ⟨⟨_, rfl, Lib.hid (.inr (.inl ⟨H1.out, H2.out, rfl⟩))⟩, B2⟩
  · have H1 := Lib.hid (HQ.out.1 rfl)
    go_wp2
    go_ret
    exact ⟨⟨_, rfl, Lib.hid (.inl ⟨H1.out, rfl⟩)⟩, B1⟩

theorem LfOwn.set {w : World} {lo : Nat} {A : Option Addr} {l : List Lf4} (h : LfOwn w lo A l) (G o : Nat) (v : Value) (hG : G < lo) : LfOwn (w.setCell ⟨G, o, none⟩ v) lo A l := by
  intro hn
  obtain ⟨b, off, e, h1, h2, hc⟩ := h hn
  refine ⟨b, off, e, h1, by simpa using h2, fun i n d m c hi => ?_⟩
  obtain ⟨⟨a0, a1, a2, a3⟩, ⟨f0, f1, f2, f3⟩⟩ := hc i n d m c hi
  have hne : b ≠ G := by omega
  exact ⟨⟨by simpa [go_sem, hne] using a0, by simpa [go_sem, hne] using a1, by simpa [go_sem, hne] using a2, by simpa [go_sem, hne] using a3⟩, ⟨by simpa using f0, by simpa using f1, by simpa using f2, by simpa using f3⟩⟩
/-- What the candidate of a leaf is: its images and its majors, or a code. -/
def CandNo (w : World) (e : Ending) (w' : World) : Prop := (∃ A len cap B len' cap', e = .returned (.tuple #[candV A len cap B len' cap', .int .i64 3])) ∧ Below w.heap.size w w'
def CandYes (w : World) (r J : List Lf4) (e : Ending) (w' : World) : Prop := ∃ A cap B cap', e = .returned (.tuple #[candV A r.length cap B J.length cap', .int .i64 0]) ∧ LfOwn w' w.heap.size A r ∧ LfOwn w' w.heap.size B J ∧ r.length ≤ cap ∧ Below w.heap.size w w'

set_option maxHeartbeats 1000000 in
theorem implCandNo (a b c d : Int) (w : World) (h : isLf a b c d = true) (h2 : shortB a b c d = true) (h3 : imF 64 (a, b, c, d) [] = none ∨ pbHal a b c d = false) :
    Calls Try.prog 62 #[leafV a b c d] w (CandNo w) := by
  have HI := Lib.hid (fun w => implImgs1 a b c d w h)
  have HM := Lib.hid (fun w => implMaj a b c d w)
  cases hf : imF 64 (a, b, c, d) [] with
  | none =>
    unfold ResIi at HI
    rw [hf] at HI
    dsimp only at HI
    clear h h2 h3 hf
    go_enter Try.func62, Try.ntmps62
    go_wp2_with fail
    refine (HI.out _).mono ?_
    rintro e w1 ⟨rfl, hb1⟩
    obtain ⟨hc1, hf1⟩ := bcell hb1
    have hz1_0 : w.heap.size < w1.heap.size := by have := hb1.size; first | omega | (simp at this; omega)
    have hz1_1 : w.heap.size + 1 < w1.heap.size := by have := hb1.size; first | omega | (simp at this; omega)
    have q0 : w1.cell? ⟨w.heap.size + 1, 0, none⟩ = some (.slice none 0 0) := cellThru hb1 (by simp) (by simp [go_sem])
    have q1 : w1.cell? ⟨w.heap.size + 1, 1, none⟩ = some (.slice none 0 0) := cellThru hb1 (by simp) (by simp [go_sem])
    go_wp2
    refine bodyPost_ret (v := .tuple #[candV none 0 0 none 0 0, .int .i64 3]) (by simp [results, Try.results62, go_sem, q0, q1]) rfl ⟨⟨_, _, _, _, _, _, rfl⟩, ?_⟩
    (repeat' (first | (with_reducible exact Below.refl _ _) | (with_reducible assumption) | (with_reducible refine belowNext ?_ (by with_reducible assumption)) | (with_reducible refine belowAlloc ?_ _) | (with_reducible refine Below.drew ?_) | (with_reducible refine below_drewN ?_ _) | (with_reducible refine Below.setCell ?_ ?_ _) | go_size | (with_reducible refine sizeOf' ?_) | (with_reducible refine sizeAdd ?_) | (dsimp only; first | (with_reducible refine sizeOf' ?_) | (with_reducible refine sizeAdd ?_))))
  | some r =>
    have h3' : pbHal a b c d = false := by
      rcases h3 with h3 | h3
      · rw [hf] at h3; cases h3
      · exact h3
    unfold ResIi at HI
    rw [hf] at HI
    dsimp only at HI
    obtain ⟨E1, E2⟩ := mj_far h h2 h3'
    rw [E1, E2] at HM
    clear h h2 h3 hf h3' E1 E2
    go_enter Try.func62, Try.ntmps62
    go_wp2_with fail
    refine (HI.out _).mono ?_
    rintro e w1 ⟨A, cap, rfl, ho1, hc1', hb1⟩
    obtain ⟨hc1, hf1⟩ := bcell hb1
    have hz1_0 : w.heap.size < w1.heap.size := by have := hb1.size; first | omega | (simp at this; omega)
    have hz1_1 : w.heap.size + 1 < w1.heap.size := by have := hb1.size; first | omega | (simp at this; omega)
    have q0 : w1.cell? ⟨w.heap.size + 1, 0, none⟩ = some (.slice none 0 0) := cellThru hb1 (by simp) (by simp [go_sem])
    have q1 : w1.cell? ⟨w.heap.size + 1, 1, none⟩ = some (.slice none 0 0) := cellThru hb1 (by simp) (by simp [go_sem])
    clear ho1 hc1'
    go_wp2_with fail
    refine (HM.out _).mono ?_
    rintro e w2 ⟨B, cap', rfl, ho2, hb2⟩
    obtain ⟨hc2, hf2⟩ := bcell hb2
    have hz2_0 : w.heap.size < w2.heap.size := by have := hb2.size; first | omega | (simp at this; omega)
    have hz2_1 : w.heap.size + 1 < w2.heap.size := by have := hb2.size; first | omega | (simp at this; omega)
    have p0 := cellThru hb2 hz1_1 q0
    have p1 := cellThru hb2 hz1_1 q1
    clear ho2 q0 q1
    go_wp2
    refine bodyPost_ret (v := .tuple #[candV A r.length cap B 0 cap', .int .i64 3]) (by simp [results, Try.results62, go_sem, p0, p1]) rfl ⟨⟨_, _, _, _, _, _, rfl⟩, ?_⟩
    (repeat' (first | (with_reducible exact Below.refl _ _) | (with_reducible assumption) | (with_reducible refine belowNext ?_ (by with_reducible assumption)) | (with_reducible refine belowAlloc ?_ _) | (with_reducible refine Below.drew ?_) | (with_reducible refine below_drewN ?_ _) | (with_reducible refine Below.setCell ?_ ?_ _) | go_size | (with_reducible refine sizeOf' ?_) | (with_reducible refine sizeAdd ?_) | (dsimp only; first | (with_reducible refine sizeOf' ?_) | (with_reducible refine sizeAdd ?_))))

set_option maxHeartbeats 1000000 in
theorem implCand (a b c d : Int) (r : List Lf4) (w : World) (h : isLf a b c d = true) (h2 : shortB a b c d = true) (hf : imF 64 (a, b, c, d) [] = some r) (h3 : pbHal a b c d = true) :
    Calls Try.prog 62 #[leafV a b c d] w (CandYes w r (wayX a b c d)) := by
  have HI := Lib.hid (fun w => implImgs1 a b c d w h)
  have HM := Lib.hid (fun w => implMaj a b c d w)
  unfold ResIi at HI
  rw [hf] at HI
  dsimp only at HI
  obtain ⟨E1, E2⟩ := mj_yes h h2 h3
  rw [E1, E2] at HM
  clear h h2 h3 hf E1 E2
  generalize wayX a b c d = J at *
  go_enter Try.func62, Try.ntmps62
  go_wp2_with fail
  refine (HI.out _).mono ?_
  rintro e w1 ⟨A, cap, rfl, ho1, hk1, hb1⟩
  obtain ⟨hc1, hf1⟩ := bcell hb1
  have hz1_0 : w.heap.size < w1.heap.size := by have := hb1.size; first | omega | (simp at this; omega)
  have hz1_1 : w.heap.size + 1 < w1.heap.size := by have := hb1.size; first | omega | (simp at this; omega)
  have q0 : w1.cell? ⟨w.heap.size + 1, 0, none⟩ = some (.slice none 0 0) := cellThru hb1 (by simp) (by simp [go_sem])
  have q1 : w1.cell? ⟨w.heap.size + 1, 1, none⟩ = some (.slice none 0 0) := cellThru hb1 (by simp) (by simp [go_sem])
  have H1 := Lib.hid ho1
  have hs1 : w.heap.size ≤ w1.heap.size := by omega
  clear ho1
  go_wp2_with fail
  refine (HM.out _).mono ?_
  rintro e w2 ⟨B, cap', rfl, ho2, hb2⟩
  obtain ⟨hc2, hf2⟩ := bcell hb2
  have hz2_0 : w.heap.size < w2.heap.size := by have := hb2.size; first | omega | (simp at this; omega)
  have hz2_1 : w.heap.size + 1 < w2.heap.size := by have := hb2.size; first | omega | (simp at this; omega)
  have p0 := cellThru hb2 hz1_1 q0
  have p1 := cellThru hb2 hz1_1 q1
  have H2 := Lib.hid ho2
  have H12 := Lib.hid (H1.out.next hb2)
  clear ho2 q0 q1
  go_wp2
  refine bodyPost_ret (v := .tuple #[candV A r.length cap B J.length cap', .int .i64 0]) (by simp [results, Try.results62, go_sem, p0, p1]) rfl ⟨A, cap, B, cap', rfl, ((H12.out.set _ _ _ (by simp)).set _ _ _ (by simp)).loM (by simp <;> omega), ((H2.out.set _ _ _ hz1_1).set _ _ _ hz1_1).loM hs1, hk1, ?_⟩
  (repeat' (first | (with_reducible exact Below.refl _ _) | (with_reducible assumption) | (with_reducible refine belowNext ?_ (by with_reducible assumption)) | (with_reducible refine belowAlloc ?_ _) | (with_reducible refine Below.drew ?_) | (with_reducible refine below_drewN ?_ _) | (with_reducible refine Below.setCell ?_ ?_ _) | go_size | (with_reducible refine sizeOf' ?_) | (with_reducible refine sizeAdd ?_) | (dsimp only; first | (with_reducible refine sizeOf' ?_) | (with_reducible refine sizeAdd ?_))))

/-- The answer. -/
def ResCF (w : World) (x : Lf4) (e : Ending) (w' : World) : Prop := (∃ v c : Int, e = .returned (.tuple #[.int .i64 v, .int .i64 c]) ∧ Hid (CfIs x v c)) ∧ Below w.heap.size w w'

theorem way_lf {a b c d : Int} (h : isLf a b c d = true) (h3 : pbHal a b c d = true) : allLf (wayX a b c d) = true := by
  obtain ⟨r1, r2, hlt⟩ := isLf_yes h
  obtain ⟨-, t2, -⟩ := half_order r1 r2 hlt
  have t3 := half_turn r1 r2 hlt
  have j1 : halOk a b = true := by unfold pbHal at h3; rw [Bool.and_eq_true] at h3; exact h3.1
  have j2 : halOk c d = true := by unfold pbHal at h3; rw [Bool.and_eq_true] at h3; exact h3.2
  have g1 : redD a (2 * b) ≤ 8191 ∧ redD (a + b) (2 * b) ≤ 8191 := by unfold halOk at j1; exact of_decide_eq_true j1
  have g2 : redD c (2 * d) ≤ 8191 ∧ redD (c + d) (2 * d) ≤ 8191 := by unfold halOk at j2; exact of_decide_eq_true j2
  have b1 := r1.1
  have b2 := r2.1
  dsimp only at b1 b2
  have k1 := angOf (red_is (show 0 < 2 * b by omega) g1.1)
  have k2 := angOf (red_is (show 0 < 2 * b by omega) g1.2)
  have k3 := angOf (red_is (show 0 < 2 * d by omega) g2.1)
  have k4 := angOf (red_is (show 0 < 2 * d by omega) g2.2)
  unfold allLf wayX
  simp only [List.all_cons, List.all_nil, Bool.and_true, Bool.and_eq_true]
  unfold isLf
  rw [k1, k2, k3, k4, t2, t3]
  exact ⟨rfl, rfl⟩

set_option maxHeartbeats 1000000 in
theorem implCF (a b c d : Int) (w : World) : Calls Try.prog 30 #[leafV a b c d] w (ResCF w (a, b, c, d)) := by
  have H1 := Lib.hid (fun w => implLf a b c d w)
  cases h : isLf a b c d
  · have HV : Hid (CfIs (a, b, c, d) 0 1) := Lib.hid (.inl ⟨h, rfl, rfl⟩)
    rw [h] at H1
    clear h
    go_enter Try.func30, Try.ntmps30
    go_wp2_with fail
    refine (H1.out _).mono ?_
    rintro e w1 ⟨rfl, hb1⟩
    obtain ⟨hc1, hf1⟩ := bcell hb1
    have hz1_0 : w.heap.size < w1.heap.size := by have := hb1.size; first | omega | (simp at this; omega)
    go_wp2
    go_ret2
    refine ⟨⟨_, _, rfl, HV⟩, ?_⟩
    (repeat' (first | (with_reducible exact Below.refl _ _) | (with_reducible assumption) | (with_reducible refine belowNext ?_ (by with_reducible assumption)) | (with_reducible refine belowAlloc ?_ _) | (with_reducible refine Below.drew ?_) | (with_reducible refine below_drewN ?_ _) | (with_reducible refine Below.setCell ?_ ?_ _) | go_size | (with_reducible refine sizeOf' ?_) | (with_reducible refine sizeAdd ?_) | (dsimp only; first | (with_reducible refine sizeOf' ?_) | (with_reducible refine sizeAdd ?_))))
  · obtain ⟨r1, r2, -⟩ := isLf_yes h
    have H2 := Lib.hid (fun w => implShort a b c d w (okOf r1) (okOf r2))
    rw [h] at H1
    cases h2 : shortB a b c d
    · have HV : Hid (CfIs (a, b, c, d) 1 0) := Lib.hid (.inr (.inl ⟨h, h2, rfl, rfl⟩))
      rw [h2] at H2
      clear h h2 r1 r2
      go_enter Try.func30, Try.ntmps30
      go_wp2_with fail
      refine (H1.out _).mono ?_
      rintro e w1 ⟨rfl, hb1⟩
      obtain ⟨hc1, hf1⟩ := bcell hb1
      have hz1_0 : w.heap.size < w1.heap.size := by have := hb1.size; first | omega | (simp at this; omega)
      go_wp2_with fail
      refine (H2.out _).mono ?_
      rintro e w2 ⟨rfl, hb2⟩
      obtain ⟨hc2, hf2⟩ := bcell hb2
      have hz2_0 : w.heap.size < w2.heap.size := by have := hb2.size; first | omega | (simp at this; omega)
      go_wp2
      go_ret2
      refine ⟨⟨_, _, rfl, HV⟩, ?_⟩
      (repeat' (first | (with_reducible exact Below.refl _ _) | (with_reducible assumption) | (with_reducible refine belowNext ?_ (by with_reducible assumption)) | (with_reducible refine belowAlloc ?_ _) | (with_reducible refine Below.drew ?_) | (with_reducible refine below_drewN ?_ _) | (with_reducible refine Below.setCell ?_ ?_ _) | go_size | (with_reducible refine sizeOf' ?_) | (with_reducible refine sizeAdd ?_) | (dsimp only; first | (with_reducible refine sizeOf' ?_) | (with_reducible refine sizeAdd ?_))))
    · rw [h2] at H2
      by_cases h3 : imF 64 (a, b, c, d) [] = none ∨ pbHal a b c d = false
      · have HV : Hid (CfIs (a, b, c, d) 0 3) := Lib.hid (.inr (.inr (.inl ⟨h, h2, h3, rfl, rfl⟩)))
        have H3 := Lib.hid (fun w => implCandNo a b c d w h h2 h3)
        clear h h2 h3 r1 r2
        go_enter Try.func30, Try.ntmps30
        go_wp2_with fail
        refine (H1.out _).mono ?_
        rintro e w1 ⟨rfl, hb1⟩
        obtain ⟨hc1, hf1⟩ := bcell hb1
        have hz1_0 : w.heap.size < w1.heap.size := by have := hb1.size; first | omega | (simp at this; omega)
        go_wp2_with fail
        refine (H2.out _).mono ?_
        rintro e w2 ⟨rfl, hb2⟩
        obtain ⟨hc2, hf2⟩ := bcell hb2
        have hz2_0 : w.heap.size < w2.heap.size := by have := hb2.size; first | omega | (simp at this; omega)
        go_wp2_with fail
        refine (H3.out _).mono ?_
        rintro e w3 ⟨⟨A, len, cap, B, len', cap', rfl⟩, hb3⟩
        obtain ⟨hc3, hf3⟩ := bcell hb3
        have hz3_0 : w.heap.size < w3.heap.size := by have := hb3.size; first | omega | (simp at this; omega)
        go_wp2
        go_ret2
        refine ⟨⟨_, _, rfl, HV⟩, ?_⟩
        (repeat' (first | (with_reducible exact Below.refl _ _) | (with_reducible assumption) | (with_reducible refine belowNext ?_ (by with_reducible assumption)) | (with_reducible refine belowAlloc ?_ _) | (with_reducible refine Below.drew ?_) | (with_reducible refine below_drewN ?_ _) | (with_reducible refine Below.setCell ?_ ?_ _) | go_size | (with_reducible refine sizeOf' ?_) | (with_reducible refine sizeAdd ?_) | (dsimp only; first | (with_reducible refine sizeOf' ?_) | (with_reducible refine sizeAdd ?_))))
      · have h4 : pbHal a b c d = true := by
          cases e : pbHal a b c d
          · exact absurd (.inr e) h3
          · rfl
        obtain ⟨r, hf⟩ : ∃ r, imF 64 (a, b, c, d) [] = some r := by
          cases e : imF 64 (a, b, c, d) [] with
          | none => exact absurd (.inl e) h3
          | some r => exact ⟨r, rfl⟩
        have HV : Hid (∀ v, FailIs (a, b, c, d) r (wayX a b c d) v → CfIs (a, b, c, d) v 0) := Lib.hid (fun v hv => .inr (.inr (.inr ⟨h, h2, h4, ⟨r, hf, hv⟩, rfl⟩)))
        have H3 := Lib.hid (fun w => implCand a b c d r w h h2 hf h4)
        have hlen := imF_len 64 (a, b, c, d) [] r hf
        simp at hlen
        have H4 := Lib.hid (fun (A : Option Addr) (cap : Nat) (B : Option Addr) (cap' : Nat) (W : World) (hr : LfRow W W.heap.size A r) (hk : r.length ≤ cap) (hr' : LfRow W W.heap.size B (wayX a b c d)) =>
          implFails (a, b, c, d) A r.length cap r B (wayX a b c d).length cap' (wayX a b c d) W h hr rfl (by omega) hk (im_head hf) (imF_lf _ _ _ _ (show isLfX (a, b, c, d) = true from h) rfl hf) hr' rfl (by simp [wayX]) (way_lf h h4))
        clear h h2 h3 h4 hf r1 r2
        generalize wayX a b c d = J at *
        go_enter Try.func30, Try.ntmps30
        go_wp2_with fail
        refine (H1.out _).mono ?_
        rintro e w1 ⟨rfl, hb1⟩
        obtain ⟨hc1, hf1⟩ := bcell hb1
        have hz1_0 : w.heap.size < w1.heap.size := by have := hb1.size; first | omega | (simp at this; omega)
        go_wp2_with fail
        refine (H2.out _).mono ?_
        rintro e w2 ⟨rfl, hb2⟩
        obtain ⟨hc2, hf2⟩ := bcell hb2
        have hz2_0 : w.heap.size < w2.heap.size := by have := hb2.size; first | omega | (simp at this; omega)
        go_wp2_with fail
        refine (H3.out _).mono ?_
        rintro e w3 ⟨A, cap, B, cap', rfl, ho, ho', hk, hb3⟩
        obtain ⟨hc3, hf3⟩ := bcell hb3
        have hz3_0 : w.heap.size < w3.heap.size := by have := hb3.size; first | omega | (simp at this; omega)
        have R1 := Lib.hid (ho.row.next (belowAlloc (Below.refl _ _) (.cells #[.slice A r.length cap, .slice B J.length cap'] 80)))
        have R2 := Lib.hid (ho'.row.next (belowAlloc (Below.refl _ _) (.cells #[.slice A r.length cap, .slice B J.length cap'] 80)))
        clear ho ho'
        go_wp2_with fail
        refine (H4.out A cap B cap' _ R1.out hk R2.out).mono ?_
        rintro e w4 ⟨⟨v, rfl, HF⟩, hb4⟩
        obtain ⟨hc4, hf4⟩ := bcell hb4
        have hz4_0 : w.heap.size < w4.heap.size := by have := hb4.size; first | omega | (simp at this; omega)
        have HW := Lib.hid (HV.out v HF.out)
        go_wp2
        go_ret2
        refine ⟨⟨_, _, rfl, HW⟩, ?_⟩
        (repeat' (first | (with_reducible exact Below.refl _ _) | (with_reducible assumption) | (with_reducible refine belowNext ?_ (by with_reducible assumption)) | (with_reducible refine belowAlloc ?_ _) | (with_reducible refine Below.drew ?_) | (with_reducible refine below_drewN ?_ _) | (with_reducible refine Below.setCell ?_ ?_ _) | go_size | (with_reducible refine sizeOf' ?_) | (with_reducible refine sizeAdd ?_) | (dsimp only; first | (with_reducible refine sizeOf' ?_) | (with_reducible refine sizeAdd ?_))))
end Go.Proofs.Ytlmgpecfbpcgaaa

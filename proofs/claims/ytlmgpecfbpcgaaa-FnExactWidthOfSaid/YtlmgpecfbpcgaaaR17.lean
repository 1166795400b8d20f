/-
  Contracts: the pair and the partner of an angle, as the model tells them.
-/
import Derived.Test.YtlmgpecfbpcgaaaR16
import Derived.BigQuiet
namespace Go.Proofs.Ytlmgpecfbpcgaaa
open Go.RowKit

theorem findP_skip (x : Int × Int) : ∀ (l : List (Lf4 × Nat)) (k : Nat), (∀ j, j < k → ∀ q, l[j]? = some q → inP x q.1 = false) → findP x l = findP x (l.drop k)
  | _, 0, _ => rfl
  | [], k + 1, _ => by simp
  | q :: l, k + 1, h => by
    have h0 := h 0 (by omega) q rfl
    have e : findP x (q :: l) = findP x l := by simp [findP, h0]
    rw [e, List.drop_succ_cons]
    exact findP_skip x l k (fun j hj r hr => h (j + 1) (by omega) r (by simpa using hr))
theorem findP_hit {x : Int × Int} {l : List (Lf4 × Nat)} {k : Nat} {q : Lf4 × Nat} (h : ∀ j, j < k → ∀ q, l[j]? = some q → inP x q.1 = false) (hq : l[k]? = some q) (hi : inP x q.1 = true) : findP x l = q.1 := by
  rw [findP_skip x l k h]
  obtain ⟨hk, rfl⟩ := List.getElem?_eq_some_iff.1 hq
  rw [List.drop_eq_getElem_cons hk]
  simp [findP, hi]
theorem findP_end {x : Int × Int} {l : List (Lf4 × Nat)} {k : Nat} (h : ∀ j, j < k → ∀ q, l[j]? = some q → inP x q.1 = false) (hk : k = l.length) : findP x l = (0, 0, 0, 0) := by
  rw [findP_skip x l k h, hk, List.drop_length]; rfl

set_option maxRecDepth 100000 in
set_option maxHeartbeats 1000000 in
theorem specPair (n d : Int) (w : World) (h1 : isAng n d = true) (h2 : 2 ≤ shortP d) :
    Calls Try.prog 114 #[ang n d] w fun e w' => e = .returned (leafV (poP n d).1 (poP n d).2.1 (poP n d).2.2.1 (poP n d).2.2.2) ∧ Below w.heap.size w w' := by
  have HS := Lib.hid (fun w => specPer n d w (ang_red h1))
  have h3 : poP n d = findP (n, d) (upK (shortP d - 1)) := by unfold poP; simp [h1, h2]
  have hle := shortP_le d
  have hn : perS (n, d) = shortP d := (per_range (ang_red h1)).1 h2
  rw [hn] at HS
  have HX := Lib.hid h3
  generalize poP n d = V at *
  generalize shortP d = sp at *
  have HU := Lib.hid (fun w => specPairs sp w (by omega) hle)
  have hll := upK_len (sp - 1) (by omega)
  generalize upK (sp - 1) = l at *
  obtain ⟨len, hl⟩ : ∃ len, l.length = len := ⟨_, rfl⟩
  rw [hl] at HU hll
  have HL := Lib.hid hl
  have hlen : len ≤ 100000 := by omega
  clear h1 h2 h3 hn hl hll
  go_enter Try.func114, Try.ntmps114
  go_wp2_with fail
  refine (HS.out _).mono ?_
  rintro e w1 ⟨rfl, hb1⟩
  obtain ⟨hc1, hf1⟩ := bcell hb1
  have hz1_0 : w.heap.size < w1.heap.size := by have := hb1.size; first | omega | (simp at this; omega)
  have hz1_1 : w.heap.size + 1 < w1.heap.size := by have := hb1.size; first | omega | (simp at this; omega)
  have q1_0_0 : w1.cell? ⟨w.heap.size, 0, none⟩ = some (.int .i64 n) := cellThru hb1 (by simp <;> omega) (by simp [go_sem])
  have q1_0_1 : w1.cell? ⟨w.heap.size, 1, none⟩ = some (.int .i64 d) := cellThru hb1 (by simp <;> omega) (by simp [go_sem])
  have q1_1_0 : w1.cell? ⟨w.heap.size + 1, 0, none⟩ = some (.int .i64 0) := cellThru hb1 (by simp <;> omega) (by simp [go_sem])
  have q1_1_1 : w1.cell? ⟨w.heap.size + 1, 1, none⟩ = some (.int .i64 0) := cellThru hb1 (by simp <;> omega) (by simp [go_sem])
  have q1_1_2 : w1.cell? ⟨w.heap.size + 1, 2, none⟩ = some (.int .i64 0) := cellThru hb1 (by simp <;> omega) (by simp [go_sem])
  have q1_1_3 : w1.cell? ⟨w.heap.size + 1, 3, none⟩ = some (.int .i64 0) := cellThru hb1 (by simp <;> omega) (by simp [go_sem])
  have j1_1_0 : w1.frozen? ⟨w.heap.size + 1, 0, none⟩ = false := frozThru hb1 (by simp <;> omega) (by simp [go_sem])
  have j1_1_1 : w1.frozen? ⟨w.heap.size + 1, 1, none⟩ = false := frozThru hb1 (by simp <;> omega) (by simp [go_sem])
  have j1_1_2 : w1.frozen? ⟨w.heap.size + 1, 2, none⟩ = false := frozThru hb1 (by simp <;> omega) (by simp [go_sem])
  have j1_1_3 : w1.frozen? ⟨w.heap.size + 1, 3, none⟩ = false := frozThru hb1 (by simp <;> omega) (by simp [go_sem])
  have B1 : Below w.heap.size w w1 := by
    (repeat' (first | (with_reducible exact Below.refl _ _) | (with_reducible assumption) | (with_reducible refine belowNext ?_ (by with_reducible assumption)) | (with_reducible refine belowAlloc ?_ _) | (with_reducible refine Below.drew ?_) | (with_reducible refine below_drewN ?_ _) | (with_reducible refine Below.setCell ?_ ?_ _) | go_size | (with_reducible refine sizeOf' ?_) | (with_reducible refine sizeAdd ?_) | (dsimp only; first | (with_reducible refine sizeOf' ?_) | (with_reducible refine sizeAdd ?_))))
  go_wp2_with fail
  refine (HU.out _).mono ?_
  rintro e w2 ⟨A, cap, rfl, ho2, hb2⟩
  have HB2 : Hid (Below w.heap.size w w2) := Lib.hid (belowNext B1 hb2)
  have HR2 : Hid (LfRow w2 w2.heap.size A (l.map (·.1))) := Lib.hid (rowP_of (by rw [List.length_map]; exact HL.out) ho2)
  have x0 := cellThru hb2 hz1_0 q1_0_0
  have x1 := cellThru hb2 hz1_0 q1_0_1
  have HC2 : Hid (Cells4 w2 (w.heap.size + 1) 0 0 0 0 0) := Lib.hid ⟨cellThru hb2 hz1_1 q1_1_0, cellThru hb2 hz1_1 q1_1_1, cellThru hb2 hz1_1 q1_1_2, cellThru hb2 hz1_1 q1_1_3⟩
  have HF2 : Hid (Free4 w2 (w.heap.size + 1) 0) := Lib.hid ⟨frozThru hb2 hz1_1 j1_1_0, frozThru hb2 hz1_1 j1_1_1, frozThru hb2 hz1_1 j1_1_2, frozThru hb2 hz1_1 j1_1_3⟩
  clear hc1 hf1 hb1 ho2 hb2 q1_0_0 q1_0_1 q1_1_0 q1_1_1 q1_1_2 q1_1_3 j1_1_0 j1_1_1 j1_1_2 j1_1_3 B1 hz1_0 hz1_1
  go_wp2_with fail
  go_loopg [4] len (fun g s4 wr => ∃ k : Nat, k + g = len ∧ s4 = .int .i64 k ∧ Hid (∀ j, j < k → ∀ q, l[j]? = some q → inP (n, d) q.1 = false) ∧ Hid (∃ nq, wr = w2.drewN nq))
  case atStart => exact ⟨0, by omega, rfl, Lib.hid (fun j hj => absurd hj (by omega)), Lib.hid ⟨0, rfl⟩⟩
  case round =>
    obtain ⟨k, hkg, rfl, HN, HW⟩ := hrel
    obtain ⟨nq0, rfl⟩ := HW.out
    obtain ⟨r0, r1, r2, r3⟩ := HC2.out
    obtain ⟨f0, f1, f2, f3⟩ := HF2.out
    have r1' : w2.cell? ⟨w.heap.size + 1, 1, none⟩ = some (.int .i64 0) := r1
    have r2' : w2.cell? ⟨w.heap.size + 1, 2, none⟩ = some (.int .i64 0) := r2
    have r3' : w2.cell? ⟨w.heap.size + 1, 3, none⟩ = some (.int .i64 0) := r3
    have f1' : w2.frozen? ⟨w.heap.size + 1, 1, none⟩ = false := f1
    have f2' : w2.frozen? ⟨w.heap.size + 1, 2, none⟩ = false := f2
    have f3' : w2.frozen? ⟨w.heap.size + 1, 3, none⟩ = false := f3
    cases gk with
    | zero =>
      obtain rfl : k = len := by omega
      have hv : V = (0, 0, 0, 0) := by rw [HX.out]; exact findP_end HN.out HL.out.symm
      subst hv
      have hB := HB2.out
      go_wp2
      refine bodyPost_ret (v := leafV 0 0 0 0) (by simp [results, Try.results114, go_sem, r0, r1', r2', r3']) rfl ⟨rfl, ?_⟩
      have hle1 : w.heap.size ≤ w.heap.size + 1 := Nat.le_succ _
      exact ((((below_drewN hB _).setCell hle1 _).setCell hle1 _).setCell hle1 _).setCell hle1 _
    | succ g =>
      have hlt : k < len := by omega
      have hkl : k < l.length := by have := HL.out; omega
      obtain ⟨⟨⟨p1, p2, p3, p4⟩, per⟩, hq⟩ : ∃ q, l[k]? = some q := ⟨_, List.getElem?_eq_getElem hkl⟩
      have hne : l.map (·.1) ≠ [] := by intro h; rw [List.map_eq_nil_iff] at h; rw [h] at hkl; simp at hkl
      obtain ⟨g0, off, rfl, hgb, hcells⟩ := HR2.out hne
      obtain ⟨y0, y1, y2, y3⟩ := hcells k p1 p2 p3 p4 (by rw [List.getElem?_map, hq]; rfl)
      have HQ := Lib.hid hq
      obtain ⟨t1, ht1⟩ : ∃ t, eqA p1 p2 n d = t := ⟨_, rfl⟩
      obtain ⟨t2, ht2⟩ : ∃ t, eqA p3 p4 n d = t := ⟨_, rfl⟩
      have Q1 := fun W => eqlAng p1 p2 n d W
      have Q2 := fun W => eqlAng p3 p4 n d W
      rw [ht1] at Q1
      rw [ht2] at Q2
      have HIn : Hid (inP (n, d) (p1, p2, p3, p4) = (t1 || t2)) := Lib.hid (by unfold inP; rw [← ht1, ← ht2])
      clear hcells hne hq ht1 ht2
      cases t1 <;> cases t2
      all_goals
        go_wp2_with fail
        go_quiet (fail)
        go_wp2
      · go_roundg g
        case measure => omega
        case rel =>
          refine ⟨k + 1, by omega, by go_num, Lib.hid (fun j hj q hq => ?_), Lib.hid ⟨_, rfl⟩⟩
          by_cases hjk : j = k
          · subst hjk
            rw [HQ.out] at hq
            injection hq with hq
            rw [← hq]; exact HIn.out
          · exact HN.out j (by omega) q hq
      · have hv : V = (p1, p2, p3, p4) := by rw [HX.out]; exact findP_hit HN.out HQ.out (by rw [HIn.out]; rfl)
        subst hv
        have hB := HB2.out
        refine bodyPost_ret (v := leafV p1 p2 p3 p4) (by simp [results, Try.results114, go_sem, r0, r1', r2', r3']) rfl ⟨rfl, ?_⟩
        have hle1 : w.heap.size ≤ w.heap.size + 1 := Nat.le_succ _
        exact ((((below_drewN hB _).setCell hle1 _).setCell hle1 _).setCell hle1 _).setCell hle1 _
      · have hv : V = (p1, p2, p3, p4) := by rw [HX.out]; exact findP_hit HN.out HQ.out (by rw [HIn.out]; rfl)
        subst hv
        have hB := HB2.out
        refine bodyPost_ret (v := leafV p1 p2 p3 p4) (by simp [results, Try.results114, go_sem, r0, r1', r2', r3']) rfl ⟨rfl, ?_⟩
        have hle1 : w.heap.size ≤ w.heap.size + 1 := Nat.le_succ _
        exact ((((below_drewN hB _).setCell hle1 _).setCell hle1 _).setCell hle1 _).setCell hle1 _
      · have hv : V = (p1, p2, p3, p4) := by rw [HX.out]; exact findP_hit HN.out HQ.out (by rw [HIn.out]; rfl)
        subst hv
        have hB := HB2.out
        refine bodyPost_ret (v := leafV p1 p2 p3 p4) (by simp [results, Try.results114, go_sem, r0, r1', r2', r3']) rfl ⟨rfl, ?_⟩
        have hle1 : w.heap.size ≤ w.heap.size + 1 := Nat.le_succ _
        exact ((((below_drewN hB _).setCell hle1 _).setCell hle1 _).setCell hle1 _).setCell hle1 _

set_option maxHeartbeats 1000000 in
theorem specPairOf (n d : Int) (w : World) :
    Calls Try.prog 71 #[ang n d] w fun e w' => e = .returned (res5 (poP n d) (poC n d)) ∧ Below w.heap.size w w' := by
  have HC := Lib.hid (fun w => specCode n d w)
  by_cases hc : poC n d = 0
  · have hcase : isAng n d = true ∧ 2 ≤ shortP d := by
      rcases po_cases n d with ⟨h1, h2, h3⟩ | ⟨h1, h2, h3, h4⟩ | ⟨h1, h2, h3, h4⟩
      · omega
      · omega
      · exact ⟨h1, h2⟩
    have HP := Lib.hid (fun w => specPair n d w hcase.1 hcase.2)
    rw [hc] at HC ⊢
    generalize poP n d = V at *
    obtain ⟨a, b, x, y⟩ := V
    dsimp only at HP ⊢
    clear hc hcase
    go_enter Try.func71, Try.ntmps71
    go_wp2_with fail
    refine (HC.out _).mono ?_
    rintro e w1 ⟨rfl, hb1⟩
    obtain ⟨hc1, hf1⟩ := bcell hb1
    have hz1_0 : w.heap.size < w1.heap.size := by have := hb1.size; first | omega | (simp at this; omega)
    have hz1_1 : w.heap.size + 1 < w1.heap.size := by have := hb1.size; first | omega | (simp at this; omega)
    have q1_1_0 : w1.cell? ⟨w.heap.size + 1, 0, none⟩ = some (.int .i64 0) := cellThru hb1 (by simp <;> omega) (by simp [go_sem])
    have q1_1_1 : w1.cell? ⟨w.heap.size + 1, 1, none⟩ = some (.int .i64 0) := cellThru hb1 (by simp <;> omega) (by simp [go_sem])
    have q1_1_2 : w1.cell? ⟨w.heap.size + 1, 2, none⟩ = some (.int .i64 0) := cellThru hb1 (by simp <;> omega) (by simp [go_sem])
    have q1_1_3 : w1.cell? ⟨w.heap.size + 1, 3, none⟩ = some (.int .i64 0) := cellThru hb1 (by simp <;> omega) (by simp [go_sem])
    go_wp2_with fail
    refine (HP.out _).mono ?_
    rintro e w2 ⟨rfl, hb2⟩
    obtain ⟨hc2, hf2⟩ := bcell hb2
    have hz2_0 : w.heap.size < w2.heap.size := by have := hb2.size; first | omega | (simp at this; omega)
    have hz2_1 : w.heap.size + 1 < w2.heap.size := by have := hb2.size; first | omega | (simp at this; omega)
    have q2_1_0 : w2.cell? ⟨w.heap.size + 1, 0, none⟩ = some (.int .i64 0) := by first | exact cellThru hb2 hz1_1 q1_1_0 | (refine cellThru hb2 ?_ (cellThru (belowAlloc (Below.refl _ _) _) hz1_1 q1_1_0); first | omega | (simp; omega)) | (refine cellThru hb2 ?_ (cellThru (belowAlloc (belowAlloc (Below.refl _ _) _) _) hz1_1 q1_1_0); first | omega | (simp; omega)) | (refine cellThru hb2 ?_ ?_; (first | omega | (simp; omega) | go_size); simp [go_sem, q1_1_0])
    have q2_1_1 : w2.cell? ⟨w.heap.size + 1, 1, none⟩ = some (.int .i64 0) := by first | exact cellThru hb2 hz1_1 q1_1_1 | (refine cellThru hb2 ?_ (cellThru (belowAlloc (Below.refl _ _) _) hz1_1 q1_1_1); first | omega | (simp; omega)) | (refine cellThru hb2 ?_ (cellThru (belowAlloc (belowAlloc (Below.refl _ _) _) _) hz1_1 q1_1_1); first | omega | (simp; omega)) | (refine cellThru hb2 ?_ ?_; (first | omega | (simp; omega) | go_size); simp [go_sem, q1_1_1])
    have q2_1_2 : w2.cell? ⟨w.heap.size + 1, 2, none⟩ = some (.int .i64 0) := by first | exact cellThru hb2 hz1_1 q1_1_2 | (refine cellThru hb2 ?_ (cellThru (belowAlloc (Below.refl _ _) _) hz1_1 q1_1_2); first | omega | (simp; omega)) | (refine cellThru hb2 ?_ (cellThru (belowAlloc (belowAlloc (Below.refl _ _) _) _) hz1_1 q1_1_2); first | omega | (simp; omega)) | (refine cellThru hb2 ?_ ?_; (first | omega | (simp; omega) | go_size); simp [go_sem, q1_1_2])
    have q2_1_3 : w2.cell? ⟨w.heap.size + 1, 3, none⟩ = some (.int .i64 0) := by first | exact cellThru hb2 hz1_1 q1_1_3 | (refine cellThru hb2 ?_ (cellThru (belowAlloc (Below.refl _ _) _) hz1_1 q1_1_3); first | omega | (simp; omega)) | (refine cellThru hb2 ?_ (cellThru (belowAlloc (belowAlloc (Below.refl _ _) _) _) hz1_1 q1_1_3); first | omega | (simp; omega)) | (refine cellThru hb2 ?_ ?_; (first | omega | (simp; omega) | go_size); simp [go_sem, q1_1_3])
    go_wp2
    refine bodyPost_ret (v := res5 (a, b, x, y) 0) (by simp [results, Try.results71, go_sem, q2_1_0, q2_1_1, q2_1_2, q2_1_3]) rfl ⟨rfl, ?_⟩
    (repeat' (first | (with_reducible exact Below.refl _ _) | (with_reducible assumption) | (with_reducible refine belowNext ?_ (by with_reducible assumption)) | (with_reducible refine belowAlloc ?_ _) | (with_reducible refine Below.drew ?_) | (with_reducible refine below_drewN ?_ _) | (with_reducible refine Below.setCell ?_ ?_ _) | go_size | (with_reducible refine sizeOf' ?_) | (with_reducible refine sizeAdd ?_) | (dsimp only; first | (with_reducible refine sizeOf' ?_) | (with_reducible refine sizeAdd ?_))))
  · have hcase : poP n d = (0, 0, 0, 0) := by
      rcases po_cases n d with ⟨h1, h2, h3⟩ | ⟨h1, h2, h3, h4⟩ | ⟨h1, h2, h3, h4⟩
      · exact h3
      · exact h4
      · exact absurd h3 hc
    rw [hcase]
    have hcb : (poC n d == 0) = false := beq_eq_false_iff_ne.2 hc
    generalize poC n d = c at *
    clear hcase
    go_enter Try.func71, Try.ntmps71
    go_wp2_with fail
    refine (HC.out _).mono ?_
    rintro e w1 ⟨rfl, hb1⟩
    obtain ⟨hc1, hf1⟩ := bcell hb1
    have hz1_0 : w.heap.size < w1.heap.size := by have := hb1.size; first | omega | (simp at this; omega)
    have hz1_1 : w.heap.size + 1 < w1.heap.size := by have := hb1.size; first | omega | (simp at this; omega)
    have q1_1_0 : w1.cell? ⟨w.heap.size + 1, 0, none⟩ = some (.int .i64 0) := cellThru hb1 (by simp <;> omega) (by simp [go_sem])
    have q1_1_1 : w1.cell? ⟨w.heap.size + 1, 1, none⟩ = some (.int .i64 0) := cellThru hb1 (by simp <;> omega) (by simp [go_sem])
    have q1_1_2 : w1.cell? ⟨w.heap.size + 1, 2, none⟩ = some (.int .i64 0) := cellThru hb1 (by simp <;> omega) (by simp [go_sem])
    have q1_1_3 : w1.cell? ⟨w.heap.size + 1, 3, none⟩ = some (.int .i64 0) := cellThru hb1 (by simp <;> omega) (by simp [go_sem])
    go_wp2
    refine bodyPost_ret (v := res5 (0, 0, 0, 0) c) (by simp [results, Try.results71, go_sem, q1_1_0, q1_1_1, q1_1_2, q1_1_3]) rfl ⟨rfl, ?_⟩
    (repeat' (first | (with_reducible exact Below.refl _ _) | (with_reducible assumption) | (with_reducible refine belowNext ?_ (by with_reducible assumption)) | (with_reducible refine belowAlloc ?_ _) | (with_reducible refine Below.drew ?_) | (with_reducible refine below_drewN ?_ _) | (with_reducible refine Below.setCell ?_ ?_ _) | go_size | (with_reducible refine sizeOf' ?_) | (with_reducible refine sizeAdd ?_) | (dsimp only; first | (with_reducible refine sizeOf' ?_) | (with_reducible refine sizeAdd ?_))))

end Go.Proofs.Ytlmgpecfbpcgaaa

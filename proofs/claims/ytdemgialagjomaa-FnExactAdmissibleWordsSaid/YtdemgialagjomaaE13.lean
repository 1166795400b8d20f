/-
  Contracts: whether a list leads to a number, as the program asks.
-/
import Derived.Test.YtdemgialagjomaaE12
namespace Go.Proofs.Ytdemgialagjomaa
open Go.RowKit Go.Shelf
attribute [local go_sem] Oper.semAt_some

/-- The list that begins with f has m. -/
def Leads (x y : Wd) (f m : Nat) : Prop := ∃ i, seqR x y f i = m
theorem seqR_stay {x y : Wd} (h : isSeq x y = true) (f : Nat) {i : Nat} (hz : seqR x y f i = 0) : ∀ j, i ≤ j → seqR x y f j = 0
  | 0, hj => by have : i = 0 := by omega
                subst this; exact hz
  | j + 1, hj => by
    rcases Nat.lt_or_ge i (j + 1) with hlt | hge
    · show rhoN x y (seqR x y f j) = 0
      rw [seqR_stay h f hz j (by omega)]; exact rho_zero h
    · have : i = j + 1 := by omega
      subst this; exact hz
theorem seqR_lt {x y : Wd} (h : isSeq x y = true) (f : Nat) : ∀ i j, i < j → seqR x y f j ≠ 0 → seqR x y f i < seqR x y f j
  | i, 0, hij, _ => absurd hij (by omega)
  | i, j + 1, hij, hz => by
    have h1 : seqR x y f j < seqR x y f (j + 1) := rho_gt hz
    rcases Nat.lt_or_ge i j with hlt | hge
    · have hj : seqR x y f j ≠ 0 := fun e => hz (seqR_stay h f e (j + 1) (by omega))
      exact Nat.lt_trans (seqR_lt h f i j hlt hj) h1
    · have : i = j := by omega
      subst this; exact h1
theorem seqR_ge {x y : Wd} (h : isSeq x y = true) (f : Nat) : ∀ i, seqR x y f i ≠ 0 → f + i ≤ seqR x y f i
  | 0, _ => Nat.le_refl _
  | i + 1, hz => by
    have h1 := seqR_lt h f i (i + 1) (by omega) hz
    have h2 := seqR_ge h f i (fun e => hz (seqR_stay h f e (i + 1) (by omega)))
    omega
/-- The first number that is not less than m tells. -/
theorem leads_at {x y : Wd} (h : isSeq x y = true) {f m k : Nat} (hm : 0 < m) (hz : seqR x y f k ≠ 0) (hlt : ∀ j, j < k → seqR x y f j < m) (hge : m ≤ seqR x y f k) : seqR x y f k = m ↔ Leads x y f m := by
  constructor
  · exact fun e => ⟨k, e⟩
  · rintro ⟨i, hi⟩
    rcases Nat.lt_trichotomy i k with h1 | h1 | h1
    · have := hlt i h1; omega
    · subst h1; exact hi
    · by_cases h0 : seqR x y f i = 0
      · omega
      · have := seqR_lt h f k i h1 h0
        omega
theorem leads_end {x y : Wd} (h : isSeq x y = true) {f m k : Nat} (hm : 0 < m) (hz : seqR x y f k = 0) (hlt : ∀ j, j < k → seqR x y f j < m) : ¬ Leads x y f m := by
  rintro ⟨i, hi⟩
  rcases Nat.lt_or_ge i k with h1 | h1
  · have := hlt i h1; omega
  · have := seqR_stay h f hz i h1; omega

/-- Between two rounds. -/
structure LtI (w : World) (x y : Wd) (f m k : Nat) (W : World) : Prop where
  lt : ∀ j, j < k → seqR x y f j < m ∧ seqR x y f j ≠ 0
  bm : Boxed W (w.heap.size + 1) 2 (.int .i64 (m : Int))
  br : Boxed W (w.heap.size + 1 + 1) 4 (.bool false)
  B : Below w.heap.size w W
def LtX (w : World) (x y : Wd) (f m : Nat) : Code → Nat → World → Prop
  | .ret, _, W => (∃ r : Bool, Boxed W (w.heap.size + 1 + 1) 4 (.bool r) ∧ (r = true ↔ Leads x y f m)) ∧ Below w.heap.size w W
  | _, _, _ => False
theorem LtI.own (w : World) (x y : Wd) (f m D : Nat) (hs : w.heap.size + 1 + 1 < D) : ∀ k X Y r, LtI w x y f m k X → X.grownBy Y r → (∀ b, r = some b → D ≤ b ∧ some b ≠ (none : Option Nat)) → LtI w x y f m k Y ∧ (none : Option Nat) = none :=
  fun k X Y r h hg hr => ⟨⟨h.lt, h.bm.kept hg (fun e => by have := (hr _ e.symm).1; omega), h.br.kept hg (fun e => by have := (hr _ e.symm).1; omega), h.B.grown hg h.B.size (fun b e => by have := (hr b e).1; omega)⟩, rfl⟩
theorem LtX.own (w : World) (x y : Wd) (f m D : Nat) (hs : w.heap.size + 1 + 1 < D) (c : Code) : OwnFrom D (LtX w x y f m c) := by
  intro k X Y r h hg hr
  cases c <;> try exact h.elim
  obtain ⟨⟨q, h1, h2⟩, h3⟩ := h
  exact ⟨⟨q, h1.kept hg (fun e => by have := (hr _ e.symm).1; omega), h2⟩, h3.grown hg h3.size (fun b e => by have := (hr b e).1; omega)⟩

set_option maxRecDepth 100000 in
set_option maxHeartbeats 4000000 in
theorem implLeads (x y : Wd) (g n f m : Nat) (w : World) (h : isSeq x y = true) (hm : ownsT w g n (tabD x y (x.length + y.length))) (hf0 : f ≠ 0) (hf : f ≤ 1000) (hm0 : 0 < m) (hm2 : m ≤ 500) :
    Calls Try.prog 22 #[tabV x y g, .int .i64 (f : Int), .int .i64 (m : Int)] w fun e w' => (∃ r : Bool, e = .returned (.bool r) ∧ Hid (r = true ↔ Leads x y f m)) ∧ Below w.heap.size w w' := by
  have HH := Lib.hid h
  have HL := Lib.hid (fun (Bf Bt : Nat) (w : World) (HT : ItB w Bf Bt g f x y) => listSeq 8 x y Bf Bt g f 600 (by omega) (by omega) hf0 w h HT)
  have HM := Lib.hid hm
  have HG : Hid (g < w.heap.size) := Lib.hid hm.lt
  have hge := Lib.hid (seqR_ge h f)
  clear hm h hf0
  refine (callsIn_wide (n := 9)).1 ?_
  refine callsIn_of_wp_marks Try.func22 rfl trivial ?_ rfl
  simp only [Try.ntmps22, List.size_toArray, List.length_cons, List.length_nil, Nat.reduceAdd, Nat.reduceSub, Array.replicate_succ, Array.replicate_zero, List.push_toArray, List.append_toArray, List.nil_append, List.cons_append]
  gi_wp2_with fail
  refine ⟨trivial, callsIn_wide.2 ((listMake _ _ _ _ _).mono ?_)⟩
  rintro e w2 ⟨rfl, rfl⟩
  gi_wp2
  obtain ⟨wl, hwl⟩ : ∃ wl, (((((w.alloc (.cells #[.string (bs x), .string (bs y), .map (some g)] 39)).alloc (.cells #[.int .i64 (m : Int)] 2)).alloc (.cells #[.bool false] 4)).alloc (.cells #[.string (bs x), .string (bs y), .map (some g)] 39)).alloc (.cells #[.int .i64 (f : Int)] 2)) = wl := ⟨_, rfl⟩
  have hsz : wl.heap.size = w.heap.size + 1 + 1 + 1 + 1 + 1 := by rw [← hwl]; simp
  have start : LtI w x y f m 0 wl := by
    rw [← hwl]
    refine ⟨fun j hj => absurd hj (by omega), ?_, ?_, by (repeat' (first | (with_reducible exact Below.refl _ _) | (with_reducible assumption) | (with_reducible refine belowNext ?_ (by with_reducible assumption)) | (with_reducible refine belowAlloc ?_ _) | (with_reducible refine Below.drew ?_) | (with_reducible refine below_drewN ?_ _) | (with_reducible refine Below.setCell ?_ ?_ _) | go_size | (with_reducible refine sizeOf' ?_) | (with_reducible refine sizeAdd ?_) | (dsimp only; first | (with_reducible refine sizeOf' ?_) | (with_reducible refine sizeAdd ?_))))⟩
    · have := (((Boxed.new (w.alloc (.cells #[.string (bs x), .string (bs y), .map (some g)] 39)) 2 (.int .i64 (m : Int))).alloc (.cells #[.bool false] 4)).alloc (.cells #[.string (bs x), .string (bs y), .map (some g)] 39)).alloc (.cells #[.int .i64 (f : Int)] 2)
      rw [World.size_alloc] at this
      exact this
    · have := ((Boxed.new ((w.alloc (.cells #[.string (bs x), .string (bs y), .map (some g)] 39)).alloc (.cells #[.int .i64 (m : Int)] 2)) 4 (.bool false)).alloc (.cells #[.string (bs x), .string (bs y), .map (some g)] 39)).alloc (.cells #[.int .i64 (f : Int)] 2)
      rw [World.size_alloc, World.size_alloc] at this
      exact this
  have HT : ItB wl (w.heap.size + 1 + 1 + 1 + 1) (w.heap.size + 1 + 1 + 1) g f x y := by
    rw [← hwl]
    exact ⟨by simp, by simp, by simp [go_sem], by simp [go_sem], by simp [go_sem], by simp [go_sem], ⟨n, ((((HM.out.alloc _).alloc _).alloc _).alloc _).alloc _⟩⟩
  rw [hwl]
  clear hwl HM
  refine wpIn_till2 (by omega) (gf := 29) (lb := #[.pointer (some ⟨w.heap.size + 1 + 1 + 1 + 1, 0, none⟩), .pointer (some ⟨w.heap.size + 1 + 1 + 1, 0, none⟩)]) rfl (enters_of Try.func29 (by kernel_rfl) rfl) (HL.out _ _ wl HT) (Below.refl _ _) (fun _ => rfl)
    (fun _ => none) (LtI w x y f m) (LtX w x y f m) (LtI.own w x y f m _ (by omega)) (LtX.own w x y f m _ (by omega))
    (fun k X h => by
      rcases Nat.eq_zero_or_pos k with h0 | h0
      · omega
      · obtain ⟨h1, h2⟩ := h.lt (k - 1) (by omega)
        have := hge.out (k - 1) h2
        omega)
    (fun k X r h hr => by cases hr) (fun k X b _ _ => by simp) start
    (fun k a' W => a' = { tmps := #[tabV x y g, .int .i64 (f : Int), .int .i64 (m : Int), .pointer (some ⟨w.heap.size, 0, none⟩), undef, .pointer (some ⟨w.heap.size + 1, 0, none⟩), .pointer (some ⟨w.heap.size + 1 + 1, 0, none⟩), .int .i64 (seqR x y f k : Int), tabV x y g, .int .i64 (f : Int), .func (.func 29) #[] #[.pointer (some ⟨w.heap.size + 1 + 1 + 1 + 1, 0, none⟩), .pointer (some ⟨w.heap.size + 1 + 1 + 1, 0, none⟩)], .int .i64 (seqR x y f k : Int), undef, undef, undef, undef, undef, undef], defers := [] })
    ?hAx ?assign ?body ?done ?stop
  case hAx =>
    rintro k a' - X Y r h gr hr
    exact h
  case assign =>
    intro l k W K hsW hI hm hK
    gi_wp2
    exact hK _ _ (grown_of_below (Below.refl _ _)) rfl
  case body =>
    rintro l k a' W hl hI hm rfl
    have q0 := hI.bm.cell
    have q1 := hI.br.cell
    have j1 := hI.br.frozen
    have HI := Lib.hid hI
    have HZ := Lib.hid hm
    clear hI HT HL start hm
    by_cases hkm : m ≤ seqR x y f k
    · have d1 : decide ((m : Int) ≤ (seqR x y f k : Int)) = true := decide_eq_true (by omega)
      have d1' : decide ((seqR x y f k : Int) ≥ (m : Int)) = true := d1
      have HE := Lib.hid (leads_at HH.out hm0 HZ.out (fun j hj => (HI.out.lt j hj).1) hkm)
      have HQ : Hid (∃ r : Bool, ((seqR x y f k : Int) == (m : Int)) = r ∧ (r = true ↔ Leads x y f m)) := Lib.hid ⟨_, rfl, by
        rw [← HE.out, beq_iff_eq]; omega⟩
      obtain ⟨r, hr, hrr⟩ := HQ.out
      have HR := Lib.hid hrr
      generalize (seqR x y f k : Int) = S at *
      clear hkm hrr HQ HE
      gi_wp2
      exact ⟨KeepX.of_grown (setGrownQ _ _ _ _) (fun b hb _ e => by
        cases e
        rcases hb with hb | hb
        · omega
        · rcases hb with hb | hb | hb
          · omega
          · omega
          · subst hb
            exact absurd (HG.out) (by omega)), ⟨⟨r, HI.out.br.set _, HR.out⟩, HI.out.B.setCell (by simp; omega) _⟩⟩
    · have d1 : decide ((m : Int) ≤ (seqR x y f k : Int)) = false := decide_eq_false (by omega)
      have d1' : decide ((seqR x y f k : Int) ≥ (m : Int)) = false := d1
      have hlt : seqR x y f k < m := by omega
      have HL2 := Lib.hid hlt
      generalize (seqR x y f k : Int) = S at *
      clear hkm hlt
      gi_wp2
      exact ⟨KeepX.refl _ _ _ _, ⟨fun j hj => by
        by_cases e : j = k
        · rw [e]; exact ⟨HL2.out, HZ.out⟩
        · exact HI.out.lt j (by omega), HI.out.bm, HI.out.br, HI.out.B⟩, .inl rfl⟩
  case done =>
    intro D k W hD hz hI hK
    have HN : Hid (¬ Leads x y f m) := Lib.hid (leads_end HH.out hm0 (Classical.not_not.1 hz) (fun j hj => (hI.lt j hj).1))
    have q1 := hI.br.cell
    have j1 := hI.br.frozen
    have HI := Lib.hid hI
    clear HT HL start hz hI
    gi_wp2
    refine ⟨by simp, .inl ⟨_, _, rfl, run_takeDeferred (b := D) (by rw [Below.heap_setCell _ _ _ _ (by simp; omega)]; exact hK), ?_⟩⟩
    have b0 := ((HI.out.br.set (.bool false)).kept (grownBy_putObj' _ D (.deferred none)) (by intro e; have := Option.some.inj e; omega)).cell
    refine ⟨.bool false, by simp [results, Try.results22, go_sem, b0], ⟨false, rfl, Lib.hid ⟨fun h => (by cases h), fun h => absurd h HN.out⟩⟩, (HI.out.B.setCell (by simp; omega) _).grown (grownBy_putObj' _ D (.deferred none)) (by have := HI.out.B.size; simp; omega) (fun b e => by cases e; omega)⟩
  case stop =>
    intro D c k W hD hx hK
    cases c <;> try exact hx.elim
    case ret =>
      obtain ⟨⟨r, hbr, hr⟩, hB⟩ := hx
      have HR := Lib.hid hr
      have q1 := hbr.cell
      clear HT HL start hr
      gi_wp2
      refine ⟨by simp, .inl ⟨_, _, rfl, run_takeDeferred hK, ?_⟩⟩
      have b0 := (hbr.kept (grownBy_putObj' W D (.deferred none)) (by intro e; have := Option.some.inj e; omega)).cell
      refine ⟨.bool r, by simp [results, Try.results22, go_sem, b0], ⟨r, rfl, HR⟩, hB.grown (grownBy_putObj' W D (.deferred none)) hB.size (fun b e => by cases e; omega)⟩
end Go.Proofs.Ytdemgialagjomaa

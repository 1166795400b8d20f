/-
  Contracts: the first difference of two sequences, as the program finds it; written by genE6.py.
-/
import Derived.Test.YtdemgialagjomaaE5
namespace Go.Proofs.Ytdemgialagjomaa
open Go.RowKit Go.Shelf
attribute [local go_sem] Oper.semAt_some

/-- The first letter in which two sequences differ has the number k. -/
def FirstD (x y a b : Wd) (k : Nat) : Prop := (∀ j, j < k → atL x y j = atL a b j) ∧ atL x y k ≠ atL a b k
theorem first_one {x y a b : Wd} {k k' : Nat} (h : FirstD x y a b k) (h' : FirstD x y a b k') : k = k' := by
  rcases Nat.lt_trichotomy k k' with hl | rfl | hl
  · exact absurd (h'.1 k hl) h.2
  · rfl
  · exact absurd (h.1 k' hl) h'.2
theorem first_ex (f g : Nat → UInt8) : ∀ n, (∃ k, k < n ∧ (∀ j, j < k → f j = g j) ∧ f k ≠ g k) ∨ ∀ j, j < n → f j = g j
  | 0 => .inr (fun j h => absurd h (by omega))
  | n + 1 => by
    rcases first_ex f g n with ⟨k, hk, h⟩ | h
    · exact .inl ⟨k, by omega, h⟩
    · by_cases e : f n = g n
      · refine .inr fun j hj => ?_
        by_cases ej : j = n
        · rw [ej]; exact e
        · exact h j (by omega)
      · exact .inl ⟨n, by omega, h, e⟩
/-- Two sequences are one, or they differ soon. -/
theorem first_of {x y a b : Wd} (h1 : isSeq x y = true) (h2 : isSeq a b = true) : (x = a ∧ y = b) ∨ ∃ k, k < max x.length a.length + y.length * b.length ∧ FirstD x y a b k := by
  rcases first_ex (atL x y) (atL a b) (max x.length a.length + y.length * b.length) with ⟨k, hk, h⟩ | h
  · exact .inr ⟨k, hk, h⟩
  · exact .inl (seq_one h1 h2 (at_far (isSeq_yes h1).2.2.1 (isSeq_yes h2).2.2.1 h))
theorem first_not {x y : Wd} {k : Nat} (h : FirstD x y x y k) : False := h.2 rfl
theorem first_small {x y a b : Wd} (h1 : isSeq x y = true) (h2 : isSeq a b = true) {k : Nat} (hk : k < max x.length a.length + y.length * b.length) : k ≤ 5000 := by
  obtain ⟨-, -, a3, a4, -⟩ := isSeq_yes h1
  obtain ⟨-, -, b3, b4, -⟩ := isSeq_yes h2
  have : y.length * b.length ≤ 64 * 64 := Nat.mul_le_mul (by omega) (by omega)
  omega

/-- The counter's box, between two rounds. -/
structure FdI (w : World) (s k0 k : Nat) (W : World) : Prop where
  le : k ≤ k0
  box : Boxed W s 2 (.int .i64 ((k : Int) + 1))
  B : Below w.heap.size w W
def FdX (w : World) (s k0 : Nat) : Code → Nat → World → Prop
  | .exit i, _, W => i = 0 ∧ Boxed W s 2 (.int .i64 ((k0 : Int) + 1)) ∧ Below w.heap.size w W
  | _, _, _ => False
theorem FdI.own (w : World) (s k0 D : Nat) (hs : s < D) (hw : w.heap.size ≤ D) : ∀ k X Y r, FdI w s k0 k X → X.grownBy Y r → (∀ b, r = some b → D ≤ b ∧ some b ≠ (none : Option Nat)) → FdI w s k0 k Y ∧ (none : Option Nat) = none :=
  fun k X Y r h hg hr => ⟨⟨h.le, h.box.kept hg (fun e => by have := (hr s e.symm).1; omega), h.B.grown hg h.B.size (fun b e => Nat.le_trans hw (hr b e).1)⟩, rfl⟩
theorem FdX.own (w : World) (s k0 D : Nat) (hs : s < D) (hw : w.heap.size ≤ D) (c : Code) : OwnFrom D (FdX w s k0 c) := by
  intro k X Y r h hg hr
  cases c <;> try exact h.elim
  obtain ⟨h1, h2, h3⟩ := h
  exact ⟨h1, h2.kept hg (fun e => by have := (hr s e.symm).1; omega), h3.grown hg h3.size (fun b e => Nat.le_trans hw (hr b e).1)⟩

set_option maxRecDepth 100000 in
set_option maxHeartbeats 4000000 in
theorem implFirst (x y a b : Wd) (w : World) (k0 : Nat) (h1 : 0 < y.length) (h2 : x.length + y.length ≤ 64) (h3 : 0 < b.length) (h4 : a.length + b.length ≤ 64) (hF : FirstD x y a b k0) (_ : k0 ≤ 5000) :
    Calls Try.prog 21 #[sqV x y, sqV a b] w fun e w' => e = .returned (.int .i64 ((k0 : Int) + 1)) ∧ Below w.heap.size w w' := by
  have HF := Lib.hid hF
  have HP := Lib.hid (fun (Bs Bt N : Nat) (hN : N ≤ 1000000) (w : World) (HT : TwoB w Bs Bt x y a b) => pairSeq 8 x y a b Bs Bt N hN w h1 h2 h3 h4 HT)
  clear hF h1 h2 h3 h4
  refine (callsIn_wide (n := 9)).1 ?_
  refine callsIn_of_wp_marks Try.func21 rfl trivial ?_ rfl
  simp only [Try.ntmps21, List.size_toArray, List.length_cons, List.length_nil, Nat.reduceAdd, Nat.reduceSub, Array.replicate_succ, Array.replicate_zero, List.push_toArray, List.append_toArray, List.nil_append, List.cons_append]
  gi_wp2_with fail
  refine ⟨trivial, callsIn_wide.2 ((pairMake _ _ _ _ _).mono ?_)⟩
  rintro e w2 ⟨rfl, rfl⟩
  gi_wp2
  obtain ⟨wl, hwl⟩ : ∃ wl, (((((w.alloc (.cells #[.string (bs x), .string (bs y)] 32)).alloc (.cells #[.string (bs a), .string (bs b)] 32)).alloc (.cells #[.int .i64 1] 2)).alloc (.cells #[.string (bs x), .string (bs y)] 32)).alloc (.cells #[.string (bs a), .string (bs b)] 32)) = wl := ⟨_, rfl⟩
  have hsz : wl.heap.size = w.heap.size + 1 + 1 + 1 + 1 + 1 := by rw [← hwl]; simp
  have start : FdI w (w.heap.size + 1 + 1) k0 0 wl := by
    rw [← hwl]
    refine ⟨by omega, ?_, by (repeat' (first | (with_reducible exact Below.refl _ _) | (with_reducible assumption) | (with_reducible refine belowNext ?_ (by with_reducible assumption)) | (with_reducible refine belowAlloc ?_ _) | (with_reducible refine Below.drew ?_) | (with_reducible refine below_drewN ?_ _) | (with_reducible refine Below.setCell ?_ ?_ _) | go_size | (with_reducible refine sizeOf' ?_) | (with_reducible refine sizeAdd ?_) | (dsimp only; first | (with_reducible refine sizeOf' ?_) | (with_reducible refine sizeAdd ?_))))⟩
    have := ((Boxed.new ((w.alloc (.cells #[.string (bs x), .string (bs y)] 32)).alloc (.cells #[.string (bs a), .string (bs b)] 32)) 2 (.int .i64 1)).alloc (.cells #[.string (bs x), .string (bs y)] 32)).alloc (.cells #[.string (bs a), .string (bs b)] 32)
    rw [World.size_alloc, World.size_alloc] at this
    exact this
  have HT : TwoB wl (w.heap.size + 1 + 1 + 1) (w.heap.size + 1 + 1 + 1 + 1) x y a b := by
    rw [← hwl]
    exact ⟨by simp, by simp, by simp [go_sem], by simp [go_sem], by simp [go_sem], by simp [go_sem]⟩
  rw [hwl]
  clear hwl
  refine wpIn_till2 (by omega) (gf := 27) (lb := #[.pointer (some ⟨w.heap.size + 1 + 1 + 1, 0, none⟩), .pointer (some ⟨w.heap.size + 1 + 1 + 1 + 1, 0, none⟩)]) rfl (enters_of Try.func27 (by kernel_rfl) rfl) (HP.out _ _ 6000 (by omega) wl HT) (Below.refl _ _) (fun _ => rfl)
    (fun _ => none) (FdI w (w.heap.size + 1 + 1) k0) (FdX w (w.heap.size + 1 + 1) k0) (FdI.own w _ k0 _ (by omega) (by omega)) (FdX.own w _ k0 _ (by omega) (by omega)) (fun k X h => by have := h.le; omega) (fun k X r h hr => by cases hr) (fun k X b _ _ => by simp) start
    (fun k a' W => a' = { tmps := #[sqV x y, sqV a b, .pointer (some ⟨w.heap.size, 0, none⟩), .pointer (some ⟨w.heap.size + 1, 0, none⟩), .int .i64 0, .pointer (some ⟨w.heap.size + 1 + 1, 0, none⟩), .int .u8 ((atL x y k).toNat : Int), .int .u8 ((atL a b k).toNat : Int), sqV x y, sqV a b, .func (.func 27) #[] #[.pointer (some ⟨w.heap.size + 1 + 1 + 1, 0, none⟩), .pointer (some ⟨w.heap.size + 1 + 1 + 1 + 1, 0, none⟩)], .int .u8 ((atL x y k).toNat : Int), .int .u8 ((atL a b k).toNat : Int), undef, undef, undef, undef, undef, undef], defers := [] })
    ?hAx ?assign ?body ?done ?stop
  case hAx =>
    rintro k a' - X Y r h gr hr
    exact h
  case assign =>
    intro l k W K hsW hI hm hK
    gi_wp2
    exact hK _ _ (grown_of_below (Below.refl _ _)) rfl
  case body =>
    rintro l k a' W hl hI hm rfl
    have w1 : IntKind.i64.wrap ((k : Int) + 1 + 1) = (k : Int) + 1 + 1 := IntWalk.i64_in _ (by have := hI.le; omega)
    have q0 := hI.box.cell
    have j0 := hI.box.frozen
    have HI := Lib.hid hI
    clear hI HT HP start
    by_cases hkk : k = k0
    · have hne : (((atL x y k).toNat : Int) == ((atL a b k).toNat : Int)) = false := by
        rw [byte_eq]
        exact beq_eq_false_iff_ne.2 (by rw [hkk]; exact HF.out.2)
      subst hkk
      generalize ((atL x y k).toNat : Int) = L1 at *
      generalize ((atL a b k).toNat : Int) = L2 at *
      gi_wp2
      exact ⟨KeepX.refl _ _ _ _, rfl, HI.out.box, HI.out.B⟩
    · have hlt : k < k0 := by have := HI.out.le; omega
      have heq : (((atL x y k).toNat : Int)) = ((atL a b k).toNat : Int) := by rw [HF.out.1 k hlt]
      rw [heq]
      generalize ((atL a b k).toNat : Int) = L2 at *
      clear heq
      gi_wp2
      refine ⟨KeepX.of_grown (setGrownQ _ _ _ _) (fun b hb _ e => ?_), ⟨by omega, ?_, HI.out.B.setCell (by simp; omega) _⟩, .inl rfl⟩
      · cases e
        rcases hb with hb | hb
        · omega
        · rcases hb with hb | hb <;> omega
      · have := HI.out.box.set (.int .i64 ((k : Int) + 1 + 1))
        rw [show (((k + 1 : Nat) : Int) + 1) = (k : Int) + 1 + 1 by omega]
        exact this
  case done =>
    intro D k W _ h
    exact absurd trivial h
  case stop =>
    intro D c k W hD hx hK
    cases c <;> try exact hx.elim
    case exit i =>
      obtain ⟨rfl, hbx, hB⟩ := hx
      have q0 := hbx.cell
      clear HT HP start hbx
      gi_wp2
      refine ⟨by simp, .inl ⟨_, _, rfl, run_takeDeferred hK, ?_⟩⟩
      refine ⟨.int .i64 ((k0 : Int) + 1), by simp [results, Try.results21, go_sem], rfl, hB.grown (grownBy_putObj' W D (.deferred none)) hB.size (fun b e => by cases e; omega)⟩
end Go.Proofs.Ytdemgialagjomaa

/-
  Contracts: whether a list has a number; whether a sequence fails for m, on both sides; written by genE15.py.
-/
import Derived.Test.YtdemgialagjomaaE14
namespace Go.Proofs.Ytdemgialagjomaa
open Go.RowKit

/-- An answer that is yes just when P holds. -/
def YesOf (e : Ending) (P : Prop) : Prop := ∃ r : Bool, e = .returned (.bool r) ∧ Hid (r = true ↔ P)
theorem YesOf.mk {P : Prop} {e : Ending} (r : Bool) (he : e = .returned (.bool r)) (h : Hid (r = true ↔ P)) : YesOf e P := ⟨r, he, h⟩

set_option maxHeartbeats 1000000 in
theorem specHas (A : Option Addr) (len cap : Nat) (l : List Int) (m : Int) (w : World) (hr : IntRow w w.heap.size A l) (hl : l.length = len) (hm : len ≤ 1000000) :
    Calls Try.prog 17 #[.slice A len cap, .int .i64 m] w fun e w' => YesOf e (m ∈ l) ∧ Below w.heap.size w w' := by
  have HR := Lib.hid hr
  have HL := Lib.hid hl
  clear hr hl
  go_enter Try.func17, Try.ntmps17
  go_wp2
  go_loopw [5] (fun i wr => ∃ k : Nat, k ≤ len ∧ i = .int .i64 k ∧ Hid (∀ j : Nat, j < k → l[j]? ≠ some m) ∧ Below w.heap.size w wr) (fun i _ => len - (intOf i).toNat)
  case atStart => exact ⟨0, by omega, rfl, Lib.hid (fun j h => absurd h (by omega)), Below.refl _ _⟩
  case round =>
    obtain ⟨k, hk, rfl, HN, HB⟩ := hrel
    by_cases hlt : k < len
    · have hkl : k < l.length := by have := HL.out; omega
      obtain ⟨n, hn⟩ : ∃ n, l[k] = n := ⟨_, rfl⟩
      have hk2 : l[k]? = some n := by rw [List.getElem?_eq_getElem hkl, hn]
      have hne : l ≠ [] := by intro h; rw [h] at hkl; simp at hkl
      obtain ⟨b, off, rfl, hbb, hcells⟩ := HR.out hne
      have x0 : wr.cell? ⟨b, off + k, none⟩ = some (.int .i64 n) := (HB.cell (p := ⟨b, _, none⟩) hbb).trans (hcells k n hk2)
      have d1 : decide ((k : Int) < (len : Int)) = true := decide_eq_true (by omega)
      have d1n : decide (k < len) = true := decide_eq_true hlt
      have HK2 := Lib.hid hk2
      clear hn hcells hk2 hne
      by_cases he : n = m
      · subst he
        have HE : Hid (n ∈ l) := Lib.hid (List.mem_of_getElem? HK2.out)
        go_wp2
        go_ret
        exact ⟨.mk true rfl (Lib.hid ⟨fun _ => HE.out, fun _ => rfl⟩), HB⟩
      · have hb : (n == m) = false := beq_eq_false_iff_ne.2 he
        have HN' : Hid (∀ j : Nat, j < k + 1 → l[j]? ≠ some m) := Lib.hid (fun j hj e => by
          by_cases ejk : j = k
          · rw [ejk, HK2.out] at e; cases e; exact he rfl
          · exact HN.out j (by omega) e)
        go_wp2
        go_roundw
        case rel => exact ⟨k + 1, by omega, by go_num, HN', HB⟩
        case measure => simp [intOf]; omega
    · obtain rfl : k = len := by omega
      have HE : Hid (false = true ↔ m ∈ l) := Lib.hid ⟨fun h => (by cases h), fun h => by
        obtain ⟨j, hj⟩ := List.mem_iff_getElem?.1 h
        rcases Nat.lt_or_ge j k with h1 | h1
        · exact absurd hj (HN.out j h1)
        · rw [List.getElem?_eq_none (by have := HL.out; omega)] at hj; cases hj⟩
      go_wp2
      go_ret
      exact ⟨.mk false rfl HE, HB⟩

/-- A list along rho has m just when rho leads to m. -/
theorem along_leads {x y : Wd} (h : isSeq x y = true) {f n m c : Nat} (hm0 : 0 < m) (hmn : m ≤ n) (hc : CntIs x y f (n + 1) c) : (m : Int) ∈ numsI (firstR x y f c) ↔ Leads x y f m := by
  obtain ⟨-, hz, he⟩ := hc
  unfold numsI firstR
  simp only [List.map_map, List.mem_map, List.mem_range, Function.comp]
  constructor
  · rintro ⟨i, hi, e⟩
    exact ⟨i, by omega⟩
  · rintro ⟨i, hi⟩
    refine ⟨i, ?_, by rw [hi]⟩
    rcases Nat.lt_or_ge i c with h1 | h1
    · exact h1
    · rcases he with he | he
      · have := seqR_ge h f i (by omega); omega
      · have := seqR_stay h f he i h1; omega
/-- Whether a sequence fails for m. -/
def FailsN (x y : Wd) (m : Nat) : Prop := ¬ Leads x y 1 m ∧ (∀ k, 1 ≤ k → k < m → m % k = 0 → rhoN x y k ≤ m) ∧ Leads x y ((rhoN x y m - 1) % m + 1) m
theorem tmodN (a b : Nat) : (a : Int).tmod (b : Int) = ((a % b : Nat) : Int) := by rw [Int.tmod_eq_emod_of_nonneg (by omega)]; rfl
theorem ownsT_on {W W1 : World} {g : Nat} {x y : Wd} (h : ∃ n, ownsT W g n (tabD x y (x.length + y.length))) (hb : Below W.heap.size W W1) : ∃ n, ownsT W1 g n (tabD x y (x.length + y.length)) := by
  obtain ⟨n, hm⟩ := h
  exact ⟨n, hm.kept (belowGQ hb) (by simp)⟩
theorem ownsT_drew {W : World} {g : Nat} {x y : Wd} (h : ∃ n, ownsT W g n (tabD x y (x.length + y.length))) : ∃ n, ownsT W.drew g n (tabD x y (x.length + y.length)) := by
  obtain ⟨n, hm⟩ := h
  exact ⟨n, hm.drew⟩
theorem fails_round {x y : Wd} {m k : Nat} (h : ∀ j, 1 ≤ j → j < k → m % j = 0 → rhoN x y j ≤ m) (hk : m % k = 0 → rhoN x y k ≤ m) : ∀ j, 1 ≤ j → j < k + 1 → m % j = 0 → rhoN x y j ≤ m := by
  intro j h1 h2
  by_cases e : j = k
  · rw [e]; exact hk
  · exact h j h1 (by omega)

set_option maxRecDepth 8000 in
set_option maxHeartbeats 4000000 in
theorem implFails (x y : Wd) (g m : Nat) (w : World) (h : isSeq x y = true) (hm : ∃ n, ownsT w g n (tabD x y (x.length + y.length))) (hm0 : 0 < m) (hm2 : m ≤ 64) (hok : ∀ k, 1 ≤ k → k ≤ m → rhoN x y k ≠ 0) :
    Calls Try.prog 16 #[tabV x y g, .int .i64 (m : Int)] w fun e w' => YesOf e (FailsN x y m) ∧ Below w.heap.size w w' := by
  have HL1 : Hid (∀ W, (∃ n, ownsT W g n (tabD x y (x.length + y.length))) → Calls Try.prog 22 #[tabV x y g, .int .i64 1, .int .i64 (m : Int)] W fun e w' => (∃ r : Bool, e = .returned (.bool r) ∧ Hid (r = true ↔ Leads x y 1 m)) ∧ Below W.heap.size W w') := Lib.hid (fun W hW => by
    obtain ⟨n, hW⟩ := hW
    exact implLeads x y g n 1 m W h hW (by omega) (by omega) hm0 (by omega))
  have HL : Hid (∀ (f : Nat) W, f ≠ 0 → f ≤ 1000 → (∃ n, ownsT W g n (tabD x y (x.length + y.length))) → Calls Try.prog 22 #[tabV x y g, .int .i64 (f : Int), .int .i64 (m : Int)] W fun e w' => (∃ r : Bool, e = .returned (.bool r) ∧ Hid (r = true ↔ Leads x y f m)) ∧ Below W.heap.size W w') := Lib.hid (fun f W hf0 hf hW => by
    obtain ⟨n, hW⟩ := hW
    exact implLeads x y g n f m W h hW hf0 hf hm0 (by omega))
  have HR : Hid (∀ (k : Nat) W, k ≤ 1000 → (∃ n, ownsT W g n (tabD x y (x.length + y.length))) → Calls Try.prog 23 #[tabV x y g, .int .i64 (k : Int)] W fun e w' => e = .returned (.tuple #[.int .i64 (rhoN x y k : Int), .bool (!(shQ k x y == (x, y)))]) ∧ Below W.heap.size W w') := Lib.hid (fun k W hk hW => by
    obtain ⟨n, hW⟩ := hW
    exact implRho x y g n k W h hW (by omega))
  have HOK := Lib.hid hok
  have HRle := Lib.hid (rho_le h)
  have M0 : Hid (∃ n, ownsT (w.alloc (.cells #[.string (bs x), .string (bs y), .map (some g)] 39)) g n (tabD x y (x.length + y.length))) := Lib.hid (by obtain ⟨n, hn⟩ := hm; exact ⟨n, hn.alloc _⟩)
  have R0 := rhs0 w x y g
  clear h hm hok
  go_enter Try.func16, Try.ntmps16
  go_wp2_with fail
  refine (HL1.out _ M0.out).mono ?_
  rintro e w1 ⟨⟨r, rfl, HLe⟩, hb1⟩
  have R1 := R0.on hb1
  have M1 := Lib.hid (ownsT_on M0.out hb1)
  clear HL1 M0 R0 hb1
  cases r with
  | true =>
    have HE : Hid (false = true ↔ FailsN x y m) := Lib.hid ⟨fun h => (by cases h), fun h => absurd (HLe.out.1 rfl) h.1⟩
    go_wp2
    go_ret
    exact ⟨.mk false rfl HE, R1.B⟩
  | false =>
  have HNL : Hid (¬ Leads x y 1 m) := Lib.hid (fun h => by have := HLe.out.2 h; cases this)
  clear HLe
  go_wp2
  go_loopw [5] (fun s wr => ∃ k : Nat, 1 ≤ k ∧ k ≤ m ∧ s = .int .i64 (k : Int) ∧ Hid (∀ j, 1 ≤ j → j < k → m % j = 0 → rhoN x y j ≤ m) ∧ Hid (∃ n, ownsT wr g n (tabD x y (x.length + y.length))) ∧ RhS w x y g wr) (fun s _ => m - (intOf s).toNat)
  case atStart => exact ⟨1, by omega, by omega, rfl, Lib.hid (fun j h1 h2 => absurd h1 (by omega)), M1, R1⟩
  case round =>
    clear M1 R1
    obtain ⟨k, hk1, hkm, rfl, HN, HM, S⟩ := hrel
    obtain ⟨c0', c1', c2'⟩ := And.intro S.c0 (And.intro S.c1 S.c2)
    by_cases hlt : k < m
    · have d1 : decide ((k : Int) < (m : Int)) = true := decide_eq_true (by omega)
      have d1n : decide (k < m) = true := decide_eq_true hlt
      have d1p : (k < m) = True := eq_true hlt
      have hk0 : ¬ (k : Int) = 0 := by omega
      have hkn : ¬ k = 0 := by omega
      have ht := tmodN m k
      have HRk := Lib.hid (fun W hW => HR.out k W (by omega) hW)
      have HKeep : Hid (m % k = 0 → rhoN x y k ≤ m → ∀ j, 1 ≤ j → j < k + 1 → m % j = 0 → rhoN x y j ≤ m) := Lib.hid (fun _ h2 => fails_round HN.out (fun _ => h2))
      have HKeep0 : Hid (m % k ≠ 0 → ∀ j, 1 ≤ j → j < k + 1 → m % j = 0 → rhoN x y j ≤ m) := Lib.hid (fun h1 => fails_round HN.out (fun h2 => absurd h2 h1))
      have HFal : Hid (m % k = 0 → ¬ rhoN x y k ≤ m → (false = true ↔ FailsN x y m)) := Lib.hid (fun h1 h2 => ⟨fun h => (by cases h), fun h => absurd (h.2.1 k hk1 hlt h1) h2⟩)
      generalize (!(shQ k x y == (x, y))) = fb at *
      generalize rhoN x y k = K at *
      clear HN
      go_wp2_with fail
      refine (HRk.out _ HM.out).mono ?_
      rintro e w2 ⟨rfl, hb2⟩
      have S2 := S.on hb2
      have HM2 := Lib.hid (ownsT_on HM.out hb2)
      clear S HM c0' c1' c2' hb2 HRk
      by_cases hR : m % k = 0
      · have e0 : (m : Int).tmod (k : Int) = 0 := by rw [ht, hR]; rfl
        by_cases hgt : K ≤ m
        · have d2 : decide ((K : Int) > (m : Int)) = false := decide_eq_false (by omega)
          have d2' : decide ((m : Int) < (K : Int)) = false := d2
          have d2n : decide (m < K) = false := decide_eq_false (by omega)
          have d2p : (m < K) = False := eq_false (by omega)
          have HN' := Lib.hid (HKeep.out hR hgt)
          clear ht
          go_wp2
          go_roundw
          case rel => exact ⟨k + 1, by omega, by omega, by go_num, HN', HM2, S2⟩
          case measure => simp [intOf]; omega
        · have d2 : decide ((K : Int) > (m : Int)) = true := decide_eq_true (by omega)
          have d2' : decide ((m : Int) < (K : Int)) = true := d2
          have d2n : decide (m < K) = true := decide_eq_true (by omega)
          have d2p : (m < K) = True := eq_true (by omega)
          have HE := Lib.hid (HFal.out hR hgt)
          clear ht
          go_wp2
          go_ret
          exact ⟨.mk false rfl HE, S2.B⟩
      · have hRI : (((m % k : Nat) : Int) == 0) = false := beq_eq_false_iff_ne.2 (by omega)
        have hRp : ((m % k : Nat) : Int) ≠ 0 := by omega
        have HN' := Lib.hid (HKeep0.out hR)
        generalize ((m % k : Nat) : Int) = R at *
        go_wp2
        go_roundw
        case rel => exact ⟨k + 1, by omega, by omega, by go_num, HN', HM2, S2⟩
        case measure => simp [intOf]; omega
    · obtain rfl : k = m := by omega
      have HRk := Lib.hid (fun W hW => HR.out k W (by omega) hW)
      have hrk := HOK.out k (by omega) (by omega)
      have hrle := HRle.out k
      have HLf := Lib.hid (fun W hW => HL.out ((rhoN x y k - 1) % k + 1) W (by omega) (by have := Nat.mod_lt (rhoN x y k - 1) (show 0 < k by omega); omega) hW)
      have HE : Hid (∀ r : Bool, (r = true ↔ Leads x y ((rhoN x y k - 1) % k + 1) k) → (r = true ↔ FailsN x y k)) := Lib.hid (fun r hr => hr.trans ⟨fun h => ⟨HNL.out, HN.out, h⟩, fun h => h.2.2⟩)
      obtain ⟨f, hf⟩ : ∃ f, (rhoN x y k - 1) % k + 1 = f := ⟨_, rfl⟩
      have hflt : f ≤ k := by have := Nat.mod_lt (rhoN x y k - 1) (show 0 < k by omega); omega
      have v1 : IntKind.i64.wrap ((rhoN x y k : Int) - 1) = ((rhoN x y k - 1 : Nat) : Int) := by rw [IntWalk.i64_in _ (by omega)]; omega
      have v2 := tmodN (rhoN x y k - 1) k
      have v3 : IntKind.i64.wrap ((((rhoN x y k - 1) % k : Nat) : Int) + 1) = (f : Int) := by rw [IntWalk.i64_in _ (by omega)]; omega
      have hk0 : ¬ (k : Int) = 0 := by omega
      have hkn : ¬ k = 0 := by omega
      rw [hf] at HLf HE
      generalize (((rhoN x y k - 1) % k : Nat) : Int) = R at *
      generalize ((rhoN x y k - 1 : Nat) : Int) = P at *
      generalize (!(shQ k x y == (x, y))) = fb at *
      generalize rhoN x y k = K at *
      clear HN HNL hrk hrle hf
      go_wp2_with fail
      refine (HRk.out _ HM.out).mono ?_
      rintro e w2 ⟨rfl, hb2⟩
      have S2 := S.on hb2
      have HM2 := Lib.hid (ownsT_on HM.out hb2)
      clear S HM c0' c1' c2' hb2 HRk
      go_wp2_with fail
      refine wp_region_held_drew (S := (RhS w x y g)) (by kernel_rfl) ?_ (fun hHeld => ?_)
      · exact S2.on (Below.refl _ _).drew
      refine wpAnyH_take (i := 0) (v := ?_) rfl (by kernel_rfl) (by kernel_rfl) (by kernel_rfl) (fun _ _ _ h => h) (Or.inl ⟨by kernel_rfl, ?_⟩) hHeld ?_
      rotate_left
      · intro w hSw; obtain ⟨B, z, c0, c1, c2⟩ := hSw; first | (go_simp; done) | (go_simp; with_reducible rfl)
      refine wpAnyH_take (i := 1) (v := ?_) rfl (by kernel_rfl) (by kernel_rfl) (by kernel_rfl) (fun _ _ _ h => h) (Or.inl ⟨by kernel_rfl, ?_⟩) hHeld ?_
      rotate_left
      · intro w hSw; obtain ⟨B, z, c0, c1, c2⟩ := hSw; first | (go_simp; done) | (go_simp; with_reducible rfl)
      refine wpAnyH_take (i := 2) (v := ?_) rfl (by kernel_rfl) (by kernel_rfl) (by kernel_rfl) (fun _ _ _ h => h) (Or.inl ⟨by kernel_rfl, ?_⟩) hHeld ?_
      rotate_left
      · intro w hSw; obtain ⟨B, z, c0, c1, c2⟩ := hSw; first | (go_simp; done) | (go_simp; with_reducible rfl)
      refine wpAnyH_take (i := 3) (v := ?_) rfl (by kernel_rfl) (by kernel_rfl) (by kernel_rfl) (fun _ _ _ h => h) (Or.inl ⟨by kernel_rfl, ?_⟩) hHeld ?_
      rotate_left
      · intro w hSw; obtain ⟨B, z, c0, c1, c2⟩ := hSw; first | (go_simp; done) | (go_simp; with_reducible rfl)
      refine wpAnyH_take (i := 4) (v := ?_) rfl (by kernel_rfl) (by kernel_rfl) (by kernel_rfl) (fun _ _ _ h => h) (Or.inl ⟨by kernel_rfl, ?_⟩) hHeld ?_
      rotate_left
      · intro w hSw; obtain ⟨B, z, c0, c1, c2⟩ := hSw; first | (go_simp; done) | (go_simp; with_reducible rfl)
      refine wpAnyH_take (i := 5) (v := ?_) rfl (by kernel_rfl) (by kernel_rfl) (by kernel_rfl) (fun _ _ _ h => h) (Or.inl ⟨by kernel_rfl, ?_⟩) hHeld ?_
      rotate_left
      · intro w hSw; obtain ⟨B, z, c0, c1, c2⟩ := hSw; first | (go_simp; done) | (go_simp; with_reducible rfl)
      refine wpAnyH_take (i := 6) (v := ?_) rfl (by kernel_rfl) (by kernel_rfl) (by kernel_rfl) (fun _ _ _ h => h) (Or.inl ⟨by kernel_rfl, ?_⟩) hHeld ?_
      rotate_left
      · intro w hSw; obtain ⟨B, z, c0, c1, c2⟩ := hSw; first | (go_simp; done) | (go_simp; with_reducible rfl)
      refine wpAnyH_ready (rs := [7]) (by kernel_rfl) (by simp) ?_
      refine AllReadyH.cons rfl (fun K hK => ?_) AllReadyH.nil
      go_simp
      go_wp2_with (go_at_call 22; (with_reducible refine (HLf.out _ (ownsT_drew HM2.out)).mono ?_); rintro e w4 ⟨⟨r, rfl, HLr⟩, hb4⟩)
      have S4 := hHeld.on hb4
      refine hK.out _ _ ?_ (fun hHeld => ?_)
      · exact S4
      clear hK K
      refine wpAnyH_take (i := 8) (v := ?_) rfl (by kernel_rfl) (by kernel_rfl) (by kernel_rfl) (fun _ _ _ h => h) (Or.inl ⟨by kernel_rfl, ?_⟩) hHeld ?_
      rotate_left
      · intro w hSw; obtain ⟨B, z, c0, c1, c2⟩ := hSw; first | (go_simp; done) | (go_simp; with_reducible rfl)
      refine wpAnyH_done (by kernel_rfl) ?_ _
      go_wp2
      go_ret
      exact ⟨.mk r rfl (Lib.hid (HE.out r HLr.out)), S4.B⟩

set_option maxRecDepth 8000 in
set_option maxHeartbeats 4000000 in
theorem specFails (x y : Wd) (m : Nat) (w : World) (h : isSeq x y = true) (hm0 : 0 < m) (hmn : m ≤ y.length) (hok : ∀ k, 1 ≤ k → k ≤ m → rhoN x y k ≠ 0) :
    Calls Try.prog 14 #[sqV x y, .int .i64 (m : Int)] w fun e w' => YesOf e (FailsN x y m) ∧ Below w.heap.size w w' := by
  obtain ⟨-, -, hy, h64, -⟩ := isSeq_yes h
  obtain ⟨n, hn⟩ : ∃ n, y.length = n := ⟨_, rfl⟩
  have hly := fun W => lenS 9 3 y Try.underlying9 W
  have HA : Hid (∀ (f : Nat) W, f ≤ 1000 → Calls Try.prog 18 #[sqV x y, .int .i64 (f : Int), .int .i64 ((n + 1 : Nat) : Int)] W fun e w' => (∃ c A cap, e = .returned (.slice A c cap) ∧ Hid (CntIs x y f (n + 1) c) ∧ ownsI w' W.heap.size (.slice A (firstR x y f c).length cap) (firstR x y f c)) ∧ Below W.heap.size W w') := Lib.hid (fun f W hf => specAlong x y f (n + 1) W h hf (by omega))
  have HA1 : Hid (∀ W, Calls Try.prog 18 #[sqV x y, .int .i64 1, .int .i64 ((n + 1 : Nat) : Int)] W fun e w' => (∃ c A cap, e = .returned (.slice A c cap) ∧ Hid (CntIs x y 1 (n + 1) c) ∧ ownsI w' W.heap.size (.slice A (firstR x y 1 c).length cap) (firstR x y 1 c)) ∧ Below W.heap.size W w') := Lib.hid (fun W => HA.out 1 W (by omega))
  have HC : Hid (∀ f c, CntIs x y f (n + 1) c → ((m : Int) ∈ numsI (firstR x y f c) ↔ Leads x y f m)) := Lib.hid (fun f c hc => along_leads h hm0 (by omega) hc)
  have HR := Lib.hid (fun (k : Nat) (hk : k ≤ 900000) w => specRho x y k w h hk)
  have HOK := Lib.hid hok
  have HRle := Lib.hid (rho_le h)
  have S0 := sqs0 w x y 32
  have wn : IntKind.i64.wrap ((n : Int) + 1) = ((n + 1 : Nat) : Int) := by rw [IntWalk.i64_in _ (by omega)]; omega
  rw [hn] at hly hmn h64
  clear h hok hy hn
  obtain ⟨N1, hN1⟩ : ∃ N1, ((n + 1 : Nat) : Int) = N1 := ⟨_, rfl⟩
  rw [hN1] at HA HA1 wn
  clear hN1
  go_enter Try.func14, Try.ntmps14
  go_wp2_with fail
  refine (HA1.out _).mono ?_
  rintro e w1 ⟨⟨c, A, cap, rfl, Hc, O1⟩, hb1⟩
  have hcl := firstR_len x y 1 c
  have HH := Lib.hid (fun (W : World) (hW : IntRow W W.heap.size A (numsI (firstR x y 1 c))) => specHas A c cap (numsI (firstR x y 1 c)) (m : Int) W hW (by rw [numsI_len, hcl]) (by have := Hc.out.1; omega))
  have HI := Lib.hid (ownI_of O1).row
  have S1 := S0.on hb1
  have HCl := Lib.hid (HC.out 1 c Hc.out)
  clear HA1 S0 hb1 O1 hcl Hc
  go_wp2_with fail
  refine (HH.out _ HI.out).mono ?_
  rintro e w2 ⟨⟨r, rfl, Hr⟩, hb2⟩
  have S2 := S1.on hb2
  have HLe := Lib.hid (Hr.out.trans HCl.out)
  clear HH HI S1 hb2 HCl Hr
  cases r with
  | true =>
    have HE : Hid (false = true ↔ FailsN x y m) := Lib.hid ⟨fun h => (by cases h), fun h => absurd (HLe.out.1 rfl) h.1⟩
    go_wp2
    go_ret
    exact ⟨.mk false rfl HE, S2.B⟩
  | false =>
  have HNL : Hid (¬ Leads x y 1 m) := Lib.hid (fun h => by have := HLe.out.2 h; cases this)
  clear HLe
  go_wp2
  go_loopw [6] (fun s wr => ∃ k : Nat, 1 ≤ k ∧ k ≤ m ∧ s = .int .i64 (k : Int) ∧ Hid (∀ j, 1 ≤ j → j < k → m % j = 0 → rhoN x y j ≤ m) ∧ SqS w x y wr) (fun s _ => m - (intOf s).toNat)
  case atStart => exact ⟨1, by omega, by omega, rfl, Lib.hid (fun j h1 h2 => absurd h1 (by omega)), S2⟩
  case round =>
    clear S2
    obtain ⟨k, hk1, hkm, rfl, HN, S⟩ := hrel
    obtain ⟨c0', c1'⟩ := And.intro S.c0 S.c1
    by_cases hlt : k < m
    · have d1 : decide ((k : Int) < (m : Int)) = true := decide_eq_true (by omega)
      have d1n : decide (k < m) = true := decide_eq_true hlt
      have d1p : (k < m) = True := eq_true hlt
      have hk0 : ¬ (k : Int) = 0 := by omega
      have hkn : ¬ k = 0 := by omega
      have ht := tmodN m k
      have HRk := Lib.hid (fun W => HR.out k (by omega) W)
      have hK0 := HOK.out k hk1 (by omega)
      have HKeep : Hid (m % k = 0 → rhoN x y k ≤ m → ∀ j, 1 ≤ j → j < k + 1 → m % j = 0 → rhoN x y j ≤ m) := Lib.hid (fun _ h2 => fails_round HN.out (fun _ => h2))
      have HKeep0 : Hid (m % k ≠ 0 → ∀ j, 1 ≤ j → j < k + 1 → m % j = 0 → rhoN x y j ≤ m) := Lib.hid (fun h1 => fails_round HN.out (fun h2 => absurd h2 h1))
      have HFal : Hid (m % k = 0 → ¬ rhoN x y k ≤ m → (false = true ↔ FailsN x y m)) := Lib.hid (fun h1 h2 => ⟨fun h => (by cases h), fun h => absurd (h.2.1 k hk1 hlt h1) h2⟩)
      generalize rhoN x y k = K at *
      clear HN
      go_wp2_with fail
      refine (HRk.out _).mono ?_
      rintro e w2 ⟨rfl, hb2⟩
      have S2 := S.on hb2
      clear S c0' c1' hb2 HRk
      by_cases hR : m % k = 0
      · have e0 : (m : Int).tmod (k : Int) = 0 := by rw [ht, hR]; rfl
        have z0 : ((K : Int) == 0) = false := beq_eq_false_iff_ne.2 (by omega)
        have z1 : ¬ K = 0 := hK0
        by_cases hgt : K ≤ m
        · have d2 : decide ((K : Int) > (m : Int)) = false := decide_eq_false (by omega)
          have d2' : decide ((m : Int) < (K : Int)) = false := d2
          have d2n : decide (m < K) = false := decide_eq_false (by omega)
          have d2p : (m < K) = False := eq_false (by omega)
          have HN' := Lib.hid (HKeep.out hR hgt)
          clear ht
          go_wp2
          go_roundw
          case rel => exact ⟨k + 1, by omega, by omega, by go_num, HN', S2⟩
          case measure => simp [intOf]; omega
        · have d2 : decide ((K : Int) > (m : Int)) = true := decide_eq_true (by omega)
          have d2' : decide ((m : Int) < (K : Int)) = true := d2
          have d2n : decide (m < K) = true := decide_eq_true (by omega)
          have d2p : (m < K) = True := eq_true (by omega)
          have HE := Lib.hid (HFal.out hR hgt)
          clear ht
          go_wp2
          go_ret
          exact ⟨.mk false rfl HE, S2.B⟩
      · have hRI : (((m % k : Nat) : Int) == 0) = false := beq_eq_false_iff_ne.2 (by omega)
        have hRp : ((m % k : Nat) : Int) ≠ 0 := by omega
        have HN' := Lib.hid (HKeep0.out hR)
        generalize ((m % k : Nat) : Int) = R at *
        go_wp2
        go_roundw
        case rel => exact ⟨k + 1, by omega, by omega, by go_num, HN', S2⟩
        case measure => simp [intOf]; omega
    · obtain rfl : k = m := by omega
      have HRk := Lib.hid (fun W => HR.out k (by omega) W)
      have hrk := HOK.out k (by omega) (by omega)
      have hrle := HRle.out k
      have hfle : (rhoN x y k - 1) % k + 1 ≤ k := by have := Nat.mod_lt (rhoN x y k - 1) (show 0 < k by omega); omega
      have HAf := Lib.hid (fun W => HA.out ((rhoN x y k - 1) % k + 1) W (by omega))
      have HCf := Lib.hid (HC.out ((rhoN x y k - 1) % k + 1))
      have HE : Hid (∀ r : Bool, (r = true ↔ Leads x y ((rhoN x y k - 1) % k + 1) k) → (r = true ↔ FailsN x y k)) := Lib.hid (fun r hr => hr.trans ⟨fun h => ⟨HNL.out, HN.out, h⟩, fun h => h.2.2⟩)
      obtain ⟨f, hf⟩ : ∃ f, (rhoN x y k - 1) % k + 1 = f := ⟨_, rfl⟩
      have v1 : IntKind.i64.wrap ((rhoN x y k : Int) - 1) = ((rhoN x y k - 1 : Nat) : Int) := by rw [IntWalk.i64_in _ (by omega)]; omega
      have v2 := tmodN (rhoN x y k - 1) k
      have v3 : IntKind.i64.wrap ((((rhoN x y k - 1) % k : Nat) : Int) + 1) = (f : Int) := by rw [IntWalk.i64_in _ (by omega)]; omega
      have hk0 : ¬ (k : Int) = 0 := by omega
      have hkn : ¬ k = 0 := by omega
      rw [hf] at HAf HE HCf hfle
      generalize (((rhoN x y k - 1) % k : Nat) : Int) = R at *
      generalize ((rhoN x y k - 1 : Nat) : Int) = P at *
      generalize rhoN x y k = K at *
      clear HN HNL hrk hrle hf
      go_wp2_with fail
      refine (HRk.out _).mono ?_
      rintro e w2 ⟨rfl, hb2⟩
      have S2 := S.on hb2
      obtain ⟨c0', c1'⟩ := And.intro S2.c0 S2.c1
      clear S hb2 HRk
      go_wp2_with fail
      refine (HAf.out _).mono ?_
      rintro e w3 ⟨⟨c, A, cap, rfl, Hc, O1⟩, hb1⟩
      have hcl := firstR_len x y f c
      have HH := Lib.hid (fun (W : World) (hW : IntRow W W.heap.size A (numsI (firstR x y f c))) => specHas A c cap (numsI (firstR x y f c)) (k : Int) W hW (by rw [numsI_len, hcl]) (by have := Hc.out.1; omega))
      have HI := Lib.hid (ownI_of O1).row
      have S3 := S2.on hb1
      have HCl := Lib.hid (HCf.out c Hc.out)
      clear S2 hb1 O1 hcl Hc c0' c1'
      go_wp2_with fail
      refine (HH.out _ HI.out).mono ?_
      rintro e w4 ⟨⟨r, rfl, Hr⟩, hb2⟩
      have S4 := S3.on hb2
      have HLe := Lib.hid (Hr.out.trans HCl.out)
      clear HH HI S3 hb2 HCl Hr
      go_wp2
      go_ret
      exact ⟨.mk r rfl (Lib.hid (HE.out r HLe.out)), S4.B⟩
end Go.Proofs.Ytdemgialagjomaa

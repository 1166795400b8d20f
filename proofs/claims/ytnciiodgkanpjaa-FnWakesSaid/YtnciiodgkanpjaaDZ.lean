/-
  Contracts: the source of the draws (spec.l01From, l01Next): what it hands out lies in the range that is asked for; only its own block is turned.
  Contracts: an angle that is drawn (spec.l01Draw), one that may be spoiled (spec.l01Bad, spec.l01Spoil): some value; only the source's block is turned.
  Contracts: what a law asks of its code (laws.big).
  Contracts: an angle that mostly has a small period, drawn (spec.l04Draw): some two numbers; only the source's block is turned.
  Contracts: what the law of limbs draws (spec.DrawLimbOf, spec.DrawAreObstructed, spec.DrawOppositeAngle): some numbers.
-/
import Derived.Test.YtnciiodgkanpjaaW4
import Derived.Maps.AppendAt
import Derived.Deep.Cut
import Derived.BigQuiet
namespace Go.Proofs.Ytnciiodgkanpjaa
open Go.RowKit

theorem and_small (x : Int) : ∃ v : Nat, v ≤ 16777215 ∧ bits .and .u64 x 16777215 = (v : Int) := by
  refine ⟨(BitVec.ofInt 64 x &&& BitVec.ofInt 64 16777215).toNat, ?_, ?_⟩
  · rw [BitVec.toNat_and]
    exact Nat.and_le_right
  · have h : (BitVec.ofInt 64 x &&& BitVec.ofInt 64 16777215).toNat ≤ 16777215 := by
      rw [BitVec.toNat_and]
      exact Nat.and_le_right
    unfold bits
    show IntKind.u64.wrap ((BitVec.ofInt 64 x &&& BitVec.ofInt 64 16777215).toNat : Int) = _
    generalize (BitVec.ofInt 64 x &&& BitVec.ofInt 64 16777215).toNat = v at *
    unfold IntKind.wrap
    simp [IntKind.bits, IntKind.signed]
    omega
/-- The bytes of a code, in a block below B. -/
def CodeRow (w : World) (B : Nat) (A : Option Addr) (n : Nat) : Prop := 0 < n → ∃ b off, A = some ⟨b, off, none⟩ ∧ b < B ∧ ∀ i, i < n → ∃ v : Nat, v < 256 ∧ w.cell? ⟨b, off + i, none⟩ = some (.int .u8 (v : Int))
/-- A source in its block, from B on; its code below. -/
structure SrcAt (W : World) (B b : Nat) (A : Option Addr) (n cap : Nat) : Prop where
  lo : B ≤ b
  z : b < W.heap.size
  c0 : W.cell? ⟨b, 0, none⟩ = some (.slice A n cap)
  c1 : ∃ i : Nat, i ≤ n ∧ W.cell? ⟨b, 1, none⟩ = some (.int .i64 (i : Int))
  c2 : ∃ h : Int, W.cell? ⟨b, 2, none⟩ = some (.int .u64 h)
  f1 : W.frozen? ⟨b, 1, none⟩ = false
  f2 : W.frozen? ⟨b, 2, none⟩ = false
  code : CodeRow W B A n
theorem CodeRow.kept {W W' : World} {B : Nat} {A : Option Addr} {n : Nat} (h : CodeRow W B A n) (hb : Below B W W') : CodeRow W' B A n := by
  intro hn
  obtain ⟨b, off, e, hB, hc⟩ := h hn
  refine ⟨b, off, e, hB, fun i hi => ?_⟩
  obtain ⟨v, hv, hx⟩ := hc i hi
  exact ⟨v, hv, (hb.cell (p := ⟨b, off + i, none⟩) hB).trans hx⟩
theorem SrcAt.on {W W1 : World} {B b : Nat} {A : Option Addr} {n cap : Nat} (H : SrcAt W B b A n cap) (hb : Below W.heap.size W W1) : SrcAt W1 B b A n cap := by
  obtain ⟨i, hi, h1⟩ := H.c1
  obtain ⟨h, h2⟩ := H.c2
  refine ⟨H.lo, Nat.lt_of_lt_of_le H.z hb.size, cellThru hb H.z H.c0, ⟨i, hi, cellThru hb H.z h1⟩, ⟨h, cellThru hb H.z h2⟩, frozThru hb H.z H.f1, frozThru hb H.z H.f2, H.code.kept (hb.mono ?_)⟩
  have := H.lo
  have := H.z
  omega
theorem SrcAt.hash {W : World} {B b : Nat} {A : Option Addr} {n cap : Nat} (H : SrcAt W B b A n cap) (x : Int) : SrcAt (W.setCell ⟨b, 2, none⟩ (.int .u64 x)) B b A n cap := by
  obtain ⟨i, hi, h1⟩ := H.c1
  obtain ⟨h, h2⟩ := H.c2
  exact ⟨H.lo, by simpa using H.z, (World.cell?_setCell_other _ _ _ _ (by simp)).trans H.c0, ⟨i, hi, (World.cell?_setCell_other _ _ _ _ (by simp)).trans h1⟩, ⟨x, World.cell?_setCell_same _ _ _ h2⟩, by simpa using H.f1, by simpa using H.f2, H.code.kept ((Below.refl _ _).setCell H.lo _)⟩
theorem SrcAt.next {W : World} {B b : Nat} {A : Option Addr} {n cap : Nat} (H : SrcAt W B b A n cap) {k : Nat} (hk : k ≤ n) : SrcAt (W.setCell ⟨b, 1, none⟩ (.int .i64 (k : Int))) B b A n cap := by
  obtain ⟨i, hi, h1⟩ := H.c1
  obtain ⟨h, h2⟩ := H.c2
  exact ⟨H.lo, by simpa using H.z, (World.cell?_setCell_other _ _ _ _ (by simp)).trans H.c0, ⟨k, hk, World.cell?_setCell_same _ _ _ h1⟩, ⟨h, (World.cell?_setCell_other _ _ _ _ (by simp)).trans h2⟩, by simpa using H.f1, by simpa using H.f2, H.code.kept ((Below.refl _ _).setCell H.lo _)⟩
theorem SrcAt.drew {W : World} {B b : Nat} {A : Option Addr} {n cap : Nat} (H : SrcAt W B b A n cap) : SrcAt W.drew B b A n cap := H.on (Below.refl _ _).drew
/-- Only the block b is turned. -/
def OneD (b : Nat) (w w' : World) : Prop := w.grownBy w' (some b) ∧ w'.heap.size = w.heap.size
theorem OneD.refl (b : Nat) (w : World) : OneD b w w := ⟨⟨rfl, rfl, rfl, Nat.le_refl _, fun _ _ _ => rfl⟩, rfl⟩
theorem grownTr {b : Nat} {w w' w'' : World} (h : w.grownBy w' (some b)) (g : w'.grownBy w'' (some b)) : w.grownBy w'' (some b) :=
  ⟨g.os.trans h.os, g.tape.trans h.tape, g.output.trans h.output, Nat.le_trans h.size g.size, fun i hi hne => (g.block i (Nat.lt_of_lt_of_le hi h.size) hne).trans (h.block i hi hne)⟩
theorem OneD.set {b : Nat} {w w' : World} (h : OneD b w w') (o : Nat) (v : Value) : OneD b w (w'.setCell ⟨b, o, none⟩ v) := by
  refine ⟨⟨h.1.os, h.1.tape, h.1.output, by simpa using h.1.size, fun i hi hne => ?_⟩, by simpa using h.2⟩
  rw [Below.heap_setCell _ _ _ _ (fun e => hne (by rw [e]))]
  exact h.1.block i hi hne
theorem OneD.drew {b : Nat} {w w' : World} (h : OneD b w w') : OneD b w w'.drew := ⟨⟨h.1.os, h.1.tape, h.1.output, h.1.size, h.1.block⟩, h.2⟩
theorem oneDrewN {b : Nat} {w w' : World} (h : OneD b w w') (q : Nat) : OneD b w (w'.drewN q) := ⟨⟨h.1.os, h.1.tape, h.1.output, h.1.size, h.1.block⟩, h.2⟩
theorem srcDrewN {W : World} {B b : Nat} {A : Option Addr} {n cap : Nat} (H : SrcAt W B b A n cap) (q : Nat) : SrcAt (W.drewN q) B b A n cap := H.on (below_drewN (Below.refl _ _) q)

set_option maxRecDepth 8000 in
set_option maxHeartbeats 4000000 in
theorem specNext (B b : Nat) (A : Option Addr) (n cap : Nat) (m : Int) (w : World) (h : SrcAt w B b A n cap) (hn : n ≤ 1000000) (hm : m ≤ 9223372036854775807) :
    Calls Try.prog 63 #[.pointer (some ⟨b, 0, none⟩), .int .i64 m] w fun e w' => (∃ r : Int, e = .returned (.int .i64 r) ∧ Hid ((m < 1 → r = 0) ∧ (1 ≤ m → 0 ≤ r ∧ r < m))) ∧ Hid (SrcAt w' B b A n cap) ∧ Hid (OneD b w w') := by
  by_cases h1 : m < 1
  · have d1 : decide (m < 1) = true := decide_eq_true h1
    have HS := Lib.hid h
    clear h
    go_enter Try.func63, Try.ntmps63
    go_wp2
    go_ret
    exact ⟨⟨0, rfl, Lib.hid ⟨fun _ => rfl, fun h => absurd h (by omega)⟩⟩, HS, Lib.hid (OneD.refl _ _)⟩
  · have d1 : decide (m < 1) = false := decide_eq_false h1
    have HS := Lib.hid h
    obtain ⟨i, hi, c1⟩ := h.c1
    obtain ⟨hh, c2⟩ := h.c2
    have c0 := h.c0
    have f1 := h.f1
    have f2 := h.f2
    have z := h.z
    clear h
    go_enter Try.func63, Try.ntmps63
    go_upto_region 5 with fail
    generalize IntKind.u64.wrap (IntKind.u64.wrap (hh * 6364136223846793005) + 1442695040888963407) = X
    obtain ⟨v, hv, hbv⟩ := and_small (X / 8589934592)
    rw [hbv, IntWalk.wrap64_in (v : Int) (by omega)]
    have HS2 := Lib.hid (HS.out.hash X)
    have HO2 : Hid (OneD b w (w.setCell ⟨b, 2, none⟩ (.int .u64 X))) := Lib.hid ((OneD.refl b w).set 2 _)
    clear hbv c0 c1 c2 f1 f2 z HS
    generalize w.setCell ⟨b, 2, none⟩ (.int .u64 X) = wa at *
    obtain ⟨k, hk, c1⟩ := HS2.out.c1
    have c0 := HS2.out.c0
    have f1 := HS2.out.f1
    have z := HS2.out.z
    have hmn : ¬ m = 0 := by omega
    have HR : Hid (∀ x : Int, 0 ≤ x → 0 ≤ x % m ∧ x % m < m) := Lib.hid (fun x hx => ⟨Int.emod_nonneg _ (by omega), Int.emod_lt_of_pos _ (by omega)⟩)
    by_cases hkn : k < n
    · have e1 : decide ((k : Int) < (n : Int)) = true := decide_eq_true (by omega)
      have e1n : decide (k < n) = true := decide_eq_true hkn
      have e1p : (k < n) = True := eq_true hkn
      obtain ⟨g, off, rfl, hg, hcs⟩ := HS2.out.code (by omega)
      obtain ⟨vb, hvb, x0⟩ := hcs k hkn
      have hgz : g < wa.heap.size := by have := HS2.out.lo; omega
      have HN : Hid (SrcAt (wa.setCell ⟨b, 1, none⟩ (.int .i64 ((k + 1 : Nat) : Int))) B b (some ⟨g, off, none⟩) n cap) := Lib.hid (HS2.out.next (by omega))
      have HX := Lib.hid (HR.out ((v : Int) + (vb : Int)) (by omega))
      have HD1 : Hid (∀ q, OneD b w ((wa.drewN q).setCell ⟨b, 1, none⟩ (.int .i64 ((k + 1 : Nat) : Int))) ∧ SrcAt ((wa.drewN q).setCell ⟨b, 1, none⟩ (.int .i64 ((k + 1 : Nat) : Int))) B b (some ⟨g, off, none⟩) n cap) := Lib.hid (fun q => ⟨(oneDrewN HO2.out q).set 1 _, (srcDrewN HS2.out q).next (by omega)⟩)
      clear hcs HR HS2 HN HO2
      go_quiet (fail)
      go_wp2_with fail
      go_quiet (fail)
      have ek : ((k + 1 : Nat) : Int) = (k : Int) + 1 := by omega
      have HE : Hid (∀ q, OneD b w ((wa.drewN q).setCell ⟨b, 1, none⟩ (.int .i64 ((k : Int) + 1))) ∧ SrcAt ((wa.drewN q).setCell ⟨b, 1, none⟩ (.int .i64 ((k : Int) + 1))) B b (some ⟨g, off, none⟩) n cap) := Lib.hid (fun q => by have h := HD1.out q; rw [ek] at h; exact h)
      clear ek HD1
      go_wp2
      go_ret
      refine ⟨⟨_, rfl, Lib.hid (by first | exact ⟨fun h => absurd h (by omega), fun _ => HX.out⟩ | exact ⟨fun h => absurd h (by omega), HX.out⟩)⟩, Lib.hid ?_, Lib.hid ?_⟩
      · first | exact (HE.out _).2 | (simp only [World.drewN_drewN]; exact (HE.out _).2)
      · first | exact (HE.out _).1 | (simp only [World.drewN_drewN]; exact (HE.out _).1)
    · have e1 : decide ((k : Int) < (n : Int)) = false := decide_eq_false (by omega)
      have e1n : decide (k < n) = false := decide_eq_false hkn
      have e1p : (k < n) = False := eq_false hkn
      have HX := Lib.hid (HR.out (v : Int) (by omega))
      clear HR
      have HD1 : Hid (∀ q, OneD b w (wa.drewN q) ∧ SrcAt (wa.drewN q) B b A n cap) := Lib.hid (fun q => ⟨oneDrewN HO2.out q, srcDrewN HS2.out q⟩)
      clear HS2 HO2
      go_quiet (fail)
      go_wp2
      go_ret
      refine ⟨⟨_, rfl, Lib.hid (by first | exact ⟨fun h => absurd h (by omega), fun _ => HX.out⟩ | exact ⟨fun h => absurd h (by omega), HX.out⟩)⟩, Lib.hid ?_, Lib.hid ?_⟩
      · first | exact (HD1.out _).2 | (simp only [World.drewN_drewN]; exact (HD1.out _).2)
      · first | exact (HD1.out _).1 | (simp only [World.drewN_drewN]; exact (HD1.out _).1)

set_option maxRecDepth 8000 in
set_option maxHeartbeats 4000000 in
theorem specFrom (A : Option Addr) (n cap : Nat) (w : World) (h : CodeRow w w.heap.size A n) (hn : n ≤ 4096) :
    Calls Try.prog 47 #[.slice A n cap] w fun e w' => e = .returned (.pointer (some ⟨w.heap.size, 0, none⟩)) ∧ Hid (SrcAt w' w.heap.size w.heap.size A n cap) ∧ Hid (Below w.heap.size w w') := by
  have HC := Lib.hid h
  clear h
  go_enter Try.func47, Try.ntmps47
  go_wp2_with fail
  obtain ⟨H0, hH0⟩ : ∃ H0 : Int, 11437 + (n : Int) = H0 := ⟨_, rfl⟩
  rw [hH0]
  clear hH0
  have HS0 : Hid (SrcAt (w.alloc (.cells #[.slice A n cap, .int .i64 0, .int .u64 H0] 90)) w.heap.size w.heap.size A n cap) := Lib.hid ⟨Nat.le_refl _, by simp, by simp [go_sem], ⟨0, by omega, by simp [go_sem]⟩, ⟨H0, by simp [go_sem]⟩, by simp [go_sem], by simp [go_sem], HC.out.kept (belowAlloc (Below.refl _ _) _)⟩
  have HB0 : Hid (Below w.heap.size w (w.alloc (.cells #[.slice A n cap, .int .i64 0, .int .u64 H0] 90))) := Lib.hid (belowAlloc (Below.refl _ _) _)
  go_loopw [4] (fun s4 wr => ∃ k : Nat, k ≤ n ∧ s4 = .int .i64 k ∧ Hid (SrcAt wr w.heap.size w.heap.size A n cap) ∧ Hid (Below w.heap.size w wr)) (fun s4 _ => n - (intOf s4).toNat)
  case atStart => exact ⟨0, by omega, rfl, HS0, HB0⟩
  case round =>
    clear HS0 HB0
    obtain ⟨k, hk, rfl, HS, HB⟩ := hrel
    by_cases hlt : k < n
    · obtain ⟨g, off, rfl, hg, hcs⟩ := HS.out.code (by omega)
      obtain ⟨vb, hvb, x0⟩ := hcs k hlt
      obtain ⟨hh, c2⟩ := HS.out.c2
      have f2 := HS.out.f2
      have z := HS.out.z
      have hgz : g < wr.heap.size := by omega
      have e1 : decide ((k : Int) < (n : Int)) = true := decide_eq_true (by omega)
      have e2 : decide ((k : Int) < 4096) = true := decide_eq_true (by omega)
      have HD : Hid (∀ (X : Int), SrcAt (wr.setCell ⟨w.heap.size, 2, none⟩ (.int .u64 X)) w.heap.size w.heap.size (some ⟨g, off, none⟩) n cap ∧ Below w.heap.size w (wr.setCell ⟨w.heap.size, 2, none⟩ (.int .u64 X))) := Lib.hid (fun X => ⟨HS.out.hash X, HB.out.setCell (Nat.le_refl _) _⟩)
      clear hcs HS HB
      go_wp2_with fail
      try go_region
      all_goals
        go_wp2
        go_roundw
        case rel => exact ⟨k + 1, by omega, by go_num, Lib.hid (by first | exact (HD.out _).1 | exact (HD.out _).1.drew | exact srcDrewN (HD.out _).1 _), Lib.hid (by first | exact (HD.out _).2 | exact (HD.out _).2.drew | exact below_drewN (HD.out _).2 _)⟩
        case measure => simp [intOf]; omega
    · obtain rfl : k = n := by omega
      go_wp2
      go_ret
      exact ⟨rfl, HS, HB⟩

set_option maxHeartbeats 2000000 in
theorem specPick (B b : Nat) (A : Option Addr) (n cap : Nat) (b2 o2 len c2 : Nat) (l : List Int) (w : World) (h : SrcAt w B b A n cap) (hn : n ≤ 1000000) (hl : l.length = len) (hl1 : 1 ≤ len) (hl2 : len ≤ 1000000) (hb2 : b2 < w.heap.size) (hne : b2 ≠ b) (hc : ∀ i x, l[i]? = some x → w.cell? ⟨b2, o2 + i, none⟩ = some (.int .i64 x)) :
    Calls Try.prog 62 #[.pointer (some ⟨b, 0, none⟩), .slice (some ⟨b2, o2, none⟩) len c2] w fun e w' => (∃ r : Int, e = .returned (.int .i64 r) ∧ Hid (r ∈ l)) ∧ Hid (SrcAt w' B b A n cap) ∧ Hid (OneD b w w') := by
  have HN := Lib.hid (specNext B b A n cap (len : Int) w h hn (by omega))
  have HC := Lib.hid hc
  have HL := Lib.hid hl
  clear h hc hl
  go_enter Try.func62, Try.ntmps62
  go_wp2_with fail
  refine HN.out.mono ?_
  rintro e w1 ⟨⟨r, rfl, hr⟩, HS, HO⟩
  obtain ⟨r0, r1⟩ := hr.out.2 (by omega)
  obtain ⟨i, rfl⟩ : ∃ i : Nat, r = (i : Int) := ⟨r.toNat, by omega⟩
  have hil : i < l.length := by have := HL.out; omega
  have hx : l[i]? = some l[i] := List.getElem?_eq_getElem hil
  have x0 : w1.cell? ⟨b2, o2 + i, none⟩ = some (.int .i64 l[i]) := (World.cell?_of_block (a := ⟨b2, o2 + i, none⟩) (HO.out.1.block b2 hb2 (fun e => hne (Option.some.inj e)))).trans (HC.out i _ hx)
  have HM : Hid (l[i] ∈ l) := Lib.hid (List.getElem_mem hil)
  generalize l[i] = x at *
  have hin : (i : Int) < (len : Int) := by omega
  have hin2 : i < len := by omega
  clear hr r0 r1 hx hil
  go_wp2
  go_ret
  exact ⟨⟨x, rfl, HM⟩, HS, HO⟩

theorem quoD (a b : Int) (hb : 0 < b) : gcdI (a / gcdI a b) (b / gcdI a b) = 1 := by
  have hp := gcdI_pos a b hb
  unfold gcdI at *
  have := Int.gcd_ediv_gcd_ediv_gcd (i := a) (j := b) (by omega)
  rw [this]; rfl
theorem bdD (n d : Int) (hd : 0 < d) : 0 ≤ redN n d ∧ redN n d < redD n d ∧ 1 ≤ redD n d ∧ redD n d ≤ d := by
  have h1 := Int.emod_nonneg n (b := d) (by omega)
  have h2 := Int.emod_lt_of_pos n hd
  have hp := gcdI_pos (n % d) d hd
  have d1 : gcdI (n % d) d ∣ n % d := by unfold gcdI; exact Int.gcd_dvd_left ..
  have d2 : gcdI (n % d) d ∣ d := by unfold gcdI; exact Int.gcd_dvd_right ..
  obtain ⟨x, hx⟩ := d1
  obtain ⟨y, hy⟩ := d2
  unfold redN redD
  generalize gcdI (n % d) d = g at *
  generalize n % d = r at *
  subst hx hy
  rw [Int.mul_ediv_cancel_left _ (by omega), Int.mul_ediv_cancel_left _ (by omega)]
  have p0 : 0 ≤ x := by
    rcases (show x < 0 ∨ 0 ≤ x by omega) with h | h
    · have := Int.mul_neg_of_pos_of_neg hp h; omega
    · exact h
  have p1 : x < y := Int.lt_of_mul_lt_mul_left h2 (by omega)
  refine ⟨p0, p1, by omega, ?_⟩
  have := Int.mul_le_mul_of_nonneg_right (show 1 ≤ g by omega) (show 0 ≤ y by omega)
  omega
theorem angD {n d : Int} (hm : 0 < d) (h : d ≤ 8191) : isAng (redN n d) (redD n d) = true := by
  obtain ⟨t1, t2, t3, t4⟩ := bdD n d hm
  unfold isAng
  refine decide_eq_true ⟨t3, by omega, t1, t2, ?_⟩
  unfold redN redD
  exact quoD _ _ hm

/-- An angle's two cells in the block B. -/
structure ResC (B : Nat) (p q : Int) (W : World) : Prop where
  lt : B < W.heap.size
  c0 : W.cell? ⟨B, 0, none⟩ = some (.int .i64 p)
  c1 : W.cell? ⟨B, 1, none⟩ = some (.int .i64 q)
  f0 : W.frozen? ⟨B, 0, none⟩ = false
  f1 : W.frozen? ⟨B, 1, none⟩ = false
theorem ResC.one {B b : Nat} {p q : Int} {W W' : World} (h : ResC B p q W) (hne : B ≠ b) (g : W.grownBy W' (some b)) : ResC B p q W' := by
  have hB := g.block B h.lt (fun e => hne (Option.some.inj e))
  exact ⟨Nat.lt_of_lt_of_le h.lt g.size, (World.cell?_of_block (a := ⟨B, 0, none⟩) hB).trans h.c0, (World.cell?_of_block (a := ⟨B, 1, none⟩) hB).trans h.c1, (World.frozen?_of_block (a := ⟨B, 0, none⟩) hB).trans h.f0, (World.frozen?_of_block (a := ⟨B, 1, none⟩) hB).trans h.f1⟩
theorem ResC.below {B : Nat} {p q : Int} {W W' : World} (h : ResC B p q W) (hb : Below W.heap.size W W') : ResC B p q W' :=
  ⟨Nat.lt_of_lt_of_le h.lt hb.size, cellThru hb h.lt h.c0, cellThru hb h.lt h.c1, frozThru hb h.lt h.f0, frozThru hb h.lt h.f1⟩
theorem resC0 (w : World) (p q : Int) (T : TypeId) : ResC w.heap.size p q (w.alloc (.cells #[.int .i64 p, .int .i64 q] T)) :=
  ⟨by simp, by simp [go_sem], by simp [go_sem], by simp [go_sem], by simp [go_sem]⟩
theorem ResC.set0 {B : Nat} {p q : Int} {W : World} (h : ResC B p q W) (x : Int) : ResC B x q (W.setCell ⟨B, 0, none⟩ (.int .i64 x)) :=
  ⟨by simpa using h.lt, World.cell?_setCell_same _ _ _ h.c0, (World.cell?_setCell_other _ _ _ _ (by simp)).trans h.c1, by simpa using h.f0, by simpa using h.f1⟩
theorem ResC.set1 {B : Nat} {p q : Int} {W : World} (h : ResC B p q W) (x : Int) : ResC B p x (W.setCell ⟨B, 1, none⟩ (.int .i64 x)) :=
  ⟨by simpa using h.lt, (World.cell?_setCell_other _ _ _ _ (by simp)).trans h.c0, World.cell?_setCell_same _ _ _ h.c1, by simpa using h.f0, by simpa using h.f1⟩
theorem ResC.off {B C o : Nat} {p q : Int} {W : World} (h : ResC B p q W) (hne : B ≠ C) (v : Value) : ResC B p q (W.setCell ⟨C, o, none⟩ v) :=
  ⟨by simpa using h.lt, (World.cell?_setCell_other _ _ _ _ (by intro e; cases e; exact hne rfl)).trans h.c0, (World.cell?_setCell_other _ _ _ _ (by intro e; cases e; exact hne rfl)).trans h.c1, by simpa using h.f0, by simpa using h.f1⟩
theorem grownOf {w w' : World} (h : Below w.heap.size w w') (b : Nat) : w.grownBy w' (some b) :=
  ⟨h.os, h.tape, h.output, h.size, fun i hi _ => h.block i hi⟩

theorem cellUnder {B : Nat} {w w' : World} (h : Below B w w') {p : Addr} {v : Value} (hp : p.block < B) (hc : w.cell? p = some v) : w'.cell? p = some v := (h.cell hp).trans hc
theorem frozUnder {B : Nat} {w w' : World} (h : Below B w w') {p : Addr} (hp : p.block < B) (hc : w.frozen? p = false) : w'.frozen? p = false := (h.frozen hp).trans hc
theorem SrcAt.under {W W1 : World} {B b K : Nat} {A : Option Addr} {n cap : Nat} (H : SrcAt W B b A n cap) (hK : b < K) (hb : Below K W W1) : SrcAt W1 B b A n cap := by
  obtain ⟨i, hi, h1⟩ := H.c1
  obtain ⟨h, h2⟩ := H.c2
  exact ⟨H.lo, Nat.lt_of_lt_of_le H.z hb.size, cellUnder hb hK H.c0, ⟨i, hi, cellUnder hb hK h1⟩, ⟨h, cellUnder hb hK h2⟩, frozUnder hb hK H.f1, frozUnder hb hK H.f2, H.code.kept (hb.mono (Nat.le_of_lt (Nat.lt_of_le_of_lt H.lo hK)))⟩
theorem grownOn {w W W' : World} {b : Nat} (h : w.grownBy W (some b)) (hb : Below w.heap.size W W') : w.grownBy W' (some b) :=
  ⟨hb.os.trans h.os, hb.tape.trans h.tape, hb.output.trans h.output, Nat.le_trans h.size hb.size, fun i hi hne => (hb.block i hi).trans (h.block i hi hne)⟩

set_option maxRecDepth 8000 in
set_option maxHeartbeats 4000000 in
theorem specDraw (B b : Nat) (A : Option Addr) (n cap : Nat) (w : World) (h : SrcAt w B b A n cap) (hn : n ≤ 1000000) :
    Calls Try.prog 98 #[.pointer (some ⟨b, 0, none⟩)] w fun e w' => (∃ x y : Int, e = .returned (ang x y) ∧ Hid (isAng x y = true)) ∧ Hid (SrcAt w' B b A n cap) ∧ Hid (w.grownBy w' (some b) ∧ w.heap.size ≤ w'.heap.size) := by
  have HN := Lib.hid (fun (m : Int) W (H : Hid (SrcAt W B b A n cap)) (hm : m ≤ 1000000) => specNext B b A n cap m W H.out hn (by omega))
  have HP := Lib.hid (fun b2 o2 len c2 (l : List Int) W (H : SrcAt W B b A n cap) h0 h1 h2 h3 h4 h5 => specPick B b A n cap b2 o2 len c2 l W H hn h0 h1 h2 h3 h4 h5)
  have hbz := h.z
  have hBb : w.heap.size ≠ b := by omega
  have HS := Lib.hid h
  clear h
  go_enter Try.func98, Try.ntmps98
  go_wp2_with fail
  refine (HP.out (w.heap.size + 1) 0 12 12 [1, 3, 7, 15, 31, 63, 5, 9, 11, 13, 17, 21] _ (HS.out.on (belowAlloc (belowAlloc (Below.refl _ _) _) _)) rfl (by omega) (by omega) (by simp) (by omega) (fun i x hi => ?_)).mono ?_
  · match i, hi with
    | 0, hi | 1, hi | 2, hi | 3, hi | 4, hi | 5, hi | 6, hi | 7, hi | 8, hi | 9, hi | 10, hi | 11, hi => simp at hi; subst hi; simp [go_sem]
    | j + 12, hi => simp at hi
  rintro e w1 ⟨⟨x, rfl, hx⟩, HS, HO⟩
  have HX : 1 ≤ x ∧ x ≤ 63 := by
    have h := hx.out
    simp at h
    omega
  obtain ⟨x1, x2⟩ := HX
  have HC := Lib.hid (((resC0 w 0 0 25).below (belowAlloc (Below.refl _ _) _)).one hBb HO.out.1)
  have HG : Hid (w.grownBy w1 (some b) ∧ w.heap.size ≤ w1.heap.size) := Lib.hid ⟨grownTr (grownTr (World.grownBy_alloc _ _ (some b)) (World.grownBy_alloc _ _ (some b))) HO.out.1, by rw [HO.out.2]; simp; omega⟩
  clear hx HO
  go_wp2_with fail
  refine (HN.out 5 _ HS (by omega)).mono ?_
  rintro e w2 ⟨⟨r, rfl, hr⟩, HS, HO⟩
  have HC := Lib.hid (HC.out.one hBb HO.out.1)
  have HG : Hid (w.grownBy w2 (some b) ∧ w.heap.size ≤ w2.heap.size) := Lib.hid ⟨grownTr HG.out.1 HO.out.1, by rw [HO.out.2]; exact HG.out.2⟩
  clear hr HO
  by_cases r0 : r = 0
  · subst r0
    have hz2 : w.heap.size < w2.heap.size := HC.out.lt
    go_wp2_with fail
    refine (HP.out w2.heap.size 0 3 3 [2, 4, 8] _ (HS.out.on (belowAlloc (Below.refl _ _) _)) rfl (by omega) (by omega) (by simp) (by have := HS.out.z; omega) (fun i x hi => ?_)).mono ?_
    · match i, hi with
      | 0, hi | 1, hi | 2, hi => simp at hi; subst hi; simp [go_sem]
      | j + 3, hi => simp at hi
    rintro e w3 ⟨⟨y, rfl, hy⟩, HS, HO⟩
    have HC := Lib.hid ((HC.out.below (belowAlloc (Below.refl _ _) _)).one hBb HO.out.1)
    have HG : Hid (w.grownBy w3 (some b) ∧ w.heap.size ≤ w3.heap.size) := Lib.hid ⟨grownTr (grownTr HG.out.1 (World.grownBy_alloc _ _ (some b))) HO.out.1, by have := HG.out.2; rw [HO.out.2]; simp; omega⟩
    have HD : 1 ≤ x * y ∧ x * y ≤ 504 := by
      have h := hy.out
      simp at h
      rcases h with rfl | rfl | rfl <;> omega
    clear hy HO hz2
    obtain ⟨D, hD⟩ : ∃ D : Int, x * y = D := ⟨_, rfl⟩
    rw [hD] at HD
    have hw : IntKind.i64.wrap (x * y) = D := by rw [hD]; unfold IntKind.wrap; simp [IntKind.bits, IntKind.signed]; omega
    have hw2 : wrap64 (x * y) = D := by rw [hD]; exact IntWalk.wrap64_in D (by omega)
    clear hD
    go_wp2_with fail
    refine (HN.out D _ HS (by omega)).mono ?_
    rintro e w8 ⟨⟨r8, rfl, hr8⟩, HS, HO⟩
    obtain ⟨q0, q1⟩ := hr8.out.2 (by omega)
    have HC := Lib.hid (HC.out.one hBb HO.out.1)
    have HG : Hid (w.grownBy w8 (some b) ∧ w.heap.size ≤ w8.heap.size) := Lib.hid ⟨grownTr HG.out.1 HO.out.1, by rw [HO.out.2]; exact HG.out.2⟩
    clear hr8 HO
    have HA : Hid (isAng (redN r8 D) (redD r8 D) = true) := Lib.hid (angD (by omega) (by omega))
    have HR := Lib.hid (specRed r8 D w8 (by omega) (by omega) (by omega) (by omega))
    generalize redN r8 D = X at *
    generalize redD r8 D = Y at *
    go_wp2_with fail
    refine HR.out.mono ?_
    rintro e w9 ⟨rfl, hb9⟩
    have HS := Lib.hid (HS.out.on hb9)
    have HC := Lib.hid (HC.out.below hb9)
    have HG : Hid (w.grownBy w9 (some b) ∧ w.heap.size ≤ w9.heap.size) := Lib.hid ⟨grownTr HG.out.1 (grownOf hb9 b), Nat.le_trans HG.out.2 hb9.size⟩
    clear hb9 HR HN
    have c0 := HC.out.c0
    have c1 := HC.out.c1
    have f0 := HC.out.f0
    have f1 := HC.out.f1
    have z9 := HC.out.lt
    go_wp2
    have k0 : (w9.setCell ⟨w.heap.size, 0, none⟩ (.int .i64 X)).cell? ⟨w.heap.size, 0, none⟩ = some (.int .i64 X) := World.cell?_setCell_same _ _ _ c0
    have k1 : ((w9.setCell ⟨w.heap.size, 0, none⟩ (.int .i64 X)).setCell ⟨w.heap.size, 1, none⟩ (.int .i64 Y)).cell? ⟨w.heap.size, 1, none⟩ = some (.int .i64 Y) := World.cell?_setCell_same _ _ _ ((World.cell?_setCell_other _ _ _ _ (by simp)).trans c1)
    refine bodyPost_ret (v := ang X Y) (by simp [results, Try.results98, go_sem, k0, k1]) rfl ⟨⟨X, Y, rfl, HA⟩, Lib.hid ?_, Lib.hid ?_⟩
    · refine HS.out.under hbz ?_
      (repeat' (first | (with_reducible exact Below.refl _ _) | (with_reducible assumption) | (with_reducible refine belowNext ?_ (by with_reducible assumption)) | (with_reducible refine belowAlloc ?_ _) | (with_reducible refine Below.drew ?_) | (with_reducible refine below_drewN ?_ _) | (with_reducible refine Below.setCell ?_ ?_ _) | go_size | (with_reducible refine sizeOf' ?_) | (with_reducible refine sizeAdd ?_) | (dsimp only; first | (with_reducible refine sizeOf' ?_) | (with_reducible refine sizeAdd ?_))))
    · refine ⟨grownOn HG.out.1 ?_, ?_⟩
      · (repeat' (first | (with_reducible exact Below.refl _ _) | (with_reducible assumption) | (with_reducible refine belowNext ?_ (by with_reducible assumption)) | (with_reducible refine belowAlloc ?_ _) | (with_reducible refine Below.drew ?_) | (with_reducible refine below_drewN ?_ _) | (with_reducible refine Below.setCell ?_ ?_ _) | go_size | (with_reducible refine sizeOf' ?_) | (with_reducible refine sizeAdd ?_) | (dsimp only; first | (with_reducible refine sizeOf' ?_) | (with_reducible refine sizeAdd ?_))))
      · have := HG.out.2
        simp
        omega
  · have d0 : (r == 0) = false := beq_eq_false_iff_ne.2 r0
    by_cases r1 : r = 1
    · subst r1
      obtain ⟨D, hD⟩ : ∃ D : Int, x * 2 = D := ⟨_, rfl⟩
      have HD : 1 ≤ D ∧ D ≤ 504 := by omega
      have hw : IntKind.i64.wrap (x * 2) = D := by rw [hD]; unfold IntKind.wrap; simp [IntKind.bits, IntKind.signed]; omega
      have hw2 : wrap64 (x * 2) = D := by rw [hD]; exact IntWalk.wrap64_in D (by omega)
      clear hD d0
      go_wp2_with fail
      refine (HN.out D _ HS (by omega)).mono ?_
      rintro e w8 ⟨⟨r8, rfl, hr8⟩, HS, HO⟩
      obtain ⟨q0, q1⟩ := hr8.out.2 (by omega)
      have HC := Lib.hid (HC.out.one hBb HO.out.1)
      have HG : Hid (w.grownBy w8 (some b) ∧ w.heap.size ≤ w8.heap.size) := Lib.hid ⟨grownTr HG.out.1 HO.out.1, by rw [HO.out.2]; exact HG.out.2⟩
      clear hr8 HO
      have HA : Hid (isAng (redN r8 D) (redD r8 D) = true) := Lib.hid (angD (by omega) (by omega))
      have HR := Lib.hid (specRed r8 D w8 (by omega) (by omega) (by omega) (by omega))
      generalize redN r8 D = X at *
      generalize redD r8 D = Y at *
      go_wp2_with fail
      refine HR.out.mono ?_
      rintro e w9 ⟨rfl, hb9⟩
      have HS := Lib.hid (HS.out.on hb9)
      have HC := Lib.hid (HC.out.below hb9)
      have HG : Hid (w.grownBy w9 (some b) ∧ w.heap.size ≤ w9.heap.size) := Lib.hid ⟨grownTr HG.out.1 (grownOf hb9 b), Nat.le_trans HG.out.2 hb9.size⟩
      clear hb9 HR HN
      have c0 := HC.out.c0
      have c1 := HC.out.c1
      have f0 := HC.out.f0
      have f1 := HC.out.f1
      have z9 := HC.out.lt
      go_wp2
      have k0 : (w9.setCell ⟨w.heap.size, 0, none⟩ (.int .i64 X)).cell? ⟨w.heap.size, 0, none⟩ = some (.int .i64 X) := World.cell?_setCell_same _ _ _ c0
      have k1 : ((w9.setCell ⟨w.heap.size, 0, none⟩ (.int .i64 X)).setCell ⟨w.heap.size, 1, none⟩ (.int .i64 Y)).cell? ⟨w.heap.size, 1, none⟩ = some (.int .i64 Y) := World.cell?_setCell_same _ _ _ ((World.cell?_setCell_other _ _ _ _ (by simp)).trans c1)
      refine bodyPost_ret (v := ang X Y) (by simp [results, Try.results98, go_sem, k0, k1]) rfl ⟨⟨X, Y, rfl, HA⟩, Lib.hid ?_, Lib.hid ?_⟩
      · refine HS.out.under hbz ?_
        (repeat' (first | (with_reducible exact Below.refl _ _) | (with_reducible assumption) | (with_reducible refine belowNext ?_ (by with_reducible assumption)) | (with_reducible refine belowAlloc ?_ _) | (with_reducible refine Below.drew ?_) | (with_reducible refine below_drewN ?_ _) | (with_reducible refine Below.setCell ?_ ?_ _) | go_size | (with_reducible refine sizeOf' ?_) | (with_reducible refine sizeAdd ?_) | (dsimp only; first | (with_reducible refine sizeOf' ?_) | (with_reducible refine sizeAdd ?_))))
      · refine ⟨grownOn HG.out.1 ?_, ?_⟩
        · (repeat' (first | (with_reducible exact Below.refl _ _) | (with_reducible assumption) | (with_reducible refine belowNext ?_ (by with_reducible assumption)) | (with_reducible refine belowAlloc ?_ _) | (with_reducible refine Below.drew ?_) | (with_reducible refine below_drewN ?_ _) | (with_reducible refine Below.setCell ?_ ?_ _) | go_size | (with_reducible refine sizeOf' ?_) | (with_reducible refine sizeAdd ?_) | (dsimp only; first | (with_reducible refine sizeOf' ?_) | (with_reducible refine sizeAdd ?_))))
        · have := HG.out.2
          simp
          omega
    · have d1 : (r == 1) = false := beq_eq_false_iff_ne.2 r1
      obtain ⟨D, hD⟩ : ∃ D : Int, x = D := ⟨_, rfl⟩
      subst hD
      have HD : 1 ≤ x ∧ x ≤ 504 := by omega
      go_wp2_with fail
      refine (HN.out x _ HS (by omega)).mono ?_
      rintro e w8 ⟨⟨r8, rfl, hr8⟩, HS, HO⟩
      obtain ⟨q0, q1⟩ := hr8.out.2 (by omega)
      have HC := Lib.hid (HC.out.one hBb HO.out.1)
      have HG : Hid (w.grownBy w8 (some b) ∧ w.heap.size ≤ w8.heap.size) := Lib.hid ⟨grownTr HG.out.1 HO.out.1, by rw [HO.out.2]; exact HG.out.2⟩
      clear hr8 HO
      have HA : Hid (isAng (redN r8 x) (redD r8 x) = true) := Lib.hid (angD (by omega) (by omega))
      have HR := Lib.hid (specRed r8 x w8 (by omega) (by omega) (by omega) (by omega))
      generalize redN r8 x = X at *
      generalize redD r8 x = Y at *
      go_wp2_with fail
      refine HR.out.mono ?_
      rintro e w9 ⟨rfl, hb9⟩
      have HS := Lib.hid (HS.out.on hb9)
      have HC := Lib.hid (HC.out.below hb9)
      have HG : Hid (w.grownBy w9 (some b) ∧ w.heap.size ≤ w9.heap.size) := Lib.hid ⟨grownTr HG.out.1 (grownOf hb9 b), Nat.le_trans HG.out.2 hb9.size⟩
      clear hb9 HR HN
      have c0 := HC.out.c0
      have c1 := HC.out.c1
      have f0 := HC.out.f0
      have f1 := HC.out.f1
      have z9 := HC.out.lt
      go_wp2
      have k0 : (w9.setCell ⟨w.heap.size, 0, none⟩ (.int .i64 X)).cell? ⟨w.heap.size, 0, none⟩ = some (.int .i64 X) := World.cell?_setCell_same _ _ _ c0
      have k1 : ((w9.setCell ⟨w.heap.size, 0, none⟩ (.int .i64 X)).setCell ⟨w.heap.size, 1, none⟩ (.int .i64 Y)).cell? ⟨w.heap.size, 1, none⟩ = some (.int .i64 Y) := World.cell?_setCell_same _ _ _ ((World.cell?_setCell_other _ _ _ _ (by simp)).trans c1)
      refine bodyPost_ret (v := ang X Y) (by simp [results, Try.results98, go_sem, k0, k1]) rfl ⟨⟨X, Y, rfl, HA⟩, Lib.hid ?_, Lib.hid ?_⟩
      · refine HS.out.under hbz ?_
        (repeat' (first | (with_reducible exact Below.refl _ _) | (with_reducible assumption) | (with_reducible refine belowNext ?_ (by with_reducible assumption)) | (with_reducible refine belowAlloc ?_ _) | (with_reducible refine Below.drew ?_) | (with_reducible refine below_drewN ?_ _) | (with_reducible refine Below.setCell ?_ ?_ _) | go_size | (with_reducible refine sizeOf' ?_) | (with_reducible refine sizeAdd ?_) | (dsimp only; first | (with_reducible refine sizeOf' ?_) | (with_reducible refine sizeAdd ?_))))
      · refine ⟨grownOn HG.out.1 ?_, ?_⟩
        · (repeat' (first | (with_reducible exact Below.refl _ _) | (with_reducible assumption) | (with_reducible refine belowNext ?_ (by with_reducible assumption)) | (with_reducible refine belowAlloc ?_ _) | (with_reducible refine Below.drew ?_) | (with_reducible refine below_drewN ?_ _) | (with_reducible refine Below.setCell ?_ ?_ _) | go_size | (with_reducible refine sizeOf' ?_) | (with_reducible refine sizeAdd ?_) | (dsimp only; first | (with_reducible refine sizeOf' ?_) | (with_reducible refine sizeAdd ?_))))
        · have := HG.out.2
          simp
          omega

set_option maxRecDepth 8000 in
set_option maxHeartbeats 4000000 in
theorem specBad (B b : Nat) (A : Option Addr) (n cap : Nat) (x y : Int) (w : World) (h : SrcAt w B b A n cap) (hn : n ≤ 1000000) :
    Calls Try.prog 82 #[.pointer (some ⟨b, 0, none⟩), ang x y] w fun e w' => (∃ x' y' : Int, e = .returned (ang x' y')) ∧ Hid (SrcAt w' B b A n cap) ∧ Hid (w.grownBy w' (some b) ∧ w.heap.size ≤ w'.heap.size) := by
  have HN := Lib.hid (fun (m : Int) W (H : Hid (SrcAt W B b A n cap)) (hm : m ≤ 1000000) => specNext B b A n cap m W H.out hn (by omega))
  have HP := Lib.hid (fun b2 o2 len c2 (l : List Int) W (H : SrcAt W B b A n cap) h0 h1 h2 h3 h4 h5 => specPick B b A n cap b2 o2 len c2 l W H hn h0 h1 h2 h3 h4 h5)
  have hbz := h.z
  have hBb : w.heap.size ≠ b := by omega
  have hBc : w.heap.size + 1 ≠ b := by omega
  have HS := Lib.hid h
  clear h
  go_enter Try.func82, Try.ntmps82
  go_wp2_with fail
  refine (HN.out 40 _ (Lib.hid (HS.out.on (belowAlloc (belowAlloc (Below.refl _ _) _) _))) (by omega)).mono ?_
  rintro e w2 ⟨⟨r, rfl, hr⟩, HS, HO⟩
  have HX := Lib.hid (((resC0 w x y 25).below (belowAlloc (Below.refl _ _) (.cells #[.int .i64 0, .int .i64 0] 25))).one hBb HO.out.1)
  have HC := Lib.hid ((resC0 (w.alloc (.cells #[.int .i64 x, .int .i64 y] 25)) 0 0 25).one (b := b) (by simp; omega) HO.out.1)
  rw [show (w.alloc (.cells #[.int .i64 x, .int .i64 y] 25)).heap.size = w.heap.size + 1 by simp] at HC
  have HG : Hid (w.grownBy w2 (some b) ∧ w.heap.size ≤ w2.heap.size) := Lib.hid ⟨grownTr (grownTr (World.grownBy_alloc _ _ (some b)) (World.grownBy_alloc _ _ (some b))) HO.out.1, by rw [HO.out.2]; simp; omega⟩
  clear hr HO
  by_cases r0 : r = 0
  · subst r0
    have b1 := HX.out.c1
    have f0 := HX.out.f0
    have z2 := HC.out.lt
    have zx := HX.out.lt
    go_wp2_with fail
    refine (HP.out w2.heap.size 0 4 4 [-1, y, wrap64 (y + 1), 1099511627776] _ (HS.out.on (belowAlloc (Below.refl _ _) _)) rfl (by omega) (by omega) (by simp) (by have := HS.out.z; omega) (fun i x hi => ?_)).mono ?_
    · match i, hi with
      | 0, hi | 1, hi | 2, hi | 3, hi => simp at hi; subst hi; simp [go_sem]
      | j + 4, hi => simp at hi
    rintro e w3 ⟨⟨v, rfl, hv⟩, HS, HO⟩
    clear hv b1 f0 z2 zx
    have HX := Lib.hid ((HX.out.below (belowAlloc (Below.refl _ _) _)).one hBb HO.out.1)
    have HC := Lib.hid ((HC.out.below (belowAlloc (Below.refl _ _) _)).one hBc HO.out.1)
    have HG : Hid (w.grownBy w3 (some b) ∧ w.heap.size ≤ w3.heap.size) := Lib.hid ⟨grownTr (grownTr HG.out.1 (World.grownBy_alloc _ _ (some b))) HO.out.1, by have := HG.out.2; rw [HO.out.2]; simp; omega⟩
    have fK := HX.out.f0
    have cK := HX.out.c0
    have zx := HX.out.lt
    have HX := Lib.hid (HX.out.set0 v)
    have HC := Lib.hid (HC.out.off (C := w.heap.size) (o := 0) (by omega) (.int .i64 v))
    have HS := Lib.hid (HS.out.under hbz ((Below.refl w.heap.size w3).setCell (p := ⟨w.heap.size, 0, none⟩) (Nat.le_refl _) (.int .i64 v)))
    have HG : Hid (w.grownBy (w3.setCell ⟨w.heap.size, 0, none⟩ (.int .i64 v)) (some b) ∧ w.heap.size ≤ (w3.setCell ⟨w.heap.size, 0, none⟩ (.int .i64 v)).heap.size) := Lib.hid ⟨grownOn HG.out.1 ((Below.refl w.heap.size w3).setCell (p := ⟨w.heap.size, 0, none⟩) (Nat.le_refl _) _), by have := HG.out.2; simpa using this⟩
    clear HO
    clear HP HN
    go_upto_region 9 with fail
    generalize w3.setCell ⟨w.heap.size, 0, none⟩ (.int .i64 v) = wk at *
    have b0 := HX.out.c0
    have b1 := HX.out.c1
    have c0 := HC.out.c0
    have c1 := HC.out.c1
    have f0 := HC.out.f0
    have f1 := HC.out.f1
    have zb := HX.out.lt
    have zc := HC.out.lt
    go_wp2
    have k0 : (wk.setCell ⟨w.heap.size + 1, 0, none⟩ (.int .i64 v)).cell? ⟨w.heap.size + 1, 0, none⟩ = some (.int .i64 v) := World.cell?_setCell_same _ _ _ c0
    have k1 : ((wk.setCell ⟨w.heap.size + 1, 0, none⟩ (.int .i64 v)).setCell ⟨w.heap.size + 1, 1, none⟩ (.int .i64 y)).cell? ⟨w.heap.size + 1, 1, none⟩ = some (.int .i64 y) := World.cell?_setCell_same _ _ _ ((World.cell?_setCell_other _ _ _ _ (by simp)).trans c1)
    refine bodyPost_ret (v := ang (v) (y)) (by simp [results, Try.results82, go_sem, k0, k1]) rfl ⟨⟨v, y, rfl⟩, Lib.hid ?_, Lib.hid ?_⟩
    · refine HS.out.under hbz ?_
      (repeat' (first | (with_reducible exact Below.refl _ _) | (with_reducible assumption) | (with_reducible refine belowNext ?_ (by with_reducible assumption)) | (with_reducible refine belowAlloc ?_ _) | (with_reducible refine Below.drew ?_) | (with_reducible refine below_drewN ?_ _) | (with_reducible refine Below.setCell ?_ ?_ _) | go_size | (with_reducible refine sizeOf' ?_) | (with_reducible refine sizeAdd ?_) | (dsimp only; first | (with_reducible refine sizeOf' ?_) | (with_reducible refine sizeAdd ?_))))
    · refine ⟨grownOn HG.out.1 ?_, ?_⟩
      · (repeat' (first | (with_reducible exact Below.refl _ _) | (with_reducible assumption) | (with_reducible refine belowNext ?_ (by with_reducible assumption)) | (with_reducible refine belowAlloc ?_ _) | (with_reducible refine Below.drew ?_) | (with_reducible refine below_drewN ?_ _) | (with_reducible refine Below.setCell ?_ ?_ _) | go_size | (with_reducible refine sizeOf' ?_) | (with_reducible refine sizeAdd ?_) | (dsimp only; first | (with_reducible refine sizeOf' ?_) | (with_reducible refine sizeAdd ?_))))
      · have := HG.out.2
        simp
        omega
  · have d0 : (r == 0) = false := beq_eq_false_iff_ne.2 r0
    by_cases r1 : r = 1
    · subst r1
      have f1 := HX.out.f1
      have z2 := HC.out.lt
      have zx := HX.out.lt
      go_wp2_with fail
      refine (HP.out w2.heap.size 0 4 4 [0, -3, 8192, 1099511627776] _ (HS.out.on (belowAlloc (Below.refl _ _) _)) rfl (by omega) (by omega) (by simp) (by have := HS.out.z; omega) (fun i x hi => ?_)).mono ?_
      · match i, hi with
        | 0, hi | 1, hi | 2, hi | 3, hi => simp at hi; subst hi; simp [go_sem]
        | j + 4, hi => simp at hi
      rintro e w3 ⟨⟨v, rfl, hv⟩, HS, HO⟩
      clear hv f1 z2 zx
      have HX := Lib.hid ((HX.out.below (belowAlloc (Below.refl _ _) _)).one hBb HO.out.1)
      have HC := Lib.hid ((HC.out.below (belowAlloc (Below.refl _ _) _)).one hBc HO.out.1)
      have HG : Hid (w.grownBy w3 (some b) ∧ w.heap.size ≤ w3.heap.size) := Lib.hid ⟨grownTr (grownTr HG.out.1 (World.grownBy_alloc _ _ (some b))) HO.out.1, by have := HG.out.2; rw [HO.out.2]; simp; omega⟩
      have fK := HX.out.f1
      have cK := HX.out.c1
      have zx := HX.out.lt
      have HX := Lib.hid (HX.out.set1 v)
      have HC := Lib.hid (HC.out.off (C := w.heap.size) (o := 1) (by omega) (.int .i64 v))
      have HS := Lib.hid (HS.out.under hbz ((Below.refl w.heap.size w3).setCell (p := ⟨w.heap.size, 1, none⟩) (Nat.le_refl _) (.int .i64 v)))
      have HG : Hid (w.grownBy (w3.setCell ⟨w.heap.size, 1, none⟩ (.int .i64 v)) (some b) ∧ w.heap.size ≤ (w3.setCell ⟨w.heap.size, 1, none⟩ (.int .i64 v)).heap.size) := Lib.hid ⟨grownOn HG.out.1 ((Below.refl w.heap.size w3).setCell (p := ⟨w.heap.size, 1, none⟩) (Nat.le_refl _) _), by have := HG.out.2; simpa using this⟩
      clear HO
      clear HP HN d0
      go_upto_region 9 with fail
      generalize w3.setCell ⟨w.heap.size, 1, none⟩ (.int .i64 v) = wk at *
      have b0 := HX.out.c0
      have b1 := HX.out.c1
      have c0 := HC.out.c0
      have c1 := HC.out.c1
      have f0 := HC.out.f0
      have f1 := HC.out.f1
      have zb := HX.out.lt
      have zc := HC.out.lt
      go_wp2
      have k0 : (wk.setCell ⟨w.heap.size + 1, 0, none⟩ (.int .i64 x)).cell? ⟨w.heap.size + 1, 0, none⟩ = some (.int .i64 x) := World.cell?_setCell_same _ _ _ c0
      have k1 : ((wk.setCell ⟨w.heap.size + 1, 0, none⟩ (.int .i64 x)).setCell ⟨w.heap.size + 1, 1, none⟩ (.int .i64 v)).cell? ⟨w.heap.size + 1, 1, none⟩ = some (.int .i64 v) := World.cell?_setCell_same _ _ _ ((World.cell?_setCell_other _ _ _ _ (by simp)).trans c1)
      refine bodyPost_ret (v := ang (x) (v)) (by simp [results, Try.results82, go_sem, k0, k1]) rfl ⟨⟨x, v, rfl⟩, Lib.hid ?_, Lib.hid ?_⟩
      · refine HS.out.under hbz ?_
        (repeat' (first | (with_reducible exact Below.refl _ _) | (with_reducible assumption) | (with_reducible refine belowNext ?_ (by with_reducible assumption)) | (with_reducible refine belowAlloc ?_ _) | (with_reducible refine Below.drew ?_) | (with_reducible refine below_drewN ?_ _) | (with_reducible refine Below.setCell ?_ ?_ _) | go_size | (with_reducible refine sizeOf' ?_) | (with_reducible refine sizeAdd ?_) | (dsimp only; first | (with_reducible refine sizeOf' ?_) | (with_reducible refine sizeAdd ?_))))
      · refine ⟨grownOn HG.out.1 ?_, ?_⟩
        · (repeat' (first | (with_reducible exact Below.refl _ _) | (with_reducible assumption) | (with_reducible refine belowNext ?_ (by with_reducible assumption)) | (with_reducible refine belowAlloc ?_ _) | (with_reducible refine Below.drew ?_) | (with_reducible refine below_drewN ?_ _) | (with_reducible refine Below.setCell ?_ ?_ _) | go_size | (with_reducible refine sizeOf' ?_) | (with_reducible refine sizeAdd ?_) | (dsimp only; first | (with_reducible refine sizeOf' ?_) | (with_reducible refine sizeAdd ?_))))
        · have := HG.out.2
          simp
          omega
    · have d1 : (r == 1) = false := beq_eq_false_iff_ne.2 r1
      by_cases r2 : r = 2
      · subst r2
        clear HP HN
        have b0 := HX.out.c0
        have b1 := HX.out.c1
        have f0 := HX.out.f0
        have f1 := HX.out.f1
        have zx := HX.out.lt
        have HX := Lib.hid ((HX.out.set0 (wrap64 (2 * x))).set1 (wrap64 (2 * y)))
        have HC := Lib.hid ((HC.out.off (C := w.heap.size) (o := 0) (by omega) (.int .i64 (wrap64 (2 * x)))).off (C := w.heap.size) (o := 1) (by omega) (.int .i64 (wrap64 (2 * y))))
        have HS := Lib.hid ((HS.out.under hbz ((Below.refl w.heap.size w2).setCell (p := ⟨w.heap.size, 0, none⟩) (Nat.le_refl _) (.int .i64 (wrap64 (2 * x))))).under hbz ((Below.refl w.heap.size _).setCell (p := ⟨w.heap.size, 1, none⟩) (Nat.le_refl _) (.int .i64 (wrap64 (2 * y)))))
        have HG : Hid (w.grownBy ((w2.setCell ⟨w.heap.size, 0, none⟩ (.int .i64 (wrap64 (2 * x)))).setCell ⟨w.heap.size, 1, none⟩ (.int .i64 (wrap64 (2 * y)))) (some b) ∧ w.heap.size ≤ ((w2.setCell ⟨w.heap.size, 0, none⟩ (.int .i64 (wrap64 (2 * x)))).setCell ⟨w.heap.size, 1, none⟩ (.int .i64 (wrap64 (2 * y)))).heap.size) :=
          Lib.hid ⟨grownOn HG.out.1 (((Below.refl w.heap.size w2).setCell (p := ⟨w.heap.size, 0, none⟩) (Nat.le_refl _) _).setCell (p := ⟨w.heap.size, 1, none⟩) (Nat.le_refl _) _), by have := HG.out.2; simpa using this⟩
        go_upto_region 9 with fail
        clear b0 b1 f0 f1 zx
        generalize wrap64 (2 * x) = X at *
        generalize wrap64 (2 * y) = Y at *
        generalize (w2.setCell ⟨w.heap.size, 0, none⟩ (.int .i64 X)).setCell ⟨w.heap.size, 1, none⟩ (.int .i64 Y) = wk at *
        have b0 := HX.out.c0
        have b1 := HX.out.c1
        have c0 := HC.out.c0
        have c1 := HC.out.c1
        have f0 := HC.out.f0
        have f1 := HC.out.f1
        have zb := HX.out.lt
        have zc := HC.out.lt
        go_wp2
        have k0 : (wk.setCell ⟨w.heap.size + 1, 0, none⟩ (.int .i64 X)).cell? ⟨w.heap.size + 1, 0, none⟩ = some (.int .i64 X) := World.cell?_setCell_same _ _ _ c0
        have k1 : ((wk.setCell ⟨w.heap.size + 1, 0, none⟩ (.int .i64 X)).setCell ⟨w.heap.size + 1, 1, none⟩ (.int .i64 Y)).cell? ⟨w.heap.size + 1, 1, none⟩ = some (.int .i64 Y) := World.cell?_setCell_same _ _ _ ((World.cell?_setCell_other _ _ _ _ (by simp)).trans c1)
        refine bodyPost_ret (v := ang (X) (Y)) (by simp [results, Try.results82, go_sem, k0, k1]) rfl ⟨⟨X, Y, rfl⟩, Lib.hid ?_, Lib.hid ?_⟩
        · refine HS.out.under hbz ?_
          (repeat' (first | (with_reducible exact Below.refl _ _) | (with_reducible assumption) | (with_reducible refine belowNext ?_ (by with_reducible assumption)) | (with_reducible refine belowAlloc ?_ _) | (with_reducible refine Below.drew ?_) | (with_reducible refine below_drewN ?_ _) | (with_reducible refine Below.setCell ?_ ?_ _) | go_size | (with_reducible refine sizeOf' ?_) | (with_reducible refine sizeAdd ?_) | (dsimp only; first | (with_reducible refine sizeOf' ?_) | (with_reducible refine sizeAdd ?_))))
        · refine ⟨grownOn HG.out.1 ?_, ?_⟩
          · (repeat' (first | (with_reducible exact Below.refl _ _) | (with_reducible assumption) | (with_reducible refine belowNext ?_ (by with_reducible assumption)) | (with_reducible refine belowAlloc ?_ _) | (with_reducible refine Below.drew ?_) | (with_reducible refine below_drewN ?_ _) | (with_reducible refine Below.setCell ?_ ?_ _) | go_size | (with_reducible refine sizeOf' ?_) | (with_reducible refine sizeAdd ?_) | (dsimp only; first | (with_reducible refine sizeOf' ?_) | (with_reducible refine sizeAdd ?_))))
          · have := HG.out.2
            simp
            omega
      · have d2 : (r == 2) = false := beq_eq_false_iff_ne.2 r2
        clear HP HN
        go_upto_region 9 with fail
        have b0 := HX.out.c0
        have b1 := HX.out.c1
        have c0 := HC.out.c0
        have c1 := HC.out.c1
        have f0 := HC.out.f0
        have f1 := HC.out.f1
        have zb := HX.out.lt
        have zc := HC.out.lt
        go_wp2
        have k0 : (w2.setCell ⟨w.heap.size + 1, 0, none⟩ (.int .i64 x)).cell? ⟨w.heap.size + 1, 0, none⟩ = some (.int .i64 x) := World.cell?_setCell_same _ _ _ c0
        have k1 : ((w2.setCell ⟨w.heap.size + 1, 0, none⟩ (.int .i64 x)).setCell ⟨w.heap.size + 1, 1, none⟩ (.int .i64 y)).cell? ⟨w.heap.size + 1, 1, none⟩ = some (.int .i64 y) := World.cell?_setCell_same _ _ _ ((World.cell?_setCell_other _ _ _ _ (by simp)).trans c1)
        refine bodyPost_ret (v := ang (x) (y)) (by simp [results, Try.results82, go_sem, k0, k1]) rfl ⟨⟨x, y, rfl⟩, Lib.hid ?_, Lib.hid ?_⟩
        · refine HS.out.under hbz ?_
          (repeat' (first | (with_reducible exact Below.refl _ _) | (with_reducible assumption) | (with_reducible refine belowNext ?_ (by with_reducible assumption)) | (with_reducible refine belowAlloc ?_ _) | (with_reducible refine Below.drew ?_) | (with_reducible refine below_drewN ?_ _) | (with_reducible refine Below.setCell ?_ ?_ _) | go_size | (with_reducible refine sizeOf' ?_) | (with_reducible refine sizeAdd ?_) | (dsimp only; first | (with_reducible refine sizeOf' ?_) | (with_reducible refine sizeAdd ?_))))
        · refine ⟨grownOn HG.out.1 ?_, ?_⟩
          · (repeat' (first | (with_reducible exact Below.refl _ _) | (with_reducible assumption) | (with_reducible refine belowNext ?_ (by with_reducible assumption)) | (with_reducible refine belowAlloc ?_ _) | (with_reducible refine Below.drew ?_) | (with_reducible refine below_drewN ?_ _) | (with_reducible refine Below.setCell ?_ ?_ _) | go_size | (with_reducible refine sizeOf' ?_) | (with_reducible refine sizeAdd ?_) | (dsimp only; first | (with_reducible refine sizeOf' ?_) | (with_reducible refine sizeAdd ?_))))
          · have := HG.out.2
            simp
            omega

set_option maxRecDepth 8000 in
set_option maxHeartbeats 4000000 in
theorem specSpoil (B b : Nat) (A : Option Addr) (n cap : Nat) (w : World) (h : SrcAt w B b A n cap) (hn : n ≤ 1000000) :
    Calls Try.prog 81 #[.pointer (some ⟨b, 0, none⟩)] w fun e w' => (∃ x y : Int, e = .returned (ang x y)) ∧ Hid (SrcAt w' B b A n cap) ∧ Hid (w.grownBy w' (some b) ∧ w.heap.size ≤ w'.heap.size) := by
  have HD := Lib.hid (fun W (H : Hid (SrcAt W B b A n cap)) => specDraw B b A n cap W H.out hn)
  have HE := Lib.hid (fun (x y : Int) W (H : Hid (SrcAt W B b A n cap)) => specBad B b A n cap x y W H.out hn)
  have hbz := h.z
  have hBb : w.heap.size ≠ b := by omega
  have HS := Lib.hid h
  clear h
  go_enter Try.func81, Try.ntmps81
  go_wp2_with fail
  refine (HD.out _ (Lib.hid (HS.out.on (belowAlloc (Below.refl _ _) _)))).mono ?_
  rintro e w2 ⟨⟨x, y, rfl, _⟩, HS, HO⟩
  have HC := Lib.hid ((resC0 w 0 0 25).one hBb HO.out.1)
  have HG : Hid (w.grownBy w2 (some b) ∧ w.heap.size ≤ w2.heap.size) := Lib.hid ⟨grownTr (World.grownBy_alloc _ _ (some b)) HO.out.1, by have := HO.out.2; simp at this; omega⟩
  clear HO
  go_wp2_with fail
  refine (HE.out x y _ HS).mono ?_
  rintro e w3 ⟨⟨x3, y3, rfl⟩, HS, HO⟩
  have HC := Lib.hid (HC.out.one hBb HO.out.1)
  have HG : Hid (w.grownBy w3 (some b) ∧ w.heap.size ≤ w3.heap.size) := Lib.hid ⟨grownTr HG.out.1 HO.out.1, Nat.le_trans HG.out.2 HO.out.2⟩
  clear HO HD HE
  have c0 := HC.out.c0
  have c1 := HC.out.c1
  have f0 := HC.out.f0
  have f1 := HC.out.f1
  have z9 := HC.out.lt
  go_wp2
  have k0 : (w3.setCell ⟨w.heap.size, 0, none⟩ (.int .i64 x3)).cell? ⟨w.heap.size, 0, none⟩ = some (.int .i64 x3) := World.cell?_setCell_same _ _ _ c0
  have k1 : ((w3.setCell ⟨w.heap.size, 0, none⟩ (.int .i64 x3)).setCell ⟨w.heap.size, 1, none⟩ (.int .i64 y3)).cell? ⟨w.heap.size, 1, none⟩ = some (.int .i64 y3) := World.cell?_setCell_same _ _ _ ((World.cell?_setCell_other _ _ _ _ (by simp)).trans c1)
  refine bodyPost_ret (v := ang x3 y3) (by simp [results, Try.results81, go_sem, k0, k1]) rfl ⟨⟨x3, y3, rfl⟩, Lib.hid ?_, Lib.hid ?_⟩
  · refine HS.out.under hbz ?_
    (repeat' (first | (with_reducible exact Below.refl _ _) | (with_reducible assumption) | (with_reducible refine belowNext ?_ (by with_reducible assumption)) | (with_reducible refine belowAlloc ?_ _) | (with_reducible refine Below.drew ?_) | (with_reducible refine below_drewN ?_ _) | (with_reducible refine Below.setCell ?_ ?_ _) | go_size | (with_reducible refine sizeOf' ?_) | (with_reducible refine sizeAdd ?_) | (dsimp only; first | (with_reducible refine sizeOf' ?_) | (with_reducible refine sizeAdd ?_))))
  · refine ⟨grownOn HG.out.1 ?_, ?_⟩
    · (repeat' (first | (with_reducible exact Below.refl _ _) | (with_reducible assumption) | (with_reducible refine belowNext ?_ (by with_reducible assumption)) | (with_reducible refine belowAlloc ?_ _) | (with_reducible refine Below.drew ?_) | (with_reducible refine below_drewN ?_ _) | (with_reducible refine Below.setCell ?_ ?_ _) | go_size | (with_reducible refine sizeOf' ?_) | (with_reducible refine sizeAdd ?_) | (dsimp only; first | (with_reducible refine sizeOf' ?_) | (with_reducible refine sizeAdd ?_))))
    · have := HG.out.2
      simp
      omega

theorem belowOne {B b : Nat} {w W W' : World} (h : Below B w W) (hb : B ≤ b) (hz : B ≤ w.heap.size) (g : W.grownBy W' (some b)) : Below B w W' :=
  ⟨g.os.trans h.os, g.tape.trans h.tape, g.output.trans h.output, Nat.le_trans h.size g.size, fun k hk => (g.block k (Nat.lt_of_lt_of_le hk (Nat.le_trans hz h.size)) (fun e => by cases e; omega)).trans (h.block k hk)⟩


theorem lawBig (A : Option Addr) (n cap : Nat) (w : World) :
    Calls Try.prog 5 #[.slice A n cap] w fun e w' => e = .returned (.bool (decide (4096 < n))) ∧ w = w' := by
  by_cases h : 4096 < n
  · have d : decide (4096 < (n : Int)) = true := decide_eq_true (by omega)
    have dn : decide (4096 < n) = true := decide_eq_true h
    go_enter Try.func5, Try.ntmps5
    go_wp2
    go_ret
    exact ⟨by simp [h], rfl⟩
  · have d : decide (4096 < (n : Int)) = false := decide_eq_false (by omega)
    have dn : decide (4096 < n) = false := decide_eq_false h
    go_enter Try.func5, Try.ntmps5
    go_wp2
    go_ret
    exact ⟨by simp [h], rfl⟩

set_option maxRecDepth 8000 in
set_option maxHeartbeats 4000000 in
theorem specDraw4 (B b : Nat) (A : Option Addr) (n cap : Nat) (w : World) (h : SrcAt w B b A n cap) (hn : n ≤ 1000000) :
    Calls Try.prog 66 #[.pointer (some ⟨b, 0, none⟩)] w fun e w' => (∃ x y : Int, e = .returned (ang x y)) ∧ Hid (SrcAt w' B b A n cap) ∧ Hid (w.grownBy w' (some b) ∧ w.heap.size ≤ w'.heap.size) := by
  have HN := Lib.hid (fun (m : Int) W (H : Hid (SrcAt W B b A n cap)) (hm : m ≤ 1000000) => specNext B b A n cap m W H.out hn (by omega))
  have HP := Lib.hid (fun b2 o2 len c2 (l : List Int) W (H : SrcAt W B b A n cap) h0 h1 h2 h3 h4 h5 => specPick B b A n cap b2 o2 len c2 l W H hn h0 h1 h2 h3 h4 h5)
  have HSp := Lib.hid (fun W (H : Hid (SrcAt W B b A n cap)) => specSpoil B b A n cap W H.out hn)
  have hbz := h.z
  have hBb : w.heap.size ≠ b := by omega
  have HS := Lib.hid h
  clear h
  go_enter Try.func66, Try.ntmps66
  go_wp2_with fail
  refine (HP.out (w.heap.size + 1) 0 8 8 [2, 3, 4, 5, 5, 6, 7, 8] _ (HS.out.on (belowAlloc (belowAlloc (Below.refl _ _) _) _)) rfl (by omega) (by omega) (by simp) (by omega) (fun i x hi => ?_)).mono ?_
  · match i, hi with
    | 0, hi | 1, hi | 2, hi | 3, hi | 4, hi | 5, hi | 6, hi | 7, hi => simp at hi; subst hi; simp [go_sem]
    | j + 8, hi => simp at hi
  rintro e w1 ⟨⟨x, rfl, hx⟩, HS, HO⟩
  have HX : x = 2 ∨ x = 3 ∨ x = 4 ∨ x = 5 ∨ x = 6 ∨ x = 7 ∨ x = 8 := by
    have h := hx.out
    simp at h
    omega
  have HC := Lib.hid (((resC0 w 0 0 25).below (belowAlloc (Below.refl _ _) _)).one hBb HO.out.1)
  have HG : Hid (w.grownBy w1 (some b) ∧ w.heap.size ≤ w1.heap.size) := Lib.hid ⟨grownTr (grownTr (World.grownBy_alloc _ _ (some b)) (World.grownBy_alloc _ _ (some b))) HO.out.1, by rw [HO.out.2]; simp; omega⟩
  clear hx HO HP
  rcases HX with rfl | rfl | rfl | rfl | rfl | rfl | rfl
  all_goals
    go_wp2_with fail
    refine (HN.out 12 _ HS (by omega)).mono ?_
    rintro e w2 ⟨⟨r, rfl, hr⟩, HS, HO⟩
    have HC := Lib.hid (HC.out.one hBb HO.out.1)
    have HG : Hid (w.grownBy w2 (some b) ∧ w.heap.size ≤ w2.heap.size) := Lib.hid ⟨grownTr HG.out.1 HO.out.1, by rw [HO.out.2]; exact HG.out.2⟩
    clear hr HO
    by_cases r0 : r = 0
    · subst r0
      clear HN
      go_wp2_with fail
      refine (HSp.out _ HS).mono ?_
      rintro e w9 ⟨⟨X, Y, rfl⟩, HS, HO⟩
      have HC := Lib.hid (HC.out.one hBb HO.out.1)
      have HG : Hid (w.grownBy w9 (some b) ∧ w.heap.size ≤ w9.heap.size) := Lib.hid ⟨grownTr HG.out.1 HO.out.1, Nat.le_trans HG.out.2 HO.out.2⟩
      clear HO HSp
      have c0 := HC.out.c0
      have c1 := HC.out.c1
      have f0 := HC.out.f0
      have f1 := HC.out.f1
      have z9 := HC.out.lt
      go_wp2
      have k0 : (w9.setCell ⟨w.heap.size, 0, none⟩ (.int .i64 X)).cell? ⟨w.heap.size, 0, none⟩ = some (.int .i64 X) := World.cell?_setCell_same _ _ _ c0
      have k1 : ((w9.setCell ⟨w.heap.size, 0, none⟩ (.int .i64 X)).setCell ⟨w.heap.size, 1, none⟩ (.int .i64 Y)).cell? ⟨w.heap.size, 1, none⟩ = some (.int .i64 Y) := World.cell?_setCell_same _ _ _ ((World.cell?_setCell_other _ _ _ _ (by simp)).trans c1)
      refine bodyPost_ret (v := ang X Y) (by simp [results, Try.results66, go_sem, k0, k1]) rfl ⟨⟨X, Y, rfl⟩, Lib.hid ?_, Lib.hid ?_⟩
      · refine HS.out.under hbz ?_
        (repeat' (first | (with_reducible exact Below.refl _ _) | (with_reducible assumption) | (with_reducible refine belowNext ?_ (by with_reducible assumption)) | (with_reducible refine belowAlloc ?_ _) | (with_reducible refine Below.drew ?_) | (with_reducible refine below_drewN ?_ _) | (with_reducible refine Below.setCell ?_ ?_ _) | go_size | (with_reducible refine sizeOf' ?_) | (with_reducible refine sizeAdd ?_) | (dsimp only; first | (with_reducible refine sizeOf' ?_) | (with_reducible refine sizeAdd ?_))))
      · refine ⟨grownOn HG.out.1 ?_, ?_⟩
        · (repeat' (first | (with_reducible exact Below.refl _ _) | (with_reducible assumption) | (with_reducible refine belowNext ?_ (by with_reducible assumption)) | (with_reducible refine belowAlloc ?_ _) | (with_reducible refine Below.drew ?_) | (with_reducible refine below_drewN ?_ _) | (with_reducible refine Below.setCell ?_ ?_ _) | go_size | (with_reducible refine sizeOf' ?_) | (with_reducible refine sizeAdd ?_) | (dsimp only; first | (with_reducible refine sizeOf' ?_) | (with_reducible refine sizeAdd ?_))))
        · have := HG.out.2
          simp
          omega
    · have d0 : (r == 0) = false := beq_eq_false_iff_ne.2 r0
      clear HSp
      go_wp2_with fail
      refine (HN.out _ _ HS (by omega)).mono ?_
      rintro e w8 ⟨⟨r8, rfl, hr8⟩, HS, HO⟩
      obtain ⟨q0, q1⟩ := hr8.out.2 (by omega)
      have HC := Lib.hid (HC.out.one hBb HO.out.1)
      have HG : Hid (w.grownBy w8 (some b) ∧ w.heap.size ≤ w8.heap.size) := Lib.hid ⟨grownTr HG.out.1 HO.out.1, by rw [HO.out.2]; exact HG.out.2⟩
      clear hr8 HO d0 r0 HN
      go_wp2_with fail
      refine (specRed r8 _ w8 (by omega) (by omega) (by omega) (by omega)).mono ?_
      rintro e w9 ⟨rfl, hb9⟩
      have HS := Lib.hid (HS.out.on hb9)
      have HC := Lib.hid (HC.out.below hb9)
      have HG : Hid (w.grownBy w9 (some b) ∧ w.heap.size ≤ w9.heap.size) := Lib.hid ⟨grownTr HG.out.1 (grownOf hb9 b), Nat.le_trans HG.out.2 hb9.size⟩
      clear hb9
      generalize redN r8 _ = X at *
      generalize redD r8 _ = Y at *
      have c0 := HC.out.c0
      have c1 := HC.out.c1
      have f0 := HC.out.f0
      have f1 := HC.out.f1
      have z9 := HC.out.lt
      go_wp2
      have k0 : (w9.setCell ⟨w.heap.size, 0, none⟩ (.int .i64 X)).cell? ⟨w.heap.size, 0, none⟩ = some (.int .i64 X) := World.cell?_setCell_same _ _ _ c0
      have k1 : ((w9.setCell ⟨w.heap.size, 0, none⟩ (.int .i64 X)).setCell ⟨w.heap.size, 1, none⟩ (.int .i64 Y)).cell? ⟨w.heap.size, 1, none⟩ = some (.int .i64 Y) := World.cell?_setCell_same _ _ _ ((World.cell?_setCell_other _ _ _ _ (by simp)).trans c1)
      refine bodyPost_ret (v := ang X Y) (by simp [results, Try.results66, go_sem, k0, k1]) rfl ⟨⟨X, Y, rfl⟩, Lib.hid ?_, Lib.hid ?_⟩
      · refine HS.out.under hbz ?_
        (repeat' (first | (with_reducible exact Below.refl _ _) | (with_reducible assumption) | (with_reducible refine belowNext ?_ (by with_reducible assumption)) | (with_reducible refine belowAlloc ?_ _) | (with_reducible refine Below.drew ?_) | (with_reducible refine below_drewN ?_ _) | (with_reducible refine Below.setCell ?_ ?_ _) | go_size | (with_reducible refine sizeOf' ?_) | (with_reducible refine sizeAdd ?_) | (dsimp only; first | (with_reducible refine sizeOf' ?_) | (with_reducible refine sizeAdd ?_))))
      · refine ⟨grownOn HG.out.1 ?_, ?_⟩
        · (repeat' (first | (with_reducible exact Below.refl _ _) | (with_reducible assumption) | (with_reducible refine belowNext ?_ (by with_reducible assumption)) | (with_reducible refine belowAlloc ?_ _) | (with_reducible refine Below.drew ?_) | (with_reducible refine below_drewN ?_ _) | (with_reducible refine Below.setCell ?_ ?_ _) | go_size | (with_reducible refine sizeOf' ?_) | (with_reducible refine sizeAdd ?_) | (dsimp only; first | (with_reducible refine sizeOf' ?_) | (with_reducible refine sizeAdd ?_))))
        · have := HG.out.2
          simp
          omega

theorem codeOn {w W : World} {A : Option Addr} {n : Nat} (h : CodeRow w w.heap.size A n) (hB : Below w.heap.size w W) : CodeRow W W.heap.size A n := fun hp => by
  obtain ⟨b, off, e, hb, hc⟩ := h hp
  exact ⟨b, off, e, Nat.lt_of_lt_of_le hb hB.size, fun i hi => by
    obtain ⟨v, hv, hx⟩ := hc i hi
    exact ⟨v, hv, (hB.cell (p := ⟨b, off + i, none⟩) hb).trans hx⟩⟩

end Go.Proofs.Ytnciiodgkanpjaa

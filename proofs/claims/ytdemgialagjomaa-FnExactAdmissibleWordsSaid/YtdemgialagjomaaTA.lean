/-
  Contracts: lists of texts as answers: compared, marked, looked at again.
-/
import Derived.Test.YtdemgialagjomaaS2
import Derived.Test.YtdemgialagjomaaOrb
import Derived.Deep.RegionHeld
namespace Go.Proofs.Ytdemgialagjomaa
open Go.RowKit

theorem oneBT (v : Int) (b : UInt8) (hx : UInt8.ofNat v.toNat = b) (W : World) (T : TypeId) : (convert 30 9 (.slice (some ⟨W.heap.size, 0, none⟩) 1 1)).run Try.prog (W.alloc (.cells #[.int .u8 v] T)) = .ok (.string (bs [b])) (W.alloc (.cells #[.int .u8 v] T)) := by
  have h := run_convert_bytes_arg (P := Try.prog) (W.alloc (.cells #[.int .u8 v] T)) 30 5 Try.underlying30 Try.underlying5 W.heap.size 0 1 1 [v] rfl (fun i hi => by
    obtain rfl : i = 0 := by omega
    simp [go_sem]) 9 Try.underlying9
  rw [h, show strOfNums [v] = bs [b] by rw [← hx]; rfl]

/-- The digits of a number. -/
def dgT (k : Nat) : Wd := if _h : k = 0 then [] else dgT (k / 10) ++ [UInt8.ofNat (48 + k % 10)]
termination_by k
decreasing_by omega
theorem dgT_zero : dgT 0 = [] := by rw [dgT]; rfl
theorem dgT_pos {k : Nat} (h : k ≠ 0) : dgT k = dgT (k / 10) ++ [UInt8.ofNat (48 + k % 10)] := by rw [dgT, dif_neg h]
/-- The text of a mark. -/
def mtT (k : Nat) : Wd := 109 :: dgT k

set_option maxRecDepth 8000 in
set_option maxHeartbeats 2000000 in
theorem markTxT (k : Nat) (w : World) (h0 : 0 < k) (hk : k ≤ 1000000) :
    Calls Try.prog 13 #[.int .i64 (k : Int)] w fun e w' => e = .returned (.string (bs (mtT k))) ∧ Below w.heap.size w w' := by
  have d0 : decide ((k : Int) ≤ 0) = false := decide_eq_false (by omega)
  have d0n : decide (k ≤ 0) = false := decide_eq_false (by omega)
  have d0p : ¬ k = 0 := by omega
  have HF : Hid (∀ acc, dgT 0 ++ acc = dgT k → (109 :: acc : Wd) = mtT k) := Lib.hid (fun acc h => by unfold mtT; rw [← h, dgT_zero]; rfl)
  go_enter Try.func13, Try.ntmps13
  go_wp2
  go_loopw [0, 3] (fun s0 s3 wr => ∃ (r : Nat) (acc : Wd), s0 = .int .i64 (r : Int) ∧ s3 = .string (bs acc) ∧ r ≤ k ∧ Hid (dgT r ++ acc = dgT k ∧ acc.length + r ≤ k) ∧ Below w.heap.size w wr) (fun s0 _ _ => (intOf s0).toNat)
  case atStart => exact ⟨k, [], rfl, rfl, by omega, Lib.hid ⟨by simp, by simp⟩, Below.refl _ _⟩
  case round =>
    obtain ⟨r, acc, rfl, rfl, hr, HA, HB⟩ := hrel
    by_cases hz : r = 0
    · subst hz
      have HE := Lib.hid (HF.out acc HA.out.1)
      have hl := HA.out.2
      have ct : ∀ W, (Op.stringOp .add ⟨#[109]⟩ (bs acc)).run Try.prog W = .ok (.string (bs (109 :: acc))) W := fun W => catO [109] acc (by simp; omega) W
      have hbs := bs_size acc
      rw [HE.out] at ct
      clear hl hbs HF HA
      go_wp2
      go_ret
      exact ⟨rfl, HB⟩
    · have hl := HA.out.2
      have d1 : decide ((r : Int) > 0) = true := decide_eq_true (by omega)
      have d1n : decide (0 < r) = true := decide_eq_true (by omega)
      have d1p : (0 < r) = True := eq_true (by omega)
      have m1 : (r : Int).tmod 10 = ((r % 10 : Nat) : Int) := by rw [Int.tmod_eq_emod_of_nonneg (by omega)]; omega
      have q1 : (r : Int).tdiv 10 = ((r / 10 : Nat) : Int) := by rw [Int.tdiv_eq_ediv_of_nonneg (by omega)]; omega
      have hlt := Nat.mod_lt r (show 0 < 10 by omega)
      have w1 : IntKind.i64.wrap (48 + ((r % 10 : Nat) : Int)) = ((48 + r % 10 : Nat) : Int) := by rw [IntWalk.i64_in _ (by omega)]; omega
      have w2 : IntKind.u8.wrap ((48 + r % 10 : Nat) : Int) = ((48 + r % 10 : Nat) : Int) := (by decide : ∀ j : Nat, j < 10 → IntKind.u8.wrap ((48 + j : Nat) : Int) = ((48 + j : Nat) : Int)) _ hlt
      have HN : Hid (dgT (r / 10) ++ ([UInt8.ofNat (48 + r % 10)] ++ acc) = dgT k ∧ ([UInt8.ofNat (48 + r % 10)] ++ acc).length + r / 10 ≤ k) := Lib.hid ⟨by rw [← HA.out.1, dgT_pos hz, List.append_assoc], by simp; omega⟩
      have ob := fun W T => oneBT ((48 + r % 10 : Nat) : Int) (UInt8.ofNat (48 + r % 10)) (by rw [Int.toNat_natCast]) W T
      have ct : ∀ W, (Op.stringOp .add (bs [UInt8.ofNat (48 + r % 10)]) (bs acc)).run Try.prog W = .ok (.string (bs ([UInt8.ofNat (48 + r % 10)] ++ acc))) W := fun W => catO _ acc (by simp; omega) W
      have hdiv : r / 10 < r := Nat.div_lt_self (by omega) (by omega)
      generalize UInt8.ofNat (48 + r % 10) = ch at *
      generalize ((48 + r % 10 : Nat) : Int) = D at *
      generalize ((r % 10 : Nat) : Int) = M at *
      generalize r / 10 = r' at *
      generalize [ch] ++ acc = acc' at *
      generalize bs [ch] = cs at *
      clear HF HA hl hlt
      have HB' := belowAlloc HB (.cells #[.int .u8 D] 5)
      go_wp2
      go_roundw
      case rel => exact ⟨r', acc', rfl, rfl, by omega, HN, HB'⟩
      case measure => simp [intOf]; omega

/-- A slice with the address A holds the texts l, in a block below B. -/
def StrRow (w : World) (B : Nat) (A : Option Addr) (l : List Wd) : Prop :=
  l ≠ [] → ∃ b off, A = some ⟨b, off, none⟩ ∧ b < B ∧ ∀ i n, l[i]? = some n → w.cell? ⟨b, off + i, none⟩ = some (.string (bs n))
/-- The same in a block from lo on, whose cells may be written. -/
def StrOwn (w : World) (lo : Nat) (A : Option Addr) (l : List Wd) : Prop :=
  l ≠ [] → ∃ b off, A = some ⟨b, off, none⟩ ∧ lo ≤ b ∧ b < w.heap.size ∧ ∀ i n, l[i]? = some n → w.cell? ⟨b, off + i, none⟩ = some (.string (bs n)) ∧ w.frozen? ⟨b, off + i, none⟩ = false
theorem StrRow.keep {w w' : World} {B : Nat} {A : Option Addr} {l : List Wd} (h : StrRow w B A l) (hk : ∀ p : Addr, p.block < B → w'.cell? p = w.cell? p) : StrRow w' B A l := by
  intro hl
  obtain ⟨b, off, e, hb, hc⟩ := h hl
  exact ⟨b, off, e, hb, fun i n hi => (hk _ hb).trans (hc i n hi)⟩
theorem StrRow.below {w w' : World} {B : Nat} {A : Option Addr} {l : List Wd} (h : StrRow w B A l) (hb : Below B w w') : StrRow w' B A l := h.keep fun _ hp => hb.cell hp
theorem StrRow.more {w : World} {B B' : Nat} {A : Option Addr} {l : List Wd} (h : StrRow w B A l) (hB : B ≤ B') : StrRow w B' A l := by
  intro hl
  obtain ⟨b, off, e, hb, hc⟩ := h hl
  exact ⟨b, off, e, by omega, hc⟩
theorem StrOwn.row {w : World} {lo : Nat} {A : Option Addr} {l : List Wd} (h : StrOwn w lo A l) : StrRow w w.heap.size A l := by
  intro hl
  obtain ⟨b, off, e, _, hb, hc⟩ := h hl
  exact ⟨b, off, e, hb, fun i n hi => (hc i n hi).1⟩
theorem StrOwn.next {w w' : World} {lo : Nat} {A : Option Addr} {l : List Wd} (h : StrOwn w lo A l) (hb : Below w.heap.size w w') : StrOwn w' lo A l := by
  intro hl
  obtain ⟨b, off, e, h1, h2, hc⟩ := h hl
  refine ⟨b, off, e, h1, Nat.lt_of_lt_of_le h2 hb.size, fun i n hi => ?_⟩
  obtain ⟨a1, a2⟩ := hc i n hi
  exact ⟨(hb.cell (p := ⟨b, _, none⟩) h2).trans a1, (hb.frozen (p := ⟨b, _, none⟩) h2).trans a2⟩

/-- The marks that are written: k, k + 1, and so on. -/
def marksS (k : Nat) (n : Nat) : List Wd := (List.range n).map fun (i : Nat) => mtT (k + i)
theorem marksS_len (k : Nat) (n : Nat) : (marksS k n).length = n := by simp [marksS]
theorem marksS_at {k : Nat} {n i : Nat} (h : i < n) : (marksS k n)[i]? = some (mtT (k + i)) := by
  simp [marksS, List.getElem?_map, List.getElem?_range h]
def markedS (k : Nat) (l : List Wd) (n : Nat) : List Wd := marksS k n ++ l.drop n
theorem markedS_all (k : Nat) (l : List Wd) : markedS k l l.length = marksS k l.length := by simp [markedS]
theorem markedS_none (k : Nat) (l : List Wd) : markedS k l 0 = l := by simp [markedS, marksS]
theorem markedS_old {k : Nat} {l : List Wd} {n i : Nat} (h : n ≤ i) : (markedS k l n)[i]? = l[i]? := by
  unfold markedS
  rw [List.getElem?_append_right (by rw [marksS_len]; exact h), marksS_len, List.getElem?_drop]
  congr 1; omega
theorem markedS_new {k : Nat} {l : List Wd} {n i : Nat} (h : i < n) : (markedS k l n)[i]? = some (mtT (k + i)) := by
  unfold markedS
  rw [List.getElem?_append_left (by rw [marksS_len]; exact h), marksS_at h]
theorem markS_step {W : World} {lo b off k : Nat} {k0 : Nat} {l : List Wd} (hkl : k < l.length) (hlo : lo ≤ b) (hb : b < W.heap.size)
    (hc : ∀ i n, (markedS k0 l k)[i]? = some n → W.cell? ⟨b, off + i, none⟩ = some (.string (bs n)) ∧ W.frozen? ⟨b, off + i, none⟩ = false) :
    StrOwn (W.setCell ⟨b, off + k, none⟩ (.string (bs (mtT (k0 + k))))) lo (some ⟨b, off, none⟩) (markedS k0 l (k + 1)) := by
  intro _
  refine ⟨b, off, rfl, hlo, by simpa using hb, fun i n hi => ?_⟩
  by_cases hik : i = k
  · subst hik
    have hx := markedS_new (k := k0) (l := l) (show i < i + 1 by omega)
    rw [hx] at hi
    injection hi with hi
    subst hi
    have hy : (markedS k0 l i)[i]? = some l[i] := by rw [markedS_old (Nat.le_refl _), List.getElem?_eq_getElem hkl]
    obtain ⟨a1, a2⟩ := hc i _ hy
    exact ⟨World.cell?_setCell_same _ _ _ a1, by simpa using a2⟩
  · have hy : (markedS k0 l k)[i]? = some n := by
      by_cases h : i < k
      · rw [markedS_new h, ← hi, markedS_new (by omega)]
      · rw [markedS_old (by omega), ← hi, markedS_old (by omega)]
    obtain ⟨a1, a2⟩ := hc i _ hy
    exact ⟨(World.cell?_setCell_other _ _ _ _ (by intro e; injection e; omega)).trans a1, by simpa using a2⟩


set_option maxHeartbeats 1000000 in
theorem eqStrS (A A' : Option Addr) (len cap cap' : Nat) (l : List Wd) (w : World) (hr : StrRow w w.heap.size A l) (hr' : StrRow w w.heap.size A' l) (hl : l.length = len) (hm : len ≤ 4611686018427387904) :
    Calls Try.prog 6 #[.slice A len cap, .slice A' len cap'] w fun e w' => e = .returned (.bool true) ∧ Hid (∃ n, w' = w.drewN n) := by
  have HR := Lib.hid hr
  have HR' := Lib.hid hr'
  have HL := Lib.hid hl
  clear hr hr' hl
  go_enter Try.func6, Try.ntmps6
  go_wp2
  go_loopw [5] (fun i wr => ∃ k : Nat, k ≤ len ∧ i = .int .i64 k ∧ Hid (∃ n, wr = w.drewN n)) (fun i _ => len - (intOf i).toNat)
  case atStart => exact ⟨0, by omega, rfl, Lib.hid ⟨0, rfl⟩⟩
  case round =>
    obtain ⟨k, hk, rfl, HW⟩ := hrel
    by_cases hlt : k < len
    · have hkl : k < l.length := by have := HL.out; omega
      obtain ⟨n, hn⟩ : ∃ n, l[k] = n := ⟨_, rfl⟩
      have hk2 : l[k]? = some n := by rw [List.getElem?_eq_getElem hkl, hn]
      have hne : l ≠ [] := by intro h; rw [h] at hkl; simp at hkl
      obtain ⟨b, off, rfl, hbb, hcells⟩ := HR.out hne
      obtain ⟨b', off', rfl, hbb', hcells'⟩ := HR'.out hne
      have x0 : wr.cell? ⟨b, off + k, none⟩ = some (.string (bs n)) := by obtain ⟨j, hj⟩ := HW.out; rw [hj]; exact hcells k n hk2
      have y0 : wr.cell? ⟨b', off' + k, none⟩ = some (.string (bs n)) := by obtain ⟨j, hj⟩ := HW.out; rw [hj]; exact hcells' k n hk2
      clear hn hcells hcells' hk2 hne
      go_wp2
      go_quiet (fail)
      go_wp2
      go_roundw
      case rel => exact ⟨k + 1, by omega, by go_num, by obtain ⟨j, hj⟩ := HW.out; exact Lib.hid ⟨_, by rw [hj, World.drewN_drewN]⟩⟩
      case measure => simp [intOf]; omega
    · obtain rfl : k = len := by omega
      go_wp2
      go_ret
      exact ⟨rfl, HW⟩

/-- A cell of a row, kept. -/
structure HdT (w : World) (b o : Nat) (x : Wd) (W : World) : Prop where
  B : Below w.heap.size w W
  z : b < w.heap.size
  a0 : W.cell? ⟨b, o, none⟩ = some (.string (bs x))
theorem HdT.on {w W w1 : World} {b o : Nat} {x : Wd} (H : HdT w b o x W) (hb : Below W.heap.size W w1) : HdT w b o x w1 :=
  ⟨belowNext H.B hb, H.z, cellThru hb (Nat.lt_of_lt_of_le H.z H.B.size) H.a0⟩

set_option maxRecDepth 8000 in
set_option maxHeartbeats 2000000 in
theorem heldStr (A : Option Addr) (len cap : Nat) (k0 : Nat) (w : World) (hr : StrRow w w.heap.size A (marksS k0 len)) (hk0 : 0 < k0) (hk1 : k0 ≤ 100000) (hm : len ≤ 400000) :
    Calls Try.prog 8 #[.slice A len cap, .int .i64 (k0 : Int)] w fun e w' => e = .returned (.int .i64 ((k0 + len : Nat) : Int)) ∧ Below w.heap.size w w' := by
  have HR := Lib.hid hr
  have HM := Lib.hid markTxT
  clear hr
  go_enter Try.func8, Try.ntmps8
  go_wp2
  go_loopw [1, 5] (fun q i wr => ∃ k : Nat, k ≤ len ∧ i = .int .i64 k ∧ q = .int .i64 ((k0 + k : Nat) : Int) ∧ Below w.heap.size w wr) (fun _ i _ => len - (intOf i).toNat)
  case atStart => exact ⟨0, by omega, rfl, rfl, Below.refl _ _⟩
  case round =>
    obtain ⟨k, hk, rfl, rfl, HB⟩ := hrel
    by_cases hlt : k < len
    · have hk2 : (marksS k0 len)[k]? = some (mtT (k0 + k)) := marksS_at hlt
      have hne : marksS k0 len ≠ [] := by intro h; rw [h] at hk2; simp at hk2
      obtain ⟨b, off, rfl, hbb, hcells⟩ := HR.out hne
      have HM1 := Lib.hid (fun w => HM.out (k0 + k) w (by omega) (by omega))
      have w1 : IntKind.i64.wrap (((k0 + k : Nat) : Int) + 1) = ((k0 + (k + 1) : Nat) : Int) := by rw [IntWalk.i64_in _ (by omega)]; omega
      have S : HdT w b (off + k) (mtT (k0 + k)) wr := ⟨HB, hbb, (HB.cell (p := ⟨b, _, none⟩) hbb).trans (hcells k _ hk2)⟩
      clear hcells hk2 hne HM
      generalize mtT (k0 + k) = m1 at *
      generalize ((k0 + k : Nat) : Int) = J1 at *
      obtain ⟨J3, hJ3⟩ : ∃ J3, ((k0 + (k + 1) : Nat) : Int) = J3 := ⟨_, rfl⟩
      rw [hJ3] at w1
      go_wp2_with fail
      refine wp_region_held_drew (S := (HdT w b (off + k) m1)) (by kernel_rfl) ?_ (fun hHeld => ?_)
      · exact S.on (Below.refl _ _).drew
      refine wpAnyH_take (i := 0) (v := ?_) rfl (by kernel_rfl) (by kernel_rfl) (by kernel_rfl) (fun _ _ _ h => h) (Or.inl ⟨by kernel_rfl, ?_⟩) hHeld ?_
      rotate_left
      · intro w hSw; obtain ⟨B, z, a0⟩ := hSw; first | (go_simp; done) | (go_simp; with_reducible rfl)
      refine wpAnyH_take (i := 1) (v := ?_) rfl (by kernel_rfl) (by kernel_rfl) (by kernel_rfl) (fun _ _ _ h => h) (Or.inl ⟨by kernel_rfl, ?_⟩) hHeld ?_
      rotate_left
      · intro w hSw; obtain ⟨B, z, a0⟩ := hSw; first | (go_simp; done) | (go_simp; with_reducible rfl)
      refine wpAnyH_take (i := 2) (v := ?_) rfl (by kernel_rfl) (by kernel_rfl) (by kernel_rfl) (fun _ _ _ h => h) (Or.inl ⟨by kernel_rfl, ?_⟩) hHeld ?_
      rotate_left
      · intro w hSw; obtain ⟨B, z, a0⟩ := hSw; first | (go_simp; done) | (go_simp; with_reducible rfl)
      refine wpAnyH_take (i := 3) (v := ?_) rfl (by kernel_rfl) (by kernel_rfl) (by kernel_rfl) (fun _ _ _ h => h) (Or.inl ⟨by kernel_rfl, ?_⟩) hHeld ?_
      rotate_left
      · intro w hSw; obtain ⟨B, z, a0⟩ := hSw; first | (go_simp; done) | (go_simp; with_reducible rfl)
      refine wpAnyH_take (i := 4) (v := ?_) rfl (by kernel_rfl) (by kernel_rfl) (by kernel_rfl) (fun _ _ _ h => h) (Or.inl ⟨by kernel_rfl, ?_⟩) hHeld ?_
      rotate_left
      · intro w hSw; obtain ⟨B, z, a0⟩ := hSw; first | (go_simp; done) | (go_simp; with_reducible rfl)
      refine wpAnyH_ready (rs := [5]) (by kernel_rfl) (by simp) ?_
      refine AllReadyH.cons rfl (fun K hK => ?_) AllReadyH.nil
      go_simp
      go_wp2_with (go_at_call 13; (with_reducible refine (HM1.out _).mono ?_); rintro e w4 ⟨rfl, hb4⟩)
      have S4 := hHeld.on hb4
      refine hK.out _ _ ?_ (fun hHeld => ?_)
      · exact S4
      clear hK K
      refine wpAnyH_take (i := 6) (v := ?_) rfl (by kernel_rfl) (by kernel_rfl) (by kernel_rfl) (fun _ _ _ h => h) (Or.inl ⟨by kernel_rfl, ?_⟩) hHeld ?_
      rotate_left
      · intro w hSw; obtain ⟨B, z, a0⟩ := hSw; first | (go_simp; done) | (go_simp; with_reducible rfl)
      refine wpAnyH_done (by kernel_rfl) ?_ _
      go_wp2
      go_roundw
      case rel => exact ⟨k + 1, by omega, by go_num, by rw [hJ3], S4.B⟩
      case measure => simp [intOf]; omega
    · obtain rfl : k = len := by omega
      go_wp2
      go_ret
      exact ⟨rfl, HB⟩

set_option maxRecDepth 8000 in
set_option maxHeartbeats 2000000 in
theorem markStr (A : Option Addr) (len cap : Nat) (l : List Wd) (lo : Nat) (k0 : Nat) (w : World) (hr : StrOwn w lo A l) (hl : l.length = len) (hk0 : 0 < k0) (hk1 : k0 ≤ 100000) (hm : len ≤ 400000) :
    Calls Try.prog 7 #[.slice A len cap, .int .i64 (k0 : Int)] w fun e w' => e = .returned (.int .i64 ((k0 + len : Nat) : Int)) ∧ Hid (StrOwn w' lo A (marksS k0 len) ∧ Below lo w w' ∧ w.heap.size ≤ w'.heap.size) := by
  have HR := Lib.hid hr
  have HL := Lib.hid hl
  have HM := Lib.hid markTxT
  clear hr hl
  go_enter Try.func7, Try.ntmps7
  go_wp2
  go_loopw [1, 5] (fun q i wr => ∃ k : Nat, k ≤ len ∧ i = .int .i64 k ∧ q = .int .i64 ((k0 + k : Nat) : Int) ∧ Hid (StrOwn wr lo A (markedS k0 l k) ∧ Below lo w wr ∧ w.heap.size ≤ wr.heap.size)) (fun _ i _ => len - (intOf i).toNat)
  case atStart => exact ⟨0, by omega, rfl, by simp, Lib.hid ⟨by rw [markedS_none]; exact HR.out, Below.refl _ _, Nat.le_refl _⟩⟩
  case round =>
    obtain ⟨k, hk, rfl, rfl, H⟩ := hrel
    by_cases hlt : k < len
    · have hkl : k < l.length := by have := HL.out; omega
      obtain ⟨n, hn⟩ : ∃ n, l[k] = n := ⟨_, rfl⟩
      have hk2 : (markedS k0 l k)[k]? = some n := by rw [markedS_old (Nat.le_refl _), List.getElem?_eq_getElem hkl, hn]
      have hne : markedS k0 l k ≠ [] := by intro h; rw [h] at hk2; simp at hk2
      obtain ⟨b, off, rfl, hlo, hbb, hcells⟩ := H.out.1 hne
      obtain ⟨x0, x2⟩ := hcells k n hk2
      have HC := Lib.hid hcells
      have HM1 := Lib.hid (fun w => HM.out (k0 + k) w (by omega) (by omega))
      have w1 : IntKind.i64.wrap (((k0 + k : Nat) : Int) + 1) = ((k0 + (k + 1) : Nat) : Int) := by rw [IntWalk.i64_in _ (by omega)]; omega
      clear hcells hne hn HM
      go_wp2_with fail
      refine (HM1.out _).mono ?_
      rintro e w4 ⟨rfl, hb4⟩
      have x0 : w4.cell? ⟨b, off + k, none⟩ = some (.string (bs n)) := (hb4.cell (p := ⟨b, _, none⟩) hbb).trans x0
      have x2 : w4.frozen? ⟨b, off + k, none⟩ = false := (hb4.frozen (p := ⟨b, _, none⟩) hbb).trans x2
      have hbb4 : b < w4.heap.size := Nat.lt_of_lt_of_le hbb hb4.size
      have HB4 := Lib.hid (belowNext (Below.refl _ _) hb4)
      have hbs := hb4.size
      have HN4 : Hid (StrOwn (w4.setCell ⟨b, off + k, none⟩ (.string (bs (mtT (k0 + k))))) lo (some ⟨b, off, none⟩) (markedS k0 l (k + 1)) ∧ Below lo w (w4.setCell ⟨b, off + k, none⟩ (.string (bs (mtT (k0 + k))))) ∧ w.heap.size ≤ (w4.setCell ⟨b, off + k, none⟩ (.string (bs (mtT (k0 + k))))).heap.size) := Lib.hid ⟨markS_step hkl hlo hbb4 (fun i m hi => by
        obtain ⟨a1, a2⟩ := HC.out i m hi
        exact ⟨(hb4.cell (p := ⟨b, _, none⟩) hbb).trans a1, (hb4.frozen (p := ⟨b, _, none⟩) hbb).trans a2⟩), (H.out.2.1.trans (hb4.mono (Nat.le_trans hlo (Nat.le_of_lt hbb)))).setCell hlo _, by simp; exact Nat.le_trans H.out.2.2 hbs⟩
      clear hb4 HC hbs HB4
      generalize mtT (k0 + k) = m1 at *
      go_wp2
      go_roundw
      case rel => exact ⟨k + 1, by omega, by go_num, by first | rw [w1] | (congr 1; omega) | go_num, HN4⟩
      case measure => simp [intOf]; omega
    · obtain rfl : k = len := by omega
      have h1 := H.out.1
      rw [← HL.out, markedS_all, HL.out] at h1
      have H1 := Lib.hid (And.intro h1 H.out.2)
      clear h1
      go_wp2
      go_ret
      exact ⟨rfl, H1⟩
theorem heldStr1 (A : Option Addr) (len cap : Nat) (w : World) (hr : StrRow w w.heap.size A (marksS 1 len)) (hm : len ≤ 400000) :
    Calls Try.prog 8 #[.slice A len cap, .int .i64 1] w fun e w' => e = .returned (.int .i64 (1 + (len : Int))) ∧ Below w.heap.size w w' := by
  have h := heldStr A len cap 1 w hr (by omega) (by omega) hm
  rw [show ((1 + len : Nat) : Int) = 1 + (len : Int) by omega] at h
  exact h
theorem markStr1 (A : Option Addr) (len cap : Nat) (l : List Wd) (lo : Nat) (w : World) (hr : StrOwn w lo A l) (hl : l.length = len) (hm : len ≤ 400000) :
    Calls Try.prog 7 #[.slice A len cap, .int .i64 1] w fun e w' => e = .returned (.int .i64 (1 + (len : Int))) ∧ Hid (StrOwn w' lo A (marksS 1 len) ∧ Below lo w w' ∧ w.heap.size ≤ w'.heap.size) := by
  have h := markStr A len cap l lo 1 w hr hl (by omega) (by omega) hm
  rw [show ((1 + len : Nat) : Int) = 1 + (len : Int) by omega] at h
  exact h
end Go.Proofs.Ytdemgialagjomaa

/-
  Contracts: lists of sequences as results: compared, marked, looked at again; written by genE23.py.
-/
import Derived.Test.YtomcmjnhfloeeaaDoorE21
import Derived.Test.YtomcmjnhfloeeaaDoorD6
import Derived.Deep.RegionHeld
namespace Go.Proofs.YtomcmjnhfloeeaaDoor
open Go.RowKit

/-- The digits of a number. -/
def dg (k : Nat) : Wd := if _h : k = 0 then [] else dg (k / 10) ++ [UInt8.ofNat (48 + k % 10)]
termination_by k
decreasing_by omega
theorem dg_zero : dg 0 = [] := by rw [dg]; rfl
theorem dg_pos {k : Nat} (h : k ≠ 0) : dg k = dg (k / 10) ++ [UInt8.ofNat (48 + k % 10)] := by rw [dg, dif_neg h]
/-- The text of a mark. -/
def mt (k : Nat) : Wd := 109 :: dg k

set_option maxRecDepth 8000 in
set_option maxHeartbeats 2000000 in
theorem markTx (k : Nat) (w : World) (h0 : 0 < k) (hk : k ≤ 1000000) :
    Calls Tryd.prog 61 #[.int .i64 (k : Int)] w fun e w' => e = .returned (.string (bs (mt k))) ∧ Below w.heap.size w w' := by
  have d0 : decide ((k : Int) ≤ 0) = false := decide_eq_false (by omega)
  have d0n : decide (k ≤ 0) = false := decide_eq_false (by omega)
  have d0p : ¬ k = 0 := by omega
  have HF : Hid (∀ acc, dg 0 ++ acc = dg k → (109 :: acc : Wd) = mt k) := Lib.hid (fun acc h => by unfold mt; rw [← h, dg_zero]; rfl)
  go_enter Tryd.func61, Tryd.ntmps61
  go_wp2
  go_loopw [0, 3] (fun s0 s3 wr => ∃ (r : Nat) (acc : Wd), s0 = .int .i64 (r : Int) ∧ s3 = .string (bs acc) ∧ r ≤ k ∧ Hid (dg r ++ acc = dg k ∧ acc.length + r ≤ k) ∧ Below w.heap.size w wr) (fun s0 _ _ => (intOf s0).toNat)
  case atStart => exact ⟨k, [], rfl, rfl, by omega, Lib.hid ⟨by simp, by simp⟩, Below.refl _ _⟩
  case round =>
    obtain ⟨r, acc, rfl, rfl, hr, HA, HB⟩ := hrel
    by_cases hz : r = 0
    · subst hz
      have HE := Lib.hid (HF.out acc HA.out.1)
      have hl := HA.out.2
      have ct : ∀ W, (Op.stringOp .add ⟨#[109]⟩ (bs acc)).run Tryd.prog W = .ok (.string (bs (109 :: acc))) W := fun W => catO [109] acc (by simp; omega) W
      have hbs := bs_size acc
      rw [HE.out] at ct
      clear hl hbs HF HA
      go_wp2
      go_ret
      exact ⟨rfl, HB⟩
    · have hl := HA.out.2
      have d1 : decide ((r : Int) > 0) = true := decide_eq_true (by omega)
      have d1n : decide (0 < r) = true := decide_eq_true (by omega)
      have d1p : (0 < r) = True := eq_true (by omega)
      have m1 : (r : Int).tmod 10 = ((r % 10 : Nat) : Int) := by rw [Int.tmod_eq_emod_of_nonneg (by omega)]; omega
      have q1 : (r : Int).tdiv 10 = ((r / 10 : Nat) : Int) := by rw [Int.tdiv_eq_ediv_of_nonneg (by omega)]; omega
      have hlt := Nat.mod_lt r (show 0 < 10 by omega)
      have w1 : IntKind.i64.wrap (48 + ((r % 10 : Nat) : Int)) = ((48 + r % 10 : Nat) : Int) := by rw [IntWalk.i64_in _ (by omega)]; omega
      have w2 : IntKind.u8.wrap ((48 + r % 10 : Nat) : Int) = ((48 + r % 10 : Nat) : Int) := (by decide : ∀ j : Nat, j < 10 → IntKind.u8.wrap ((48 + j : Nat) : Int) = ((48 + j : Nat) : Int)) _ hlt
      have HN : Hid (dg (r / 10) ++ ([UInt8.ofNat (48 + r % 10)] ++ acc) = dg k ∧ ([UInt8.ofNat (48 + r % 10)] ++ acc).length + r / 10 ≤ k) := Lib.hid ⟨by rw [← HA.out.1, dg_pos hz, List.append_assoc], by simp; omega⟩
      have ob := fun W T => oneB ((48 + r % 10 : Nat) : Int) (UInt8.ofNat (48 + r % 10)) (by rw [Int.toNat_natCast]) W T
      have ct : ∀ W, (Op.stringOp .add (bs [UInt8.ofNat (48 + r % 10)]) (bs acc)).run Tryd.prog W = .ok (.string (bs ([UInt8.ofNat (48 + r % 10)] ++ acc))) W := fun W => catO _ acc (by simp; omega) W
      have hdiv : r / 10 < r := Nat.div_lt_self (by omega) (by omega)
      generalize UInt8.ofNat (48 + r % 10) = ch at *
      generalize ((48 + r % 10 : Nat) : Int) = D at *
      generalize ((r % 10 : Nat) : Int) = M at *
      generalize r / 10 = r' at *
      generalize [ch] ++ acc = acc' at *
      generalize bs [ch] = cs at *
      clear HF HA hl hlt
      have HB' := belowAlloc HB (.cells #[.int .u8 D] 5)
      go_wp2
      go_roundw
      case rel => exact ⟨r', acc', rfl, rfl, by omega, HN, HB'⟩
      case measure => simp [intOf]; omega

/-- The marks that are written. -/
def marksQ (n : Nat) : List (Wd × Wd) := (List.range n).map fun (i : Nat) => (mt (2 * i + 1), mt (2 * i + 2))
theorem marksQ_len (n : Nat) : (marksQ n).length = n := by simp [marksQ]
theorem marksQ_at {n i : Nat} (h : i < n) : (marksQ n)[i]? = some (mt (2 * i + 1), mt (2 * i + 2)) := by
  simp [marksQ, List.getElem?_map, List.getElem?_range h]
def markedQ (l : List (Wd × Wd)) (n : Nat) : List (Wd × Wd) := marksQ n ++ l.drop n
theorem markedQ_all (l : List (Wd × Wd)) : markedQ l l.length = marksQ l.length := by simp [markedQ]
theorem markedQ_none (l : List (Wd × Wd)) : markedQ l 0 = l := by simp [markedQ, marksQ]
theorem markedQ_old {l : List (Wd × Wd)} {n i : Nat} (h : n ≤ i) : (markedQ l n)[i]? = l[i]? := by
  unfold markedQ
  rw [List.getElem?_append_right (by rw [marksQ_len]; exact h), marksQ_len, List.getElem?_drop]
  congr 1; omega
theorem markedQ_new {l : List (Wd × Wd)} {n i : Nat} (h : i < n) : (markedQ l n)[i]? = some (mt (2 * i + 1), mt (2 * i + 2)) := by
  unfold markedQ
  rw [List.getElem?_append_left (by rw [marksQ_len]; exact h), marksQ_at h]

/-- Two cells of a row, kept. -/
structure HdS (w : World) (b o : Nat) (x y : Wd) (W : World) : Prop where
  B : Below w.heap.size w W
  z : b < w.heap.size
  a0 : W.cell? ⟨b, o, none⟩ = some (.string (bs x))
  a1 : W.cell? ⟨b, o + 1, none⟩ = some (.string (bs y))
theorem HdS.on {w W w1 : World} {b o : Nat} {x y : Wd} (H : HdS w b o x y W) (hb : Below W.heap.size W w1) : HdS w b o x y w1 :=
  ⟨belowNext H.B hb, H.z, cellThru hb (Nat.lt_of_lt_of_le H.z H.B.size) H.a0, cellThru hb (Nat.lt_of_lt_of_le H.z H.B.size) H.a1⟩
/-- Two cells of each of two rows, kept. -/
structure EqS (w : World) (b o b' o' : Nat) (x y : Wd) (W : World) : Prop where
  B : Below w.heap.size w W
  z : b < w.heap.size
  z' : b' < w.heap.size
  a0 : W.cell? ⟨b, o, none⟩ = some (.string (bs x))
  a1 : W.cell? ⟨b, o + 1, none⟩ = some (.string (bs y))
  c0 : W.cell? ⟨b', o', none⟩ = some (.string (bs x))
  c1 : W.cell? ⟨b', o' + 1, none⟩ = some (.string (bs y))
theorem EqS.on {w W w1 : World} {b o b' o' : Nat} {x y : Wd} (H : EqS w b o b' o' x y W) (hb : Below W.heap.size W w1) : EqS w b o b' o' x y w1 :=
  ⟨belowNext H.B hb, H.z, H.z', cellThru hb (Nat.lt_of_lt_of_le H.z H.B.size) H.a0, cellThru hb (Nat.lt_of_lt_of_le H.z H.B.size) H.a1, cellThru hb (Nat.lt_of_lt_of_le H.z' H.B.size) H.c0, cellThru hb (Nat.lt_of_lt_of_le H.z' H.B.size) H.c1⟩
theorem eqSq2 (x y : Wd) (w : World) :
    Calls Tryd.prog 15 #[sqV x y, sqV x y] w fun e w' => e = .returned (.bool true) ∧ Below w.heap.size w w' := by
  go_enter Tryd.func15, Tryd.ntmps15
  go_wp2
  go_ret
  refine ⟨rfl, ?_⟩
  (repeat' (first | (with_reducible exact Below.refl _ _) | (with_reducible assumption) | (with_reducible refine belowNext ?_ (by with_reducible assumption)) | (with_reducible refine belowAlloc ?_ _) | (with_reducible refine Below.drew ?_) | (with_reducible refine below_drewN ?_ _) | (with_reducible refine Below.setCell ?_ ?_ _) | go_size | (with_reducible refine sizeOf' ?_) | (with_reducible refine sizeAdd ?_) | (dsimp only; first | (with_reducible refine sizeOf' ?_) | (with_reducible refine sizeAdd ?_))))

set_option maxRecDepth 8000 in
set_option maxHeartbeats 4000000 in
theorem eqSeqS (A A' : Option Addr) (len cap cap' : Nat) (l : List (Wd × Wd)) (w : World) (hr : SeqRow w w.heap.size A l) (hr' : SeqRow w w.heap.size A' l) (hl : l.length = len) (hm : len ≤ 1000000) :
    Calls Tryd.prog 33 #[.slice A len cap, .slice A' len cap'] w fun e w' => e = .returned (.bool true) ∧ Below w.heap.size w w' := by
  have HR := Lib.hid hr
  have HR' := Lib.hid hr'
  have HL := Lib.hid hl
  clear hr hr' hl
  go_enter Tryd.func33, Tryd.ntmps33
  go_wp2
  go_loopw [5] (fun i wr => ∃ k : Nat, k ≤ len ∧ i = .int .i64 k ∧ Below w.heap.size w wr) (fun i _ => len - (intOf i).toNat)
  case atStart => exact ⟨0, by omega, rfl, Below.refl _ _⟩
  case round =>
    obtain ⟨k, hk, rfl, HB⟩ := hrel
    by_cases hlt : k < len
    · have hkl : k < l.length := by have := HL.out; omega
      obtain ⟨x, y, hn⟩ : ∃ x y, l[k] = (x, y) := ⟨_, _, rfl⟩
      have hk2 : l[k]? = some (x, y) := by rw [List.getElem?_eq_getElem hkl, hn]
      have hne : l ≠ [] := by intro h; rw [h] at hkl; simp at hkl
      obtain ⟨b, off, rfl, hbb, hcells⟩ := HR.out hne
      obtain ⟨b', off', rfl, hbb', hcells'⟩ := HR'.out hne
      have S : EqS w b (off + k * 2) b' (off' + k * 2) x y wr := by
        obtain ⟨a0, a1⟩ := hcells k x y hk2
        obtain ⟨c0, c1⟩ := hcells' k x y hk2
        exact ⟨HB, hbb, hbb', (HB.cell (p := ⟨b, _, none⟩) hbb).trans a0, (HB.cell (p := ⟨b, _, none⟩) hbb).trans a1, (HB.cell (p := ⟨b', _, none⟩) hbb').trans c0, (HB.cell (p := ⟨b', _, none⟩) hbb').trans c1⟩
      clear hn hcells hcells' hk2 hne
      go_wp2_with fail
      refine wp_region_held_drew (S := (EqS w b (off + k * 2) b' (off' + k * 2) x y)) (by kernel_rfl) ?_ (fun hHeld => ?_)
      · exact S.on (Below.refl _ _).drew
      refine wpAnyH_take (i := 0) (v := ?_) rfl (by kernel_rfl) (by kernel_rfl) (by kernel_rfl) (fun _ _ _ h => h) (Or.inl ⟨by kernel_rfl, ?_⟩) hHeld ?_
      rotate_left
      · intro w hSw; obtain ⟨B, z, z', a0, a1, c0, c1⟩ := hSw; first | (go_simp; done) | (go_simp; with_reducible rfl)
      refine wpAnyH_take (i := 1) (v := ?_) rfl (by kernel_rfl) (by kernel_rfl) (by kernel_rfl) (fun _ _ _ h => h) (Or.inl ⟨by kernel_rfl, ?_⟩) hHeld ?_
      rotate_left
      · intro w hSw; obtain ⟨B, z, z', a0, a1, c0, c1⟩ := hSw; first | (go_simp; done) | (go_simp; with_reducible rfl)
      refine wpAnyH_take (i := 2) (v := ?_) rfl (by kernel_rfl) (by kernel_rfl) (by kernel_rfl) (fun _ _ _ h => h) (Or.inl ⟨by kernel_rfl, ?_⟩) hHeld ?_
      rotate_left
      · intro w hSw; obtain ⟨B, z, z', a0, a1, c0, c1⟩ := hSw; first | (go_simp; done) | (go_simp; with_reducible rfl)
      refine wpAnyH_take (i := 3) (v := ?_) rfl (by kernel_rfl) (by kernel_rfl) (by kernel_rfl) (fun _ _ _ h => h) (Or.inl ⟨by kernel_rfl, ?_⟩) hHeld ?_
      rotate_left
      · intro w hSw; obtain ⟨B, z, z', a0, a1, c0, c1⟩ := hSw; first | (go_simp; done) | (go_simp; with_reducible rfl)
      refine wpAnyH_take (i := 4) (v := ?_) rfl (by kernel_rfl) (by kernel_rfl) (by kernel_rfl) (fun _ _ _ h => h) (Or.inl ⟨by kernel_rfl, ?_⟩) hHeld ?_
      rotate_left
      · intro w hSw; obtain ⟨B, z, z', a0, a1, c0, c1⟩ := hSw; first | (go_simp; done) | (go_simp; with_reducible rfl)
      refine wpAnyH_take (i := 5) (v := ?_) rfl (by kernel_rfl) (by kernel_rfl) (by kernel_rfl) (fun _ _ _ h => h) (Or.inl ⟨by kernel_rfl, ?_⟩) hHeld ?_
      rotate_left
      · intro w hSw; obtain ⟨B, z, z', a0, a1, c0, c1⟩ := hSw; first | (go_simp; done) | (go_simp; with_reducible rfl)
      refine wpAnyH_take (i := 6) (v := ?_) rfl (by kernel_rfl) (by kernel_rfl) (by kernel_rfl) (fun _ _ _ h => h) (Or.inl ⟨by kernel_rfl, ?_⟩) hHeld ?_
      rotate_left
      · intro w hSw; obtain ⟨B, z, z', a0, a1, c0, c1⟩ := hSw; first | (go_simp; done) | (go_simp; with_reducible rfl)
      refine wpAnyH_take (i := 7) (v := ?_) rfl (by kernel_rfl) (by kernel_rfl) (by kernel_rfl) (fun _ _ _ h => h) (Or.inl ⟨by kernel_rfl, ?_⟩) hHeld ?_
      rotate_left
      · intro w hSw; obtain ⟨B, z, z', a0, a1, c0, c1⟩ := hSw; first | (go_simp; done) | (go_simp; with_reducible rfl)
      refine wpAnyH_ready (rs := [8]) (by kernel_rfl) (by simp) ?_
      refine AllReadyH.cons rfl (fun K hK => ?_) AllReadyH.nil
      go_simp
      go_wp2_with (go_at_call 15; (with_reducible refine (eqSq2 _ _ _).mono ?_); rintro e w4 ⟨rfl, hb4⟩)
      have S4 := hHeld.on hb4
      refine hK.out _ _ ?_ (fun hHeld => ?_)
      · exact S4
      clear hK K
      refine wpAnyH_take (i := 9) (v := ?_) rfl (by kernel_rfl) (by kernel_rfl) (by kernel_rfl) (fun _ _ _ h => h) (Or.inl ⟨by kernel_rfl, ?_⟩) hHeld ?_
      rotate_left
      · intro w hSw; obtain ⟨B, z, z', a0, a1, c0, c1⟩ := hSw; first | (go_simp; done) | (go_simp; with_reducible rfl)
      refine wpAnyH_done (by kernel_rfl) ?_ _
      go_wp2
      go_roundw
      case rel => exact ⟨k + 1, by omega, by go_num, S4.B⟩
      case measure => simp [intOf]; omega
    · obtain rfl : k = len := by omega
      go_wp2
      go_ret
      exact ⟨rfl, HB⟩

set_option maxRecDepth 8000 in
set_option maxHeartbeats 4000000 in
theorem heldSeq (A : Option Addr) (len cap : Nat) (w : World) (hr : SeqRow w w.heap.size A (marksQ len)) (hm : len ≤ 400000) :
    Calls Tryd.prog 35 #[.slice A len cap, .int .i64 1] w fun e w' => e = .returned (.int .i64 ((2 * len + 1 : Nat) : Int)) ∧ Below w.heap.size w w' := by
  have HR := Lib.hid hr
  have HM := Lib.hid markTx
  clear hr
  go_enter Tryd.func35, Tryd.ntmps35
  go_wp2
  go_loopw [1, 5] (fun q i wr => ∃ k : Nat, k ≤ len ∧ i = .int .i64 k ∧ q = .int .i64 ((2 * k + 1 : Nat) : Int) ∧ Below w.heap.size w wr) (fun _ i _ => len - (intOf i).toNat)
  case atStart => exact ⟨0, by omega, rfl, rfl, Below.refl _ _⟩
  case round =>
    obtain ⟨k, hk, rfl, rfl, HB⟩ := hrel
    by_cases hlt : k < len
    · have hk2 := marksQ_at hlt
      have hne : marksQ len ≠ [] := by intro h; rw [h] at hk2; simp at hk2
      obtain ⟨b, off, rfl, hbb, hcells⟩ := HR.out hne
      have HM1 := Lib.hid (fun w => HM.out (2 * k + 1) w (by omega) (by omega))
      have HM2 := Lib.hid (fun w => HM.out (2 * k + 2) w (by omega) (by omega))
      have w1 : IntKind.i64.wrap (((2 * k + 1 : Nat) : Int) + 1) = ((2 * k + 2 : Nat) : Int) := by rw [IntWalk.i64_in _ (by omega)]; omega
      have w2 : IntKind.i64.wrap (((2 * k + 2 : Nat) : Int) + 1) = ((2 * (k + 1) + 1 : Nat) : Int) := by rw [IntWalk.i64_in _ (by omega)]; omega
      have S : HdS w b (off + k * 2) (mt (2 * k + 1)) (mt (2 * k + 2)) wr := by
        obtain ⟨a0, a1⟩ := hcells k _ _ hk2
        exact ⟨HB, hbb, (HB.cell (p := ⟨b, _, none⟩) hbb).trans a0, (HB.cell (p := ⟨b, _, none⟩) hbb).trans a1⟩
      clear hcells hk2 hne HM
      generalize mt (2 * k + 1) = m1 at *
      generalize mt (2 * k + 2) = m2 at *
      generalize ((2 * k + 1 : Nat) : Int) = J1 at *
      generalize ((2 * k + 2 : Nat) : Int) = J2 at *
      obtain ⟨J3, hJ3⟩ : ∃ J3, ((2 * (k + 1) + 1 : Nat) : Int) = J3 := ⟨_, rfl⟩
      rw [hJ3] at w2
      go_wp2_with fail
      refine wp_region_held_drew (S := (HdS w b (off + k * 2) m1 m2)) (by kernel_rfl) ?_ (fun hHeld => ?_)
      · exact S.on (Below.refl _ _).drew
      refine wpAnyH_take (i := 0) (v := ?_) rfl (by kernel_rfl) (by kernel_rfl) (by kernel_rfl) (fun _ _ _ h => h) (Or.inl ⟨by kernel_rfl, ?_⟩) hHeld ?_
      rotate_left
      · intro w hSw; obtain ⟨B, z, a0, a1⟩ := hSw; first | (go_simp; done) | (go_simp; with_reducible rfl)
      refine wpAnyH_take (i := 1) (v := ?_) rfl (by kernel_rfl) (by kernel_rfl) (by kernel_rfl) (fun _ _ _ h => h) (Or.inl ⟨by kernel_rfl, ?_⟩) hHeld ?_
      rotate_left
      · intro w hSw; obtain ⟨B, z, a0, a1⟩ := hSw; first | (go_simp; done) | (go_simp; with_reducible rfl)
      refine wpAnyH_take (i := 2) (v := ?_) rfl (by kernel_rfl) (by kernel_rfl) (by kernel_rfl) (fun _ _ _ h => h) (Or.inl ⟨by kernel_rfl, ?_⟩) hHeld ?_
      rotate_left
      · intro w hSw; obtain ⟨B, z, a0, a1⟩ := hSw; first | (go_simp; done) | (go_simp; with_reducible rfl)
      refine wpAnyH_take (i := 3) (v := ?_) rfl (by kernel_rfl) (by kernel_rfl) (by kernel_rfl) (fun _ _ _ h => h) (Or.inl ⟨by kernel_rfl, ?_⟩) hHeld ?_
      rotate_left
      · intro w hSw; obtain ⟨B, z, a0, a1⟩ := hSw; first | (go_simp; done) | (go_simp; with_reducible rfl)
      refine wpAnyH_take (i := 4) (v := ?_) rfl (by kernel_rfl) (by kernel_rfl) (by kernel_rfl) (fun _ _ _ h => h) (Or.inl ⟨by kernel_rfl, ?_⟩) hHeld ?_
      rotate_left
      · intro w hSw; obtain ⟨B, z, a0, a1⟩ := hSw; first | (go_simp; done) | (go_simp; with_reducible rfl)
      refine wpAnyH_take (i := 5) (v := ?_) rfl (by kernel_rfl) (by kernel_rfl) (by kernel_rfl) (fun _ _ _ h => h) (Or.inl ⟨by kernel_rfl, ?_⟩) hHeld ?_
      rotate_left
      · intro w hSw; obtain ⟨B, z, a0, a1⟩ := hSw; first | (go_simp; done) | (go_simp; with_reducible rfl)
      refine wpAnyH_ready (rs := [6]) (by kernel_rfl) (by simp) ?_
      refine AllReadyH.cons rfl (fun K hK => ?_) AllReadyH.nil
      go_simp
      go_wp2_with (go_at_call 61; (with_reducible refine (HM1.out _).mono ?_); rintro e w4 ⟨rfl, hb4⟩)
      have S4 := hHeld.on hb4
      refine hK.out _ _ ?_ (fun hHeld => ?_)
      · exact S4
      clear hK K
      refine wpAnyH_take (i := 7) (v := ?_) rfl (by kernel_rfl) (by kernel_rfl) (by kernel_rfl) (fun _ _ _ h => h) (Or.inl ⟨by kernel_rfl, ?_⟩) hHeld ?_
      rotate_left
      · intro w hSw; obtain ⟨B, z, a0, a1⟩ := hSw; first | (go_simp; done) | (go_simp; with_reducible rfl)
      refine wpAnyH_done (by kernel_rfl) ?_ _
      go_wp2_with fail
      refine wp_region_held_drew (S := (HdS w b (off + k * 2) m1 m2)) (by kernel_rfl) ?_ (fun hHeld => ?_)
      · exact S4.on (Below.refl _ _).drew
      refine wpAnyH_take (i := 0) (v := ?_) rfl (by kernel_rfl) (by kernel_rfl) (by kernel_rfl) (fun _ _ _ h => h) (Or.inl ⟨by kernel_rfl, ?_⟩) hHeld ?_
      rotate_left
      · intro w hSw; obtain ⟨B, z, a0, a1⟩ := hSw; first | (go_simp; done) | (go_simp; with_reducible rfl)
      refine wpAnyH_take (i := 1) (v := ?_) rfl (by kernel_rfl) (by kernel_rfl) (by kernel_rfl) (fun _ _ _ h => h) (Or.inl ⟨by kernel_rfl, ?_⟩) hHeld ?_
      rotate_left
      · intro w hSw; obtain ⟨B, z, a0, a1⟩ := hSw; first | (go_simp; done) | (go_simp; with_reducible rfl)
      refine wpAnyH_take (i := 2) (v := ?_) rfl (by kernel_rfl) (by kernel_rfl) (by kernel_rfl) (fun _ _ _ h => h) (Or.inl ⟨by kernel_rfl, ?_⟩) hHeld ?_
      rotate_left
      · intro w hSw; obtain ⟨B, z, a0, a1⟩ := hSw; first | (go_simp; done) | (go_simp; with_reducible rfl)
      refine wpAnyH_take (i := 3) (v := ?_) rfl (by kernel_rfl) (by kernel_rfl) (by kernel_rfl) (fun _ _ _ h => h) (Or.inl ⟨by kernel_rfl, ?_⟩) hHeld ?_
      rotate_left
      · intro w hSw; obtain ⟨B, z, a0, a1⟩ := hSw; first | (go_simp; done) | (go_simp; with_reducible rfl)
      refine wpAnyH_take (i := 4) (v := ?_) rfl (by kernel_rfl) (by kernel_rfl) (by kernel_rfl) (fun _ _ _ h => h) (Or.inl ⟨by kernel_rfl, ?_⟩) hHeld ?_
      rotate_left
      · intro w hSw; obtain ⟨B, z, a0, a1⟩ := hSw; first | (go_simp; done) | (go_simp; with_reducible rfl)
      refine wpAnyH_take (i := 5) (v := ?_) rfl (by kernel_rfl) (by kernel_rfl) (by kernel_rfl) (fun _ _ _ h => h) (Or.inl ⟨by kernel_rfl, ?_⟩) hHeld ?_
      rotate_left
      · intro w hSw; obtain ⟨B, z, a0, a1⟩ := hSw; first | (go_simp; done) | (go_simp; with_reducible rfl)
      refine wpAnyH_ready (rs := [6]) (by kernel_rfl) (by simp) ?_
      refine AllReadyH.cons rfl (fun K hK => ?_) AllReadyH.nil
      go_simp
      go_wp2_with (go_at_call 61; (with_reducible refine (HM2.out _).mono ?_); rintro e w5 ⟨rfl, hb5⟩)
      have S5 := hHeld.on hb5
      refine hK.out _ _ ?_ (fun hHeld => ?_)
      · exact S5
      clear hK K
      refine wpAnyH_take (i := 7) (v := ?_) rfl (by kernel_rfl) (by kernel_rfl) (by kernel_rfl) (fun _ _ _ h => h) (Or.inl ⟨by kernel_rfl, ?_⟩) hHeld ?_
      rotate_left
      · intro w hSw; obtain ⟨B, z, a0, a1⟩ := hSw; first | (go_simp; done) | (go_simp; with_reducible rfl)
      refine wpAnyH_done (by kernel_rfl) ?_ _
      go_wp2
      go_roundw
      case rel => exact ⟨k + 1, by omega, by go_num, by rw [hJ3], S5.B⟩
      case measure => simp [intOf]; omega
    · obtain rfl : k = len := by omega
      go_wp2
      go_ret
      exact ⟨rfl, HB⟩

theorem markQ_step {wr w4 w6 : World} {lo b off k : Nat} {l : List (Wd × Wd)} (hkl : k < l.length) (hlo : lo ≤ b) (hb : b < wr.heap.size)
    (hc : ∀ i x y, (markedQ l k)[i]? = some (x, y) → (wr.cell? ⟨b, off + i * 2, none⟩ = some (.string (bs x)) ∧ wr.cell? ⟨b, off + i * 2 + 1, none⟩ = some (.string (bs y))) ∧ wr.frozen? ⟨b, off + i * 2, none⟩ = false ∧ wr.frozen? ⟨b, off + i * 2 + 1, none⟩ = false)
    (h4 : Below wr.heap.size wr w4) (h6 : Below w4.heap.size (w4.setCell ⟨b, off + k * 2, none⟩ (.string (bs (mt (2 * k + 1))))) w6) :
    (w6.cell? ⟨b, off + k * 2 + 1, none⟩ = some (.string (bs l[k].2)) ∧ w6.frozen? ⟨b, off + k * 2 + 1, none⟩ = false) ∧
    SeqOwn (w6.setCell ⟨b, off + k * 2 + 1, none⟩ (.string (bs (mt (2 * k + 2))))) lo (some ⟨b, off, none⟩) (markedQ l (k + 1)) := by
  have hb4 : b < w4.heap.size := Nat.lt_of_lt_of_le hb h4.size
  have hb6 : b < w6.heap.size := by have := h6.size; simp at this; omega
  have key : ∀ o, o ≠ off + k * 2 → w6.cell? ⟨b, o, none⟩ = wr.cell? ⟨b, o, none⟩ := fun o ho =>
    (h6.cell (p := ⟨b, o, none⟩) hb4).trans ((World.cell?_setCell_other _ _ _ _ (by intro e; injection e; omega)).trans (h4.cell (p := ⟨b, o, none⟩) hb))
  have keyf : ∀ o, w6.frozen? ⟨b, o, none⟩ = wr.frozen? ⟨b, o, none⟩ := fun o =>
    (h6.frozen (p := ⟨b, o, none⟩) hb4).trans ((by simp : (w4.setCell ⟨b, off + k * 2, none⟩ (.string (bs (mt (2 * k + 1))))).frozen? ⟨b, o, none⟩ = w4.frozen? ⟨b, o, none⟩).trans (h4.frozen (p := ⟨b, o, none⟩) hb))
  have hy : (markedQ l k)[k]? = some (l[k].1, l[k].2) := by rw [markedQ_old (Nat.le_refl _), List.getElem?_eq_getElem hkl]
  obtain ⟨⟨a1, a2⟩, a3, a4⟩ := hc k _ _ hy
  have k0 : w6.cell? ⟨b, off + k * 2, none⟩ = some (.string (bs (mt (2 * k + 1)))) :=
    (h6.cell (p := ⟨b, _, none⟩) hb4).trans (World.cell?_setCell_same _ _ _ ((h4.cell (p := ⟨b, _, none⟩) hb).trans a1))
  have k1 : w6.cell? ⟨b, off + k * 2 + 1, none⟩ = some (.string (bs l[k].2)) := (key _ (by omega)).trans a2
  refine ⟨⟨k1, (keyf _).trans a4⟩, fun _ => ⟨b, off, rfl, hlo, by simpa using hb6, fun i x y hi => ?_⟩⟩
  by_cases hik : i = k
  · subst hik
    rw [markedQ_new (show i < i + 1 by omega)] at hi
    injection hi with hi
    injection hi with hi1 hi2
    subst hi1 hi2
    exact ⟨⟨(World.cell?_setCell_other _ _ _ _ (by intro e; injection e; omega)).trans k0, World.cell?_setCell_same _ _ _ k1⟩, by simpa using (keyf _).trans a3, by simpa using (keyf _).trans a4⟩
  · have hy : (markedQ l k)[i]? = some (x, y) := by
      by_cases h : i < k
      · rw [markedQ_new h, ← hi, markedQ_new (by omega)]
      · rw [markedQ_old (by omega), ← hi, markedQ_old (by omega)]
    obtain ⟨⟨b1, b2⟩, b3, b4⟩ := hc i _ _ hy
    exact ⟨⟨(World.cell?_setCell_other _ _ _ _ (by intro e; injection e; omega)).trans ((key _ (by omega)).trans b1), (World.cell?_setCell_other _ _ _ _ (by intro e; injection e; omega)).trans ((key _ (by omega)).trans b2)⟩,
      by simpa using (keyf _).trans b3, by simpa using (keyf _).trans b4⟩

set_option maxRecDepth 8000 in
set_option maxHeartbeats 4000000 in
theorem markSeq (A : Option Addr) (len cap : Nat) (l : List (Wd × Wd)) (lo : Nat) (w : World) (hr : SeqOwn w lo A l) (hlo : lo ≤ w.heap.size) (hl : l.length = len) (hm : len ≤ 400000) :
    Calls Tryd.prog 34 #[.slice A len cap, .int .i64 1] w fun e w' => e = .returned (.int .i64 ((2 * len + 1 : Nat) : Int)) ∧ Hid (SeqOwn w' lo A (marksQ len) ∧ Below lo w w') := by
  have HR := Lib.hid hr
  have HL := Lib.hid hl
  have HM := Lib.hid markTx
  clear hr hl
  go_enter Tryd.func34, Tryd.ntmps34
  go_wp2
  go_loopw [1, 5] (fun q i wr => ∃ k : Nat, k ≤ len ∧ i = .int .i64 k ∧ q = .int .i64 ((2 * k + 1 : Nat) : Int) ∧ Hid (SeqOwn wr lo A (markedQ l k) ∧ Below lo w wr ∧ lo ≤ wr.heap.size)) (fun _ i _ => len - (intOf i).toNat)
  case atStart => exact ⟨0, by omega, rfl, rfl, Lib.hid ⟨by rw [markedQ_none]; exact HR.out, Below.refl _ _, hlo⟩⟩
  case round =>
    obtain ⟨k, hk, rfl, rfl, H⟩ := hrel
    by_cases hlt : k < len
    · have hkl : k < l.length := by have := HL.out; omega
      have hk2 : (markedQ l k)[k]? = some (l[k].1, l[k].2) := by rw [markedQ_old (Nat.le_refl _), List.getElem?_eq_getElem hkl]
      have hne : markedQ l k ≠ [] := by intro h; rw [h] at hk2; simp at hk2
      obtain ⟨b, off, rfl, hlob, hbb, hcells⟩ := H.out.1 hne
      obtain ⟨⟨x0, x1⟩, f0, f1⟩ := hcells k _ _ hk2
      have HM1 := Lib.hid (fun w => HM.out (2 * k + 1) w (by omega) (by omega))
      have HM2 := Lib.hid (fun w => HM.out (2 * k + 2) w (by omega) (by omega))
      have w1 : IntKind.i64.wrap (((2 * k + 1 : Nat) : Int) + 1) = ((2 * k + 2 : Nat) : Int) := by rw [IntWalk.i64_in _ (by omega)]; omega
      have w2 : IntKind.i64.wrap (((2 * k + 2 : Nat) : Int) + 1) = ((2 * (k + 1) + 1 : Nat) : Int) := by rw [IntWalk.i64_in _ (by omega)]; omega
      have HSt := Lib.hid (fun w4 w6 h4 h6 => markQ_step (wr := wr) (w4 := w4) (w6 := w6) (lo := lo) hkl hlob hbb hcells h4 h6)
      have HX := Lib.hid (And.intro x0 f0)
      clear hcells hk2 hne HM x0 x1 f0 f1
      generalize mt (2 * k + 1) = m1 at *
      generalize mt (2 * k + 2) = m2 at *
      generalize ((2 * k + 1 : Nat) : Int) = J1 at *
      generalize ((2 * k + 2 : Nat) : Int) = J2 at *
      obtain ⟨J3, hJ3⟩ : ∃ J3, ((2 * (k + 1) + 1 : Nat) : Int) = J3 := ⟨_, rfl⟩
      rw [hJ3] at w2
      go_wp2_with fail
      refine (HM1.out _).mono ?_
      rintro e w4 ⟨rfl, hb4⟩
      have x0 := cellThru hb4 hbb HX.out.1
      have f0 := frozThru hb4 hbb HX.out.2
      have hb4s : b < w4.heap.size := Nat.lt_of_lt_of_le hbb hb4.size
      go_wp2_with fail
      refine (HM2.out _).mono ?_
      rintro e w6 ⟨rfl, hb6⟩
      simp only [World.size_setCell] at hb6
      obtain ⟨⟨x1, f1⟩, ho⟩ := HSt.out w4 w6 hb4 hb6
      have hb6s : b < w6.heap.size := by have := hb6.size; simp at this; omega
      have B6 : Below lo w w6 := (H.out.2.1.trans (hb4.mono H.out.2.2)).trans (Below.trans ((Below.refl lo w4).setCell (by exact hlob) _) (hb6.mono (Nat.le_trans H.out.2.2 hb4.size)))
      have z6 : lo ≤ w6.heap.size := by omega
      have HO := Lib.hid ho
      clear x0 f0 ho HSt HX hb4 hb6
      go_wp2
      go_roundw
      case rel =>
        refine ⟨k + 1, by omega, by go_num, by rw [hJ3], Lib.hid ⟨HO.out, B6.setCell (by exact hlob) _, by simpa using z6⟩⟩
      case measure => simp [intOf]; omega
    · obtain rfl : k = len := by omega
      have h1 := H.out.1
      rw [← HL.out, markedQ_all, HL.out] at h1
      have H1 := Lib.hid (And.intro h1 H.out.2.1)
      clear h1
      go_wp2
      go_ret
      exact ⟨rfl, H1⟩
end Go.Proofs.YtomcmjnhfloeeaaDoor

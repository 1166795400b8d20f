/-
  Contracts: LetterAt, on both sides; the walk of its law.
-/
import Derived.Test.YtlglnhjdjpjlhaaDoorLD
import Derived.Laws.BytesArg
namespace Go.Proofs.YtlglnhjdjpjlhaaDoor
open Go.RowKit

/-- The letter with the number k. -/
def atQ (x y : Wd) (k : Nat) : UInt8 := if k < x.length then x.getD k 0 else y.getD ((k - x.length) % y.length) 0
theorem atQ_let {x y : Wd} {k : Nat} (h : isSeq x y = true) : isLet (atQ x y k) = true := by
  obtain ⟨h1, h2, h3, _, _⟩ := isSeq_yes h
  unfold lets at h1 h2
  rw [List.all_eq_true] at h1 h2
  unfold atQ
  split
  · next hk => rw [gd_at x hk]; exact h1 _ (List.getElem_mem hk)
  · have hm := Nat.mod_lt (k - x.length) h3
    rw [gd_at y hm]; exact h2 _ (List.getElem_mem hm)

set_option maxHeartbeats 1000000 in
theorem implAt (x y : Wd) (k : Nat) (v : Int) (hv : v = (k : Int)) (w : World) (hk : k ≤ 1000000) (hy : 0 < y.length) (hxy : x.length + y.length ≤ 64) :
    Calls Tryd.prog 31 #[sqV x y, .int .i64 v] w fun e w' => e = .returned (.int .u8 ((atQ x y k).toNat : Int)) ∧ Below w.heap.size w w' := by
  have hlx := fun W => lenS 9 3 x Tryd.underlying9 W
  have hly := fun W => lenS 9 3 y Tryd.underlying9 W
  by_cases hlt : k < x.length
  · have x1 := fun W => idxS x k v hlt hv W
    have hd : decide (v < (x.length : Int)) = true := decide_eq_true (by omega)
    have e : atQ x y k = x.getD k 0 := by unfold atQ; rw [if_pos hlt]
    rw [e]
    generalize ((x.getD k 0).toNat : Int) = l at *
    clear e hlt hv hxy hy
    generalize (x.length : Int) = a at *
    generalize (y.length : Int) = b at *
    go_enter Tryd.func31, Tryd.ntmps31
    go_wp2
    go_ret
    refine ⟨rfl, ?_⟩
    (repeat' (first | (with_reducible exact Below.refl _ _) | (with_reducible assumption) | (with_reducible refine belowNext ?_ (by with_reducible assumption)) | (with_reducible refine belowAlloc ?_ _) | (with_reducible refine Below.drew ?_) | (with_reducible refine below_drewN ?_ _) | (with_reducible refine Below.setCell ?_ ?_ _) | go_size | (with_reducible refine sizeOf' ?_) | (with_reducible refine sizeAdd ?_) | (dsimp only; first | (with_reducible refine sizeOf' ?_) | (with_reducible refine sizeAdd ?_))))
  · have hd : decide (v < (x.length : Int)) = false := decide_eq_false (by omega)
    have e : atQ x y k = y.getD ((k - x.length) % y.length) 0 := by unfold atQ; rw [if_neg hlt]
    have hm := Nat.mod_lt (k - x.length) hy
    have em : (v - (x.length : Int)) % (y.length : Int) = (((k - x.length) % y.length : Nat) : Int) := by
      have : v - (x.length : Int) = ((k - x.length : Nat) : Int) := by omega
      rw [this, Int.natCast_emod]
    have x1 := fun W => idxS y ((k - x.length) % y.length) ((v - (x.length : Int)) % (y.length : Int)) hm em W
    have w1 : IntKind.i64.wrap (v - (x.length : Int)) = v - (x.length : Int) := IntWalk.i64_in _ (by omega)
    have w2 : IntKind.i64.wrap ((v - (x.length : Int)) % (y.length : Int)) = (v - (x.length : Int)) % (y.length : Int) := IntWalk.i64_in _ (by rw [em]; omega)
    have w3 : (v - (x.length : Int)).tmod (y.length : Int) = (v - (x.length : Int)) % (y.length : Int) := Int.tmod_eq_emod_of_nonneg (by omega)
    have n1 : ((y.length : Int) == 0) = false := beq_eq_false_iff_ne.2 (by omega)
    have n2 : ¬ (y.length : Int) = 0 := by omega
    have n3 : decide ((v - (x.length : Int)) % (y.length : Int) < (y.length : Int)) = true := decide_eq_true (by rw [em]; omega)
    have n4 : (0 : Int) ≤ (v - (x.length : Int)) % (y.length : Int) := by rw [em]; omega
    rw [e]
    generalize ((y.getD ((k - x.length) % y.length) 0).toNat : Int) = l at *
    clear e hlt hv hxy hy hm em
    generalize (x.length : Int) = a at *
    generalize (y.length : Int) = b at *
    go_enter Tryd.func31, Tryd.ntmps31
    go_wp2_with fail
    go_quiet (fail)
    go_wp2
    go_ret
    refine ⟨rfl, ?_⟩
    (repeat' (first | (with_reducible exact Below.refl _ _) | (with_reducible assumption) | (with_reducible refine belowNext ?_ (by with_reducible assumption)) | (with_reducible refine belowAlloc ?_ _) | (with_reducible refine Below.drew ?_) | (with_reducible refine below_drewN ?_ _) | (with_reducible refine Below.setCell ?_ ?_ _) | go_size | (with_reducible refine sizeOf' ?_) | (with_reducible refine sizeAdd ?_) | (dsimp only; first | (with_reducible refine sizeOf' ?_) | (with_reducible refine sizeAdd ?_))))

set_option maxHeartbeats 1000000 in
theorem specAt (x y : Wd) (k : Nat) (v : Int) (hv : v = (k : Int)) (w : World) (hk : k ≤ 1000000) (hy : 0 < y.length) (hxy : x.length + y.length ≤ 64) :
    Calls Tryd.prog 30 #[sqV x y, .int .i64 v] w fun e w' => e = .returned (.int .u8 ((atQ x y k).toNat : Int)) ∧ Below w.heap.size w w' := by
  have hlx := fun W => lenS 9 3 x Tryd.underlying9 W
  have hly := fun W => lenS 9 3 y Tryd.underlying9 W
  by_cases hlt : k < x.length
  · have x1 := fun W => idxS x k v hlt hv W
    have hd : decide (v < (x.length : Int)) = true := decide_eq_true (by omega)
    have e : atQ x y k = x.getD k 0 := by unfold atQ; rw [if_pos hlt]
    rw [e]
    generalize ((x.getD k 0).toNat : Int) = l at *
    clear e hlt hv hxy hy
    generalize (x.length : Int) = a at *
    generalize (y.length : Int) = b at *
    go_enter Tryd.func30, Tryd.ntmps30
    go_wp2
    go_ret
    refine ⟨rfl, ?_⟩
    (repeat' (first | (with_reducible exact Below.refl _ _) | (with_reducible assumption) | (with_reducible refine belowNext ?_ (by with_reducible assumption)) | (with_reducible refine belowAlloc ?_ _) | (with_reducible refine Below.drew ?_) | (with_reducible refine below_drewN ?_ _) | (with_reducible refine Below.setCell ?_ ?_ _) | go_size | (with_reducible refine sizeOf' ?_) | (with_reducible refine sizeAdd ?_) | (dsimp only; first | (with_reducible refine sizeOf' ?_) | (with_reducible refine sizeAdd ?_))))
  · have hd : decide (v < (x.length : Int)) = false := decide_eq_false (by omega)
    have e : atQ x y k = y.getD ((k - x.length) % y.length) 0 := by unfold atQ; rw [if_neg hlt]
    have hm := Nat.mod_lt (k - x.length) hy
    have em : (v - (x.length : Int)) % (y.length : Int) = (((k - x.length) % y.length : Nat) : Int) := by
      have : v - (x.length : Int) = ((k - x.length : Nat) : Int) := by omega
      rw [this, Int.natCast_emod]
    have x1 := fun W => idxS y ((k - x.length) % y.length) ((v - (x.length : Int)) % (y.length : Int)) hm em W
    have w1 : IntKind.i64.wrap (v - (x.length : Int)) = v - (x.length : Int) := IntWalk.i64_in _ (by omega)
    have w2 : IntKind.i64.wrap ((v - (x.length : Int)) % (y.length : Int)) = (v - (x.length : Int)) % (y.length : Int) := IntWalk.i64_in _ (by rw [em]; omega)
    have w3 : (v - (x.length : Int)).tmod (y.length : Int) = (v - (x.length : Int)) % (y.length : Int) := Int.tmod_eq_emod_of_nonneg (by omega)
    have n1 : ((y.length : Int) == 0) = false := beq_eq_false_iff_ne.2 (by omega)
    have n2 : ¬ (y.length : Int) = 0 := by omega
    have n3 : decide ((v - (x.length : Int)) % (y.length : Int) < (y.length : Int)) = true := decide_eq_true (by rw [em]; omega)
    have n4 : (0 : Int) ≤ (v - (x.length : Int)) % (y.length : Int) := by rw [em]; omega
    rw [e]
    generalize ((y.getD ((k - x.length) % y.length) 0).toNat : Int) = l at *
    clear e hlt hv hxy hy hm em
    generalize (x.length : Int) = a at *
    generalize (y.length : Int) = b at *
    go_enter Tryd.func30, Tryd.ntmps30
    go_wp2_with fail
    go_quiet (fail)
    go_wp2
    go_ret
    refine ⟨rfl, ?_⟩
    (repeat' (first | (with_reducible exact Below.refl _ _) | (with_reducible assumption) | (with_reducible refine belowNext ?_ (by with_reducible assumption)) | (with_reducible refine belowAlloc ?_ _) | (with_reducible refine Below.drew ?_) | (with_reducible refine below_drewN ?_ _) | (with_reducible refine Below.setCell ?_ ?_ _) | go_size | (with_reducible refine sizeOf' ?_) | (with_reducible refine sizeAdd ?_) | (dsimp only; first | (with_reducible refine sizeOf' ?_) | (with_reducible refine sizeAdd ?_))))

def laS (x y : Wd) (k : Int) : Wd := if isSeq x y = true ∧ 0 ≤ k ∧ k ≤ 1000000 then [atQ x y k.toNat] else []
def laC (x y : Wd) (k : Int) : Int := if isSeq x y = true then (if 0 ≤ k ∧ k ≤ 1000000 then 0 else 2) else 1
theorem la_no {x y : Wd} {k : Int} (h : isSeq x y = false) : laS x y k = [] ∧ laC x y k = 1 := by
  unfold laS laC
  rw [h]
  simp
theorem la_far {x y : Wd} {k : Int} (h : isSeq x y = true) (hk : ¬ (0 ≤ k ∧ k ≤ 1000000)) : laS x y k = [] ∧ laC x y k = 2 := by
  unfold laS laC
  rw [if_neg (fun c => hk c.2), if_pos h, if_neg hk]
  exact ⟨rfl, rfl⟩
theorem la_yes {x y : Wd} {k : Int} (h : isSeq x y = true) (hk : 0 ≤ k ∧ k ≤ 1000000) : laS x y k = [atQ x y k.toNat] ∧ laC x y k = 0 := by
  unfold laS laC
  rw [if_pos ⟨h, hk⟩, if_pos h, if_pos hk]
  exact ⟨rfl, rfl⟩
theorem let_three {c : UInt8} (h : isLet c = true) : c = 48 ∨ c = 49 ∨ c = 42 := by
  unfold isLet at h
  simp only [Bool.or_eq_true, beq_iff_eq] at h
  rcases h with (h | h) | h
  · exact .inl h
  · exact .inr (.inl h)
  · exact .inr (.inr h)
theorem conv1 (W : World) : (convert 5 9 (.int .u8 48)).run Tryd.prog W = .ok (.string (bs [48])) W := by kernel_rfl
theorem conv2 (W : World) : (convert 5 9 (.int .u8 49)).run Tryd.prog W = .ok (.string (bs [49])) W := by kernel_rfl
theorem conv3 (W : World) : (convert 5 9 (.int .u8 42)).run Tryd.prog W = .ok (.string (bs [42])) W := by kernel_rfl
theorem oneB (v : Int) (b : UInt8) (hx : UInt8.ofNat v.toNat = b) (W : World) (T : TypeId) : (convert 44 9 (.slice (some ⟨W.heap.size, 0, none⟩) 1 1)).run Tryd.prog (W.alloc (.cells #[.int .u8 v] T)) = .ok (.string (bs [b])) (W.alloc (.cells #[.int .u8 v] T)) := by
  have h := run_convert_bytes_arg (P := Tryd.prog) (W.alloc (.cells #[.int .u8 v] T)) 44 5 Tryd.underlying44 Tryd.underlying5 W.heap.size 0 1 1 [v] rfl (fun i hi => by
    obtain rfl : i = 0 := by omega
    simp [go_sem]) 9 Tryd.underlying9
  rw [h, show strOfNums [v] = bs [b] by rw [← hx]; rfl]

set_option maxHeartbeats 1000000 in
theorem implLetterAt (x y : Wd) (k : Int) (w : World) (hxy : x.length + y.length ≤ 1048576) :
    Calls Tryd.prog 17 #[sqV x y, .int .i64 k] w fun e w' => e = .returned (.tuple #[.string (bs (laS x y k)), .int .i64 (laC x y k)]) ∧ Below w.heap.size w w' := by
  have HA := Lib.hid (fun w => implIsSeq x y w hxy)
  cases h : isSeq x y
  · obtain ⟨e1, e2⟩ := la_no (k := k) h
    rw [e1, e2]
    rw [h] at HA
    clear h e1 e2
    go_enter Tryd.func17, Tryd.ntmps17
    go_wp2_with fail
    refine (HA.out _).mono ?_
    rintro e w2 ⟨rfl, hb2⟩
    have hS2 := keepQ hb2 keepQ0
    clear hb2
    obtain ⟨u1, u2, u3, u4⟩ := id hS2
    go_wp2
    go_ret2
    exact ⟨rfl, u2⟩
  rw [h] at HA
  by_cases hk : 0 ≤ k ∧ k ≤ 1000000
  · obtain ⟨e1, e2⟩ := la_yes h hk
    obtain ⟨_, _, hy0, h64, _⟩ := isSeq_yes h
    have HL := Lib.hid (fun w => implAt x y k.toNat k (by omega) w (by omega) hy0 h64)
    have d1 : decide (k < 0) = false := decide_eq_false (by omega)
    have d2 : decide ((1000000 : Int) < k) = false := decide_eq_false (by omega)
    have t1 := conv1
    have t2 := conv2
    have t3 := conv3
    rw [e1, e2]
    have h3 := let_three (atQ_let (k := k.toNat) h)
    generalize atQ x y k.toNat = c at *
    clear e1 e2 hk hxy h hy0 h64
    rcases h3 with rfl | rfl | rfl
    all_goals
      go_enter Tryd.func17, Tryd.ntmps17
      go_wp2_with fail
      refine (HA.out _).mono ?_
      rintro e w2 ⟨rfl, hb2⟩
      have hS2 := keepQ hb2 keepQ0
      clear hb2
      obtain ⟨u1, u2, u3, u4⟩ := id hS2
      go_wp2_with fail
      refine (HL.out _).mono ?_
      rintro e w3 ⟨rfl, hb3⟩
      have hB := belowNext u2 hb3
      clear hb3
      go_wp2
      go_ret2
      exact ⟨rfl, hB⟩
  · obtain ⟨e1, e2⟩ := la_far h hk
    rw [e1, e2]
    clear h e1 e2 hxy
    by_cases k0 : k < 0
    · have d1 : decide (k < 0) = true := decide_eq_true k0
      go_enter Tryd.func17, Tryd.ntmps17
      go_wp2_with fail
      refine (HA.out _).mono ?_
      rintro e w2 ⟨rfl, hb2⟩
      have hS2 := keepQ hb2 keepQ0
      clear hb2
      obtain ⟨u1, u2, u3, u4⟩ := id hS2
      go_wp2
      go_ret2
      exact ⟨rfl, u2⟩
    · have d1 : decide (k < 0) = false := decide_eq_false k0
      have d2 : decide ((1000000 : Int) < k) = true := decide_eq_true (by omega)
      go_enter Tryd.func17, Tryd.ntmps17
      go_wp2_with fail
      refine (HA.out _).mono ?_
      rintro e w2 ⟨rfl, hb2⟩
      have hS2 := keepQ hb2 keepQ0
      clear hb2
      obtain ⟨u1, u2, u3, u4⟩ := id hS2
      go_wp2
      go_ret2
      exact ⟨rfl, u2⟩

set_option maxHeartbeats 1000000 in
theorem specLetterAt (x y : Wd) (k : Int) (w : World) (hxy : x.length + y.length ≤ 1048576) :
    Calls Tryd.prog 16 #[sqV x y, .int .i64 k] w fun e w' => e = .returned (.tuple #[.string (bs (laS x y k)), .int .i64 (laC x y k)]) ∧ Below w.heap.size w w' := by
  have HA := Lib.hid (fun w => specL01Seq x y w hxy)
  cases h : isSeq x y
  · obtain ⟨e1, e2⟩ := la_no (k := k) h
    rw [e1, e2]
    rw [h] at HA
    clear h e1 e2
    go_enter Tryd.func16, Tryd.ntmps16
    go_wp2_with fail
    refine (HA.out _).mono ?_
    rintro e w2 ⟨rfl, hb2⟩
    have hS2 := keepQ hb2 keepQ0
    clear hb2
    obtain ⟨u1, u2, u3, u4⟩ := id hS2
    go_wp2
    go_ret2
    exact ⟨rfl, u2⟩
  rw [h] at HA
  by_cases hk : 0 ≤ k ∧ k ≤ 1000000
  · obtain ⟨e1, e2⟩ := la_yes h hk
    obtain ⟨_, _, hy0, h64, _⟩ := isSeq_yes h
    have HL := Lib.hid (fun w => specAt x y k.toNat k (by omega) w (by omega) hy0 h64)
    have HI := Lib.hid (fun w => inYes k 0 1000000 w hk.1 hk.2)
    have t1 := oneB 48 48 rfl
    have t2 := oneB 49 49 rfl
    have t3 := oneB 42 42 rfl
    rw [e1, e2]
    have h3 := let_three (atQ_let (k := k.toNat) h)
    generalize atQ x y k.toNat = c at *
    clear e1 e2 hk hxy h hy0 h64
    rcases h3 with rfl | rfl | rfl
    all_goals
      go_enter Tryd.func16, Tryd.ntmps16
      go_wp2_with fail
      refine (HA.out _).mono ?_
      rintro e w2 ⟨rfl, hb2⟩
      have hS2 := keepQ hb2 keepQ0
      clear hb2
      obtain ⟨u1, u2, u3, u4⟩ := id hS2
      go_wp2_with fail
      refine (HI.out _).mono ?_
      rintro e w2' ⟨rfl, rfl⟩
      go_wp2_with fail
      refine (HL.out _).mono ?_
      rintro e w3 ⟨rfl, hb3⟩
      have hB := belowNext u2 hb3
      clear hb3
      go_wp2
      go_ret2
      refine ⟨rfl, ?_⟩
      (repeat' (first | (with_reducible exact Below.refl _ _) | (with_reducible assumption) | (with_reducible refine belowNext ?_ (by with_reducible assumption)) | (with_reducible refine belowAlloc ?_ _) | (with_reducible refine Below.drew ?_) | (with_reducible refine below_drewN ?_ _) | (with_reducible refine Below.setCell ?_ ?_ _) | go_size | (with_reducible refine sizeOf' ?_) | (with_reducible refine sizeAdd ?_) | (dsimp only; first | (with_reducible refine sizeOf' ?_) | (with_reducible refine sizeAdd ?_))))
  · obtain ⟨e1, e2⟩ := la_far h hk
    have HI := Lib.hid (fun w => inNo k 0 1000000 w (by omega))
    rw [e1, e2]
    clear h e1 e2 hxy hk
    go_enter Tryd.func16, Tryd.ntmps16
    go_wp2_with fail
    refine (HA.out _).mono ?_
    rintro e w2 ⟨rfl, hb2⟩
    have hS2 := keepQ hb2 keepQ0
    clear hb2
    obtain ⟨u1, u2, u3, u4⟩ := id hS2
    go_wp2_with fail
    refine (HI.out _).mono ?_
    rintro e w2' ⟨rfl, rfl⟩
    go_wp2
    go_ret2
    exact ⟨rfl, u2⟩

set_option maxHeartbeats 2000000 in
theorem lawLetterAt (x y : Wd) (hx : x.length ≤ maxLen) (hy : y.length ≤ maxLen) (k : Int) (_ : (Lit.int .i64 k).wf = true) (w : World) :
    Calls Tryd.prog 5 #[sqV x y, .int .i64 k] w fun e w' => e = .returned (.bool true) ∧ Below w.heap.size w w' := by
  have HZ := Lib.hid (fun w => szSeq x y w (by unfold maxLen at hx; omega) (by unfold maxLen at hy; omega))
  have HT := Lib.hid (fun w => toSeq x y w)
  rcases szQ_cases x y with h | ⟨h, hxy⟩
  · rw [h] at HZ
    clear h hx hy
    go_enter Tryd.func5, Tryd.ntmps5
    go_wp2_with fail
    refine (HZ.out _).mono ?_
    rintro e w2 ⟨rfl, hb2⟩
    have hS := keepQ hb2 keepQ0
    clear hb2
    obtain ⟨u1, u2, u3, u4⟩ := hS
    go_wp2
    go_ret
    exact ⟨rfl, u2⟩
  · have HA := Lib.hid (fun w => specLetterAt x y k w hxy)
    have HB := Lib.hid (fun w => implLetterAt x y k w hxy)
    generalize laS x y k = X at *
    generalize laC x y k = C at *
    have hlt : decide (szQ x y < 0) = false := by simp; omega
    generalize szQ x y = z at *
    clear h hx hy hxy
    go_enter Tryd.func5, Tryd.ntmps5
    go_wp2_with fail
    refine (HZ.out _).mono ?_
    rintro e w2 ⟨rfl, hb2⟩
    have hS := keepQ hb2 keepQ0
    clear hb2
    obtain ⟨u1, u2, u3, u4⟩ := id hS
    go_wp2_with fail
    refine (HT.out _).mono ?_
    rintro e w3 ⟨rfl, hb3⟩
    have hS3 := keepQ hb3 hS
    clear hb3 u1 u2 u3 u4 hS
    obtain ⟨u1, u2, u3, u4⟩ := id hS3
    go_wp2_with fail
    refine (HA.out _).mono ?_
    rintro e w4 ⟨rfl, hb4⟩
    have hS4 := keepQ hb4 hS3
    clear hb4 u1 u2 u3 u4 hS3
    obtain ⟨u1, u2, u3, u4⟩ := id hS4
    go_wp2_with fail
    refine (HT.out _).mono ?_
    rintro e w5 ⟨rfl, hb5⟩
    have hS5 := keepQ hb5 hS4
    clear hb5 u1 u2 u3 u4 hS4
    obtain ⟨u1, u2, u3, u4⟩ := id hS5
    go_wp2_with fail
    refine (HB.out _).mono ?_
    rintro e w6 ⟨rfl, hb6⟩
    have hS6 := keepQ hb6 hS5
    clear hb6 u1 u2 u3 u4 hS5
    obtain ⟨u1, u2, u3, u4⟩ := id hS6
    go_wp2
    go_ret
    exact ⟨rfl, u2⟩
end Go.Proofs.YtlglnhjdjpjlhaaDoor

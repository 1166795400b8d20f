/-
  Contracts: LetterAt, on both sides; the walk of its law.
-/
import Derived.Test.YtdemgialagjomaaLD
import Derived.Laws.BytesArg
namespace Go.Proofs.Ytdemgialagjomaa
open Go.RowKit

/-- The letter with the number k. -/
def atQ (x y : Wd) (k : Nat) : UInt8 := if k < x.length then x.getD k 0 else y.getD ((k - x.length) % y.length) 0
theorem atQ_let {x y : Wd} {k : Nat} (h : isSeq x y = true) : isLet (atQ x y k) = true := by
  obtain ⟨h1, h2, h3, _, _⟩ := isSeq_yes h
  unfold lets at h1 h2
  rw [List.all_eq_true] at h1 h2
  unfold atQ
  split
  · next hk => rw [gd_at x hk]; exact h1 _ (List.getElem_mem hk)
  · have hm := Nat.mod_lt (k - x.length) h3
    rw [gd_at y hm]; exact h2 _ (List.getElem_mem hm)

set_option maxHeartbeats 1000000 in
theorem implAt (x y : Wd) (k : Nat) (v : Int) (hv : v = (k : Int)) (w : World) (hk : k ≤ 1000000) (hy : 0 < y.length) (hxy : x.length + y.length ≤ 64) :
    Calls Try.prog 28 #[sqV x y, .int .i64 v] w fun e w' => e = .returned (.int .u8 ((atQ x y k).toNat : Int)) ∧ Below w.heap.size w w' := by
  have hlx := fun W => lenS 9 3 x Try.underlying9 W
  have hly := fun W => lenS 9 3 y Try.underlying9 W
  by_cases hlt : k < x.length
  · have x1 := fun W => idxS x k v hlt hv W
    have hd : decide (v < (x.length : Int)) = true := decide_eq_true (by omega)
    have e : atQ x y k = x.getD k 0 := by unfold atQ; rw [if_pos hlt]
    rw [e]
    generalize ((x.getD k 0).toNat : Int) = l at *
    clear e hlt hv hxy hy
    generalize (x.length : Int) = a at *
    generalize (y.length : Int) = b at *
    go_enter Try.func28, Try.ntmps28
    go_wp2
    go_ret
    refine ⟨rfl, ?_⟩
    (repeat' (first | (with_reducible exact Below.refl _ _) | (with_reducible assumption) | (with_reducible refine belowNext ?_ (by with_reducible assumption)) | (with_reducible refine belowAlloc ?_ _) | (with_reducible refine Below.drew ?_) | (with_reducible refine below_drewN ?_ _) | (with_reducible refine Below.setCell ?_ ?_ _) | go_size | (with_reducible refine sizeOf' ?_) | (with_reducible refine sizeAdd ?_) | (dsimp only; first | (with_reducible refine sizeOf' ?_) | (with_reducible refine sizeAdd ?_))))
  · have hd : decide (v < (x.length : Int)) = false := decide_eq_false (by omega)
    have e : atQ x y k = y.getD ((k - x.length) % y.length) 0 := by unfold atQ; rw [if_neg hlt]
    have hm := Nat.mod_lt (k - x.length) hy
    have em : (v - (x.length : Int)) % (y.length : Int) = (((k - x.length) % y.length : Nat) : Int) := by
      have : v - (x.length : Int) = ((k - x.length : Nat) : Int) := by omega
      rw [this, Int.natCast_emod]
    have x1 := fun W => idxS y ((k - x.length) % y.length) ((v - (x.length : Int)) % (y.length : Int)) hm em W
    have w1 : IntKind.i64.wrap (v - (x.length : Int)) = v - (x.length : Int) := IntWalk.i64_in _ (by omega)
    have w2 : IntKind.i64.wrap ((v - (x.length : Int)) % (y.length : Int)) = (v - (x.length : Int)) % (y.length : Int) := IntWalk.i64_in _ (by rw [em]; omega)
    have w3 : (v - (x.length : Int)).tmod (y.length : Int) = (v - (x.length : Int)) % (y.length : Int) := Int.tmod_eq_emod_of_nonneg (by omega)
    have n1 : ((y.length : Int) == 0) = false := beq_eq_false_iff_ne.2 (by omega)
    have n2 : ¬ (y.length : Int) = 0 := by omega
    have n3 : decide ((v - (x.length : Int)) % (y.length : Int) < (y.length : Int)) = true := decide_eq_true (by rw [em]; omega)
    have n4 : (0 : Int) ≤ (v - (x.length : Int)) % (y.length : Int) := by rw [em]; omega
    rw [e]
    generalize ((y.getD ((k - x.length) % y.length) 0).toNat : Int) = l at *
    clear e hlt hv hxy hy hm em
    generalize (x.length : Int) = a at *
    generalize (y.length : Int) = b at *
    go_enter Try.func28, Try.ntmps28
    go_wp2_with fail
    go_quiet (fail)
    go_wp2
    go_ret
    refine ⟨rfl, ?_⟩
    (repeat' (first | (with_reducible exact Below.refl _ _) | (with_reducible assumption) | (with_reducible refine belowNext ?_ (by with_reducible assumption)) | (with_reducible refine belowAlloc ?_ _) | (with_reducible refine Below.drew ?_) | (with_reducible refine below_drewN ?_ _) | (with_reducible refine Below.setCell ?_ ?_ _) | go_size | (with_reducible refine sizeOf' ?_) | (with_reducible refine sizeAdd ?_) | (dsimp only; first | (with_reducible refine sizeOf' ?_) | (with_reducible refine sizeAdd ?_))))

set_option maxHeartbeats 1000000 in
theorem specAt (x y : Wd) (k : Nat) (v : Int) (hv : v = (k : Int)) (w : World) (hk : k ≤ 1000000) (hy : 0 < y.length) (hxy : x.length + y.length ≤ 64) :
    Calls Try.prog 24 #[sqV x y, .int .i64 v] w fun e w' => e = .returned (.int .u8 ((atQ x y k).toNat : Int)) ∧ Below w.heap.size w w' := by
  have hlx := fun W => lenS 9 3 x Try.underlying9 W
  have hly := fun W => lenS 9 3 y Try.underlying9 W
  by_cases hlt : k < x.length
  · have x1 := fun W => idxS x k v hlt hv W
    have hd : decide (v < (x.length : Int)) = true := decide_eq_true (by omega)
    have e : atQ x y k = x.getD k 0 := by unfold atQ; rw [if_pos hlt]
    rw [e]
    generalize ((x.getD k 0).toNat : Int) = l at *
    clear e hlt hv hxy hy
    generalize (x.length : Int) = a at *
    generalize (y.length : Int) = b at *
    go_enter Try.func24, Try.ntmps24
    go_wp2
    go_ret
    refine ⟨rfl, ?_⟩
    (repeat' (first | (with_reducible exact Below.refl _ _) | (with_reducible assumption) | (with_reducible refine belowNext ?_ (by with_reducible assumption)) | (with_reducible refine belowAlloc ?_ _) | (with_reducible refine Below.drew ?_) | (with_reducible refine below_drewN ?_ _) | (with_reducible refine Below.setCell ?_ ?_ _) | go_size | (with_reducible refine sizeOf' ?_) | (with_reducible refine sizeAdd ?_) | (dsimp only; first | (with_reducible refine sizeOf' ?_) | (with_reducible refine sizeAdd ?_))))
  · have hd : decide (v < (x.length : Int)) = false := decide_eq_false (by omega)
    have e : atQ x y k = y.getD ((k - x.length) % y.length) 0 := by unfold atQ; rw [if_neg hlt]
    have hm := Nat.mod_lt (k - x.length) hy
    have em : (v - (x.length : Int)) % (y.length : Int) = (((k - x.length) % y.length : Nat) : Int) := by
      have : v - (x.length : Int) = ((k - x.length : Nat) : Int) := by omega
      rw [this, Int.natCast_emod]
    have x1 := fun W => idxS y ((k - x.length) % y.length) ((v - (x.length : Int)) % (y.length : Int)) hm em W
    have w1 : IntKind.i64.wrap (v - (x.length : Int)) = v - (x.length : Int) := IntWalk.i64_in _ (by omega)
    have w2 : IntKind.i64.wrap ((v - (x.length : Int)) % (y.length : Int)) = (v - (x.length : Int)) % (y.length : Int) := IntWalk.i64_in _ (by rw [em]; omega)
    have w3 : (v - (x.length : Int)).tmod (y.length : Int) = (v - (x.length : Int)) % (y.length : Int) := Int.tmod_eq_emod_of_nonneg (by omega)
    have n1 : ((y.length : Int) == 0) = false := beq_eq_false_iff_ne.2 (by omega)
    have n2 : ¬ (y.length : Int) = 0 := by omega
    have n3 : decide ((v - (x.length : Int)) % (y.length : Int) < (y.length : Int)) = true := decide_eq_true (by rw [em]; omega)
    have n4 : (0 : Int) ≤ (v - (x.length : Int)) % (y.length : Int) := by rw [em]; omega
    rw [e]
    generalize ((y.getD ((k - x.length) % y.length) 0).toNat : Int) = l at *
    clear e hlt hv hxy hy hm em
    generalize (x.length : Int) = a at *
    generalize (y.length : Int) = b at *
    go_enter Try.func24, Try.ntmps24
    go_wp2_with fail
    go_quiet (fail)
    go_wp2
    go_ret
    refine ⟨rfl, ?_⟩
    (repeat' (first | (with_reducible exact Below.refl _ _) | (with_reducible assumption) | (with_reducible refine belowNext ?_ (by with_reducible assumption)) | (with_reducible refine belowAlloc ?_ _) | (with_reducible refine Below.drew ?_) | (with_reducible refine below_drewN ?_ _) | (with_reducible refine Below.setCell ?_ ?_ _) | go_size | (with_reducible refine sizeOf' ?_) | (with_reducible refine sizeAdd ?_) | (dsimp only; first | (with_reducible refine sizeOf' ?_) | (with_reducible refine sizeAdd ?_))))

def laS (x y : Wd) (k : Int) : Wd := if isSeq x y = true ∧ 0 ≤ k ∧ k ≤ 1000000 then [atQ x y k.toNat] else []
def laC (x y : Wd) (k : Int) : Int := if isSeq x y = true then (if 0 ≤ k ∧ k ≤ 1000000 then 0 else 2) else 1
theorem la_no {x y : Wd} {k : Int} (h : isSeq x y = false) : laS x y k = [] ∧ laC x y k = 1 := by
  unfold laS laC
  rw [h]
  simp
theorem la_far {x y : Wd} {k : Int} (h : isSeq x y = true) (hk : ¬ (0 ≤ k ∧ k ≤ 1000000)) : laS x y k = [] ∧ laC x y k = 2 := by
  unfold laS laC
  rw [if_neg (fun c => hk c.2), if_pos h, if_neg hk]
  exact ⟨rfl, rfl⟩
theorem la_yes {x y : Wd} {k : Int} (h : isSeq x y = true) (hk : 0 ≤ k ∧ k ≤ 1000000) : laS x y k = [atQ x y k.toNat] ∧ laC x y k = 0 := by
  unfold laS laC
  rw [if_pos ⟨h, hk⟩, if_pos h, if_pos hk]
  exact ⟨rfl, rfl⟩
theorem let_three {c : UInt8} (h : isLet c = true) : c = 48 ∨ c = 49 ∨ c = 42 := by
  unfold isLet at h
  simp only [Bool.or_eq_true, beq_iff_eq] at h
  rcases h with (h | h) | h
  · exact .inl h
  · exact .inr (.inl h)
  · exact .inr (.inr h)
theorem conv1 (W : World) : (convert 5 9 (.int .u8 48)).run Try.prog W = .ok (.string (bs [48])) W := by kernel_rfl
theorem conv2 (W : World) : (convert 5 9 (.int .u8 49)).run Try.prog W = .ok (.string (bs [49])) W := by kernel_rfl
theorem conv3 (W : World) : (convert 5 9 (.int .u8 42)).run Try.prog W = .ok (.string (bs [42])) W := by kernel_rfl
theorem oneB (v : Int) (b : UInt8) (hx : UInt8.ofNat v.toNat = b) (W : World) (T : TypeId) : (convert 30 9 (.slice (some ⟨W.heap.size, 0, none⟩) 1 1)).run Try.prog (W.alloc (.cells #[.int .u8 v] T)) = .ok (.string (bs [b])) (W.alloc (.cells #[.int .u8 v] T)) := by
  have h := run_convert_bytes_arg (P := Try.prog) (W.alloc (.cells #[.int .u8 v] T)) 30 5 Try.underlying30 Try.underlying5 W.heap.size 0 1 1 [v] rfl (fun i hi => by
    obtain rfl : i = 0 := by omega
    simp [go_sem]) 9 Try.underlying9
  rw [h, show strOfNums [v] = bs [b] by rw [← hx]; rfl]

end Go.Proofs.Ytdemgialagjomaa

/-
  Contracts: shiftedBy; the letters of both words in a row of bytes.
-/
import Derived.Test.YtdemgialagjomaaE1
import Derived.Test.YtdemgialagjomaaD8
import Derived.Lib.ConvBytes
namespace Go.Proofs.Ytdemgialagjomaa
open Go.RowKit

set_option maxHeartbeats 2000000 in
theorem implShBy (x y : Wd) (k : Nat) (v : Int) (hv : v = (k : Int)) (w : World) (hk : k ≤ 1000000000) (hy : 0 < y.length) (hxy : x.length + y.length ≤ 64) :
    Calls Try.prog 20 #[sqV x y, .int .i64 v] w fun e w' => e = .returned (sqV (shQ k x y).1 (shQ k x y).2) ∧ Below w.heap.size w w' := by
  have hlx := fun W => lenS 9 3 x Try.underlying9 W
  have hly := fun W => lenS 9 3 y Try.underlying9 W
  have R0 := br0 w x y 32 32
  by_cases hlt : k < x.length
  · have x1 := fun W => fromS x k v (Nat.le_of_lt hlt) hv W
    have hd : decide (v < (x.length : Int)) = true := decide_eq_true (by omega)
    have e : shQ k x y = (x.drop k, y) := by unfold shQ; rw [if_pos hlt]
    rw [e]
    dsimp only
    clear e hlt hv hxy hy hk
    generalize x.drop k = X at *
    generalize (x.length : Int) = a at *
    generalize (y.length : Int) = b at *
    go_enter Try.func20, Try.ntmps20
    obtain ⟨r1, r2, r3, r4, r5, r6, r7, r8⟩ := id R0
    go_wp2_with fail
    go_region
    all_goals go_wp2
    refine bodyPost_ret (v := sqV X y) (by simp [results, Try.results20, go_sem, sqV]) rfl ⟨rfl, ?_⟩
    (repeat' (first | (with_reducible exact Below.refl _ _) | (with_reducible assumption) | (with_reducible refine belowNext ?_ (by with_reducible assumption)) | (with_reducible refine belowAlloc ?_ _) | (with_reducible refine Below.drew ?_) | (with_reducible refine below_drewN ?_ _) | (with_reducible refine Below.setCell ?_ ?_ _) | go_size | (with_reducible refine sizeOf' ?_) | (with_reducible refine sizeAdd ?_) | (dsimp only; first | (with_reducible refine sizeOf' ?_) | (with_reducible refine sizeAdd ?_))))
  · have hd : decide (v < (x.length : Int)) = false := decide_eq_false (by omega)
    have e : shQ k x y = ([], rotN ((k - x.length) % y.length) y) := by unfold shQ; rw [if_neg hlt]
    have hm := Nat.mod_lt (k - x.length) hy
    have em : (v - (x.length : Int)) % (y.length : Int) = (((k - x.length) % y.length : Nat) : Int) := by
      have : v - (x.length : Int) = ((k - x.length : Nat) : Int) := by omega
      rw [this, Int.natCast_emod]
    have w1 : IntKind.i64.wrap (v - (x.length : Int)) = v - (x.length : Int) := IntWalk.i64_in _ (by omega)
    have w2 : IntKind.i64.wrap ((v - (x.length : Int)) % (y.length : Int)) = (v - (x.length : Int)) % (y.length : Int) := IntWalk.i64_in _ (by rw [em]; omega)
    have w3 : (v - (x.length : Int)).tmod (y.length : Int) = (v - (x.length : Int)) % (y.length : Int) := Int.tmod_eq_emod_of_nonneg (by omega)
    have n1 : ((y.length : Int) == 0) = false := beq_eq_false_iff_ne.2 (by omega)
    have n2 : ¬ (y.length : Int) = 0 := by omega
    have sl1 := fun W => fromS y ((k - x.length) % y.length) ((v - (x.length : Int)) % (y.length : Int)) (Nat.le_of_lt hm) em W
    have sl2 := fun W => toS y ((k - x.length) % y.length) ((v - (x.length : Int)) % (y.length : Int)) (Nat.le_of_lt hm) em W
    have sl3 : ∀ W, (Op.stringOp .add (bs (y.drop ((k - x.length) % y.length))) (bs (y.take ((k - x.length) % y.length)))).run Try.prog W = .ok (.string (bs (rotN ((k - x.length) % y.length) y))) W := fun W => catO _ _ (by rw [List.length_drop, List.length_take]; omega) W
    rw [e]
    dsimp only
    clear e hlt hv hxy hy hk hm em
    generalize rotN ((k - x.length) % y.length) y = Y at *
    generalize y.drop ((k - x.length) % y.length) = Y1 at *
    generalize y.take ((k - x.length) % y.length) = Y2 at *
    generalize (x.length : Int) = a at *
    generalize (y.length : Int) = b at *
    go_enter Try.func20, Try.ntmps20
    obtain ⟨r1, r2, r3, r4, r5, r6, r7, r8⟩ := id R0
    go_wp2_with fail
    go_region
    all_goals go_wp2
    refine bodyPost_ret (v := sqV [] Y) (by simp [results, Try.results20, go_sem, sqV, bs]) rfl ⟨rfl, ?_⟩
    (repeat' (first | (with_reducible exact Below.refl _ _) | (with_reducible assumption) | (with_reducible refine belowNext ?_ (by with_reducible assumption)) | (with_reducible refine belowAlloc ?_ _) | (with_reducible refine Below.drew ?_) | (with_reducible refine below_drewN ?_ _) | (with_reducible refine Below.setCell ?_ ?_ _) | go_size | (with_reducible refine sizeOf' ?_) | (with_reducible refine sizeAdd ?_) | (dsimp only; first | (with_reducible refine sizeOf' ?_) | (with_reducible refine sizeAdd ?_))))

theorem below_bytes {w W : World} (e : TypeId) (s : ByteArray) (h : Below w.heap.size w W) : Below w.heap.size w (Lib.bytesWorld W e s) :=
  belowNext h ⟨rfl, rfl, rfl, by rw [Lib.bytesWorld_size]; omega, fun k hk => Lib.bytesWorld_at_old W e s k hk⟩
theorem app_at (x y : Wd) {k : Nat} (hk : k < x.length + y.length) : (x ++ y).getD k 0 = atL x y k := by
  rw [gd_app]
  unfold atL
  split
  · rfl
  · rw [Nat.mod_eq_of_lt (by omega)]
end Go.Proofs.Ytdemgialagjomaa

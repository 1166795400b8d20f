/-
  Words in a walk: what the operations on strings answer, told of lists of bytes.
-/
import Derived.Test.YtdemgialagjomaaProg
import Derived.Test.YtdemgialagjomaaSeq
import Derived.Test.YtdemgialagjomaaW1
import Derived.Lib.Strings
import Derived.Laws.Slices
import Derived.Laws.Strings3
import Derived.Laws.DeepStrings4
namespace Go.Proofs.Ytdemgialagjomaa
open Go.RowKit

/-- A word as a string. -/
def bs (l : Wd) : ByteArray := ⟨l.toArray⟩
theorem bs_size (l : Wd) : (bs l).size = l.length := by simp [bs, ByteArray.size]
theorem bs_data (l : Wd) : (bs l).data.toList = l := by simp [bs]
theorem bs_of (s : ByteArray) : bs s.data.toList = s := Lib.mk_data s
theorem bs_toList (l : Wd) : (bs l).toList = l := by rw [Lib.toList_data, bs_data]
theorem bs_extract (l : Wd) (a b : Nat) : (bs l).extract a b = bs ((l.drop a).take (b - a)) := by rw [Lib.extract_eq, bs_data]; rfl
theorem bs_append (x y : Wd) : bs x ++ bs y = bs (x ++ y) := by
  rw [← bs_of (bs x ++ bs y)]
  congr 1
theorem bs_inj {x y : Wd} (h : bs x = bs y) : x = y := by rw [← bs_data x, h, bs_data]

theorem idxS (l : Wd) (i : Nat) (v : Int) (hi : i < l.length) (hv : v = (i : Int)) (W : World) : (Instr.index 9 (.string (bs l)) (.int .i64 v)).run Try.prog W = .ok (.int .u8 ((l.getD i 0).toNat : Int)) W := by
  subst hv
  rw [run_index_string _ _ _ _ _ Try.underlying9, dif_pos ⟨by omega, by rw [bs_size]; omega⟩]
  have e : (bs l)[(i : Int).toNat]'(by rw [bs_size]; omega) = l.getD i 0 := by
    rw [gd_at l hi]
    simp [bs, ByteArray.getElem_eq_getElem_data]
  rw [e]
theorem toS (l : Wd) (j : Nat) (v : Int) (hj : j ≤ l.length) (hv : v = (j : Int)) (W : World) : (Instr.slice 9 (.string (bs l)) none (some (.int .i64 v)) none).run Try.prog W = .ok (.string (bs (l.take j))) W := by
  subst hv
  rw [run_slice_string_h W _ _ Try.underlying9 _ _ (by omega) (by rw [bs_size]; omega), bs_extract]
  simp
theorem fromS (l : Wd) (j : Nat) (v : Int) (hj : j ≤ l.length) (hv : v = (j : Int)) (W : World) : (Instr.slice 9 (.string (bs l)) (some (.int .i64 v)) none none).run Try.prog W = .ok (.string (bs (l.drop j))) W := by
  subst hv
  rw [run_slice_string_l W _ _ Try.underlying9 _ _ (by omega) (by rw [bs_size]; omega), bs_extract, bs_size]
  congr 3
  rw [List.take_of_length_le (by simp)]
  simp
theorem catS (x y : Wd) (h : x.length + y.length ≤ 9223372036854775807) (W : World) : (binOp .add 9 (.string (bs x)) (.string (bs y))).run Try.prog W = .ok (.string (bs (x ++ y))) W := by
  rw [binOp_string_add, ← bs_append]; simp [Op.stringOp, bs_size]; omega
theorem catO (x y : Wd) (h : x.length + y.length ≤ 9223372036854775807) (W : World) : (Op.stringOp .add (bs x) (bs y)).run Try.prog W = .ok (.string (bs (x ++ y))) W := by
  have := catS x y h W
  rwa [binOp_string_add] at this
theorem eqL (x y : Wd) : ((bs x).toList == (bs y).toList) = (x == y) := by rw [bs_toList, bs_toList]
theorem eqS (x y : Wd) (W : World) : (binOp .eql 9 (.string (bs x)) (.string (bs y))).run Try.prog W = .ok (.bool (x == y)) W := by
  rw [binOp_string_eql, bs_toList, bs_toList]; rfl
theorem neS (x y : Wd) (W : World) : (binOp .neq 9 (.string (bs x)) (.string (bs y))).run Try.prog W = .ok (.bool !(x == y)) W := by
  rw [binOp_string_neq, bs_toList, bs_toList]; rfl
theorem bs_nil : bs [] = ⟨#[]⟩ := rfl
theorem neE (x : Wd) (W : World) : (binOp .neq 9 (.string (bs x)) (.string ⟨#[]⟩)).run Try.prog W = .ok (.bool (decide (0 < x.length))) W := by
  have h := neS x [] W
  rw [bs_nil] at h
  rw [h]
  congr 2
  cases x <;> simp
theorem eqE (x : Wd) (W : World) : (binOp .eql 9 (.string (bs x)) (.string ⟨#[]⟩)).run Try.prog W = .ok (.bool (decide (x.length = 0))) W := by
  have h := eqS x [] W
  rw [bs_nil] at h
  rw [h]
  congr 2
  cases x <;> simp
theorem lenS (t ty : TypeId) (l : Wd) (h : Try.prog.underlying t = some .string) (W : World) : (Builtin.len_ #[t] ty #[.string (bs l)]).run Try.prog W = .ok (.int .i64 (l.length : Int)) W := by
  rw [run_len_string _ _ _ _ h, bs_size]; rfl
end Go.Proofs.Ytdemgialagjomaa

/-
  Contracts: the sequence of an address, as the model makes it.
-/
import Derived.Test.YtfakkibacepdeaaA4
import Derived.Test.YtfakkibacepdeaaA3
namespace Go.Proofs.Ytfakkibacepdeaa
open Go.RowKit

theorem flip_put {W : World} {lo b : Nat} {x : Wd} {q : Nat} (h : ByOwn W lo b x) (hq : x.length = q + 1) (c : UInt8) : ByOwn (W.setCell ⟨b, q, none⟩ (.int .u8 (c.toNat : Int))) lo b (x.take q ++ [c]) := by
  refine ⟨h.lo, by simpa using h.z, fun i hi => ?_, fun i => by simpa using h.f i⟩
  rw [List.length_append, List.length_take] at hi
  simp only [List.length_cons, List.length_nil] at hi
  have hb := h.c q (by omega)
  rw [Nat.zero_add] at hb ⊢
  by_cases e : i = q
  · subst e
    rw [World.cell?_setCell_same _ _ _ hb]
    have : (x.take i ++ [c]).getD i 0 = c := by
      rw [List.getD_eq_getElem?_getD, List.getElem?_append_right (by rw [List.length_take]; omega), List.length_take, show i - min i x.length = 0 by omega]
      rfl
    rw [this]
  · rw [World.cell?_setCell_other _ _ _ _ (by intro e2; injection e2; omega)]
    have hc := h.c i (by omega)
    rw [Nat.zero_add] at hc
    rw [hc]
    have : (x.take q ++ [c]).getD i 0 = x.getD i 0 := by
      rw [List.getD_eq_getElem?_getD, List.getElem?_append_left (by rw [List.length_take]; omega), List.getElem?_take_of_lt (by omega), ← List.getD_eq_getElem?_getD]
    rw [this]
/-- All letters are 0 or 1. -/
def bits (x : Wd) : Prop := ∀ i, i < x.length → x.getD i 0 = 48 ∨ x.getD i 0 = 49
theorem bits_rep {x : Wd} (h : bits x) (hx : 1 ≤ x.length) (m : Nat) : bits (repN x m) := by
  intro i hi
  rw [repN_len] at hi
  have : (repN x m).getD i 0 = x.getD (i % x.length) 0 := by rw [List.getD_eq_getElem?_getD, repN_at hi]; rfl
  rw [this]
  exact h _ (Nat.mod_lt _ (by omega))
theorem bits_flip {x : Wd} (h : bits x) (hx : 1 ≤ x.length) : bits (flipL x) := by
  intro i hi
  rw [flipL_len hx] at hi
  unfold flipL
  by_cases e : i < x.length - 1
  · have : (x.take (x.length - 1) ++ [othL (x.getD (x.length - 1) 0)]).getD i 0 = x.getD i 0 := by
      rw [List.getD_eq_getElem?_getD, List.getElem?_append_left (by rw [List.length_take]; omega), List.getElem?_take_of_lt e, ← List.getD_eq_getElem?_getD]
    rw [this]; exact h i hi
  · have : (x.take (x.length - 1) ++ [othL (x.getD (x.length - 1) 0)]).getD i 0 = othL (x.getD (x.length - 1) 0) := by
      rw [List.getD_eq_getElem?_getD, List.getElem?_append_right (by rw [List.length_take]; omega), List.length_take, show i - min (x.length - 1) x.length = 0 by omega]
      rfl
    rw [this]
    unfold othL
    split <;> simp
theorem addrW_bits {l : List Int} (h : isAddr l = true) : ∀ k, k ≤ l.length → bits (addrW l k)
  | 0, _ => by intro i hi; simp [addrW] at hi; subst hi; exact .inl rfl
  | k + 1, hk => by
    have := (addr_yes h).2.2.2 k (by omega)
    simp only [addrW]
    exact bits_flip (bits_rep (addrW_bits h k (by omega)) (addrW_range h (by omega)).1 _) (by rw [repN_len]; omega)
theorem oth_sub {c : UInt8} (h : c = 48 ∨ c = 49) : 97 - (c.toNat : Int) = ((othL c).toNat : Int) := by
  rcases h with rfl | rfl <;> rfl
theorem addrW_one {l : List Int} (h : isAddr l = true) : addrW l 1 = [49] := by
  have := (addr_yes h).2.2.1
  simp only [addrW]
  rw [this]
  rfl
end Go.Proofs.Ytfakkibacepdeaa

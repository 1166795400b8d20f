/-
  Addresses: the words that they make (plain mathematics); words taken again and again, and the other letter, as the program has them.
-/
import Derived.Test.YtfakkibacepdeaaA1
import Derived.Test.YtfakkibacepdeaaS2
namespace Go.Proofs.Ytfakkibacepdeaa
open Go.RowKit

/-- A word that is taken again and again, n letters of it. -/
def repN (x : Wd) (n : Nat) : Wd := (List.range n).map fun i => x.getD (i % x.length) 0
theorem repN_len (x : Wd) (n : Nat) : (repN x n).length = n := by simp [repN]
theorem repN_at {x : Wd} {n i : Nat} (h : i < n) : (repN x n)[i]? = some (x.getD (i % x.length) 0) := by
  unfold repN
  rw [List.getElem?_map, List.getElem?_range h]
  rfl
theorem repN_take {x : Wd} {m k : Nat} (h : k ≤ m) : (repN x m).take k = repN x k := by
  unfold repN
  rw [← List.map_take, List.take_range, Nat.min_eq_left h]
theorem rep_repN {x : Wd} (hx : 0 < x.length) {m c : Nat} (h : m ≤ c * x.length) : (Lib.repeatL x c).take m = repN x m := by
  apply List.ext_getElem?
  intro i
  by_cases hi : i < m
  · rw [repN_at hi, List.getElem?_take_of_lt hi]
    have hl : i < (Lib.repeatL x c).length := by rw [Lib.repeatL_length]; omega
    have := rep_getD x hx c i (by omega)
    rw [List.getD_eq_getElem?_getD, List.getElem?_eq_getElem hl] at this
    rw [List.getElem?_eq_getElem hl, ← this]
    rfl
  · rw [List.getElem?_eq_none (by rw [List.length_take]; omega), List.getElem?_eq_none (by rw [repN_len]; omega)]
def othL (c : UInt8) : UInt8 := if c = 48 then 49 else 48
def flipL (x : Wd) : Wd := x.take (x.length - 1) ++ [othL (x.getD (x.length - 1) 0)]
theorem flipL_len {x : Wd} (h : 1 ≤ x.length) : (flipL x).length = x.length := by
  unfold flipL
  rw [List.length_append, List.length_take]
  simp; omega
/-- The word behind the first k numbers of an address. -/
def addrW (l : List Int) : Nat → Wd
  | 0 => [48]
  | k + 1 => flipL (repN (addrW l k) (l.getD k 0).toNat)
theorem asc_lt {l : List Int} {k : Nat} (h : ascTo l k = true) {i : Nat} (hi : i + 1 < k) : l.getD i 0 < l.getD (i + 1) 0 := by
  unfold ascTo at h
  rw [List.all_eq_true] at h
  have := h (i + 1) (List.mem_range.2 hi)
  simpa using this
theorem addr_yes {l : List Int} (h : isAddr l = true) : 1 ≤ l.length ∧ l.length ≤ 20 ∧ l.getD 0 0 = 1 ∧ (∀ i, i < l.length → 1 ≤ l.getD i 0 ∧ l.getD i 0 ≤ 40) := by
  unfold isAddr at h
  simp only [Bool.and_eq_true, decide_eq_true_eq] at h
  obtain ⟨h1, h2, h3, h4, h5⟩ := h
  have up : ∀ d i, i + d < l.length → l.getD i 0 + (d : Int) ≤ l.getD (i + d) 0 := by
    intro d
    induction d with
    | zero => intro i _; simp
    | succ d ih =>
      intro i hi
      have a := ih i (by omega)
      have b := asc_lt h5 (i := i + d) (by omega)
      rw [show i + (d + 1) = i + d + 1 by omega]
      omega
  refine ⟨h1, h2, h3, fun i hi => ⟨?_, ?_⟩⟩
  · have := up i 0 (by omega)
    rw [Nat.zero_add] at this
    omega
  · have := up (l.length - 1 - i) i (by omega)
    rw [show i + (l.length - 1 - i) = l.length - 1 by omega] at this
    omega
theorem addrW_len {l : List Int} (h : isAddr l = true) {k : Nat} (hk : k < l.length) : (addrW l (k + 1)).length = (l.getD k 0).toNat := by
  have := (addr_yes h).2.2.2 k hk
  simp only [addrW]
  rw [flipL_len (by rw [repN_len]; omega), repN_len]
theorem addrW_range {l : List Int} (h : isAddr l = true) {k : Nat} (hk : k ≤ l.length) : 1 ≤ (addrW l k).length ∧ (addrW l k).length ≤ 40 := by
  cases k with
  | zero => simp [addrW]
  | succ k =>
    have := (addr_yes h).2.2.2 k (by omega)
    rw [addrW_len h (by omega)]
    omega

theorem repAll (x : Wd) (c : Nat) (v : Int) (w : World) (hv : v = (c : Int)) (hc : c ≤ 100) (hl : x.length * c ≤ 100) :
    Calls Try.prog 182 #[.string (bs x), .int .i64 v] w fun e w' => e = .returned (.string (bs (Lib.repeatL x c))) ∧ Below w.heap.size w w' := by
  subst hv
  have h := Try.strings_Repeat (bs x) c w (by omega) (by rw [bs_size]; omega)
  rw [bs_data] at h
  exact h.mono fun e w' ⟨he, hb⟩ => ⟨he, hb⟩

set_option maxHeartbeats 1000000 in
theorem implOther (c : UInt8) (w : World) : Calls Try.prog 131 #[.int .u8 (c.toNat : Int)] w fun e w' => e = .returned (.string (bs [othL c])) ∧ w = w' := by
  by_cases h : c = 48
  · have e : othL c = 49 := by unfold othL; rw [if_pos h]
    rw [e]
    subst h
    go_enter Try.func131, Try.ntmps131
    go_wp2
    go_ret
    exact ⟨rfl, rfl⟩
  · have e : othL c = 48 := by unfold othL; rw [if_neg h]
    rw [e]
    have hn : ¬ (c.toNat : Int) = 48 := fun h2 => h (by
      apply UInt8.toNat_inj.1
      have : c.toNat = 48 := by omega
      rw [this]; rfl)
    generalize (c.toNat : Int) = z at *
    go_enter Try.func131, Try.ntmps131
    go_wp2
    go_ret
    exact ⟨rfl, rfl⟩

set_option maxHeartbeats 1000000 in
theorem implRep (x : Wd) (m : Nat) (w : World) (h1 : 1 ≤ x.length) (h2 : x.length ≤ 40) (hm : m ≤ 40) :
    Calls Try.prog 130 #[.string (bs x), .int .i64 (m : Int)] w fun e w' => e = .returned (.string (bs (repN x m))) ∧ Below w.heap.size w w' := by
  have hlen := fun W => lenS 9 3 x Try.underlying9 W
  obtain ⟨n, hn⟩ : ∃ n, x.length = n := ⟨_, rfl⟩
  have hq : (m : Int).tdiv (n : Int) = ((m / n : Nat) : Int) := by rw [Int.tdiv_eq_ediv_of_nonneg (by omega), Int.natCast_ediv]
  have hq2 : (m : Int) / (n : Int) = ((m / n : Nat) : Int) := by rw [Int.natCast_ediv]
  have hmod := Nat.div_add_mod m n
  have hlt := Nat.mod_lt m (y := n) (by omega)
  have hle : m / n ≤ m := Nat.div_le_self m n
  obtain ⟨q, hqq⟩ : ∃ q, m / n = q := ⟨_, rfl⟩
  rw [hqq] at hq hq2 hmod hle
  have hmul : n * (q + 1) ≤ 100 := by rw [Nat.mul_add]; omega
  have hcover : m ≤ (q + 1) * n := by rw [Nat.add_mul, Nat.mul_comm q n]; omega
  have HR := Lib.hid (fun w => repAll x (q + 1) ((q : Int) + 1) w (by omega) (by omega) (by rw [hn]; exact hmul))
  have HT := fun W => toS (Lib.repeatL x (q + 1)) m (m : Int) (by rw [Lib.repeatL_length, hn]; exact hcover) rfl W
  rw [rep_repN (by omega) (by rw [hn]; exact hcover)] at HT
  rw [hn] at hlen
  have w1 : IntKind.i64.wrap ((q : Int) + 1) = (q : Int) + 1 := IntWalk.i64_in _ (by omega)
  have w2 : IntKind.i64.wrap (q : Int) = (q : Int) := IntWalk.i64_in _ (by omega)
  have hn0 : ¬ ((n : Int) = 0) := by omega
  generalize repN x m = R at *
  generalize Lib.repeatL x (q + 1) = L at *
  clear hmod hlt hmul hcover hqq hn h1 h2
  go_enter Try.func130, Try.ntmps130
  go_wp2_with fail
  refine (HR.out _).mono ?_
  rintro e w1 ⟨rfl, hb1⟩
  go_wp2
  go_ret
  exact ⟨rfl, hb1⟩
end Go.Proofs.Ytfakkibacepdeaa

/-
  Sequences as keys of a map; the table of differences, as data; rho.
-/
import Derived.Test.YtdemgialagjomaaE6
import Derived.Maps.OwnIn
import Derived.Maps.OwnSet
import Derived.DeepKeys4
namespace Go.Proofs.Ytdemgialagjomaa
open Go.RowKit

theorem laidOutQ : laidOutB Try.prog = true := by kernel_rfl
theorem sqRowLt : 32 < Try.prog.types.size := of_decide_eq_true (by kernel_rfl)
theorem sqAt : Try.prog.keyTypeAt 2 32 = true := by kernel_rfl
theorem sqLaw0 : WideMaps.KeyLaw Try.prog 32 := deep_law_laid laidOutQ (m := 2) (by omega) sqRowLt sqAt (by rw [Try.underlying32])
theorem sqLaw : Maps.Keyed Try.prog 32 := Maps.Keyed.of_law sqLaw0
theorem sqKeyType : Try.prog.keyType 32 = true := by kernel_rfl
theorem sqCells : Try.prog.cellsOf 32 = 2 := by kernel_rfl
theorem strCells : Try.prog.cellsOf 9 = 1 := by kernel_rfl
theorem typesSomeQ : ∃ m, Try.prog.types.size = m + 1 := ⟨Try.prog.types.size - 1, by have : 0 < Try.prog.types.size := of_decide_eq_true (by kernel_rfl); omega⟩
/-- The key of a sequence in a map. -/
def ks (q : Wd × Wd) : Lit := .string (keyBytes [.string q.1, .string q.2])
theorem ks_key (q : Wd × Wd) : WideAt.IsKeyLit (ks q) := trivial
theorem sqKey (q : Wd × Wd) (h : q.1.length + q.2.length ≤ 64) : keyOf Try.prog 32 (sqV q.1 q.2) = some (ks q) := by
  obtain ⟨m, hm⟩ := typesSomeQ
  obtain ⟨x, y⟩ := q
  dsimp only at *
  have hf : (sqV x y).formed Try.prog 32 = true := by simp [Value.formed, Try.underlying32, sqCells]
  have hx : (bs x).size ≤ maxLen := by rw [bs_size]; unfold maxLen; omega
  have hy : (bs y).size ≤ maxLen := by rw [bs_size]; unfold maxLen; omega
  have hk : Try.prog.keyLits (Try.prog.types.size + 1) 32 [.string (bs x), .string (bs y)] = some [.string x, .string y] := by
    rw [hm]
    simp [Program.keyLits, Try.underlying32, Try.underlying9, sqCells, strCells, hx, hy]
    exact ⟨bs_data x, bs_data y⟩
  unfold keyOf
  rw [Try.underlying32]
  simp only [sqKeyType, hf, Bool.and_self, if_true]
  rw [show (sqV x y).cells.toList = [.string (bs x), .string (bs y)] from rfl, hk]
  rfl
theorem ks_inj {p q : Wd × Wd} (hp : p.1.length + p.2.length ≤ 64) (hq : q.1.length + q.2.length ≤ 64) (e : ks p = ks q) : p = q := by
  have h1 := sqKey p hp
  have h2 := sqKey q hq
  rw [e] at h1
  have h3 := sqLaw.inj h1 h2
  simp only [Value.agg.injEq, Array.mk.injEq, List.cons.injEq, Value.string.injEq, and_true] at h3
  exact Prod.ext (bs_inj h3.1) (bs_inj h3.2)

/-- The number of the first place, below n, where two rows of letters differ; else n. -/
def diffN (f g : Nat → UInt8) : Nat → Nat
  | 0 => 0
  | n + 1 => if diffN f g n < n then diffN f g n else if f n = g n then n + 1 else n
theorem diffN_le (f g : Nat → UInt8) : ∀ n, diffN f g n ≤ n
  | 0 => Nat.le_refl _
  | n + 1 => by
    have := diffN_le f g n
    unfold diffN
    split
    · omega
    · split <;> omega
theorem diffN_eq (f g : Nat → UInt8) : ∀ n j, j < diffN f g n → f j = g j
  | 0, j, h => by unfold diffN at h; omega
  | n + 1, j, h => by
    unfold diffN at h
    split at h
    · exact diffN_eq f g n j h
    · next h1 =>
      have h2 := diffN_le f g n
      split at h
      · next h3 =>
        by_cases e : j = n
        · rw [e]; exact h3
        · exact diffN_eq f g n j (by omega)
      · exact diffN_eq f g n j (by omega)
theorem diffN_ne (f g : Nat → UInt8) : ∀ n, diffN f g n < n → f (diffN f g n) ≠ g (diffN f g n)
  | 0, h => by omega
  | n + 1, h => by
    unfold diffN at h ⊢
    split
    · next h1 => exact diffN_ne f g n h1
    · next h1 =>
      rw [if_neg h1] at h
      split
      · next h3 => rw [if_pos h3] at h; omega
      · next h3 => exact h3
/-- The first place where a sequence differs from (x, y). -/
def dfQ (x y : Wd) (q : Wd × Wd) : Nat := diffN (atL q.1 q.2) (atL x y) 5000
theorem dfQ_is {x y : Wd} {q : Wd × Wd} (h1 : isSeq q.1 q.2 = true) (h2 : isSeq x y = true) (hne : q ≠ (x, y)) : FirstD q.1 q.2 x y (dfQ x y q) ∧ dfQ x y q < 5000 := by
  rcases first_of h1 h2 with ⟨e1, e2⟩ | ⟨k, hk, hf⟩
  · exact absurd (Prod.ext e1 e2) hne
  · have hk5 : k < 5000 := by
      have := first_small h1 h2 hk
      obtain ⟨-, -, a3, a4, -⟩ := isSeq_yes h1
      obtain ⟨-, -, b3, b4, -⟩ := isSeq_yes h2
      have : q.2.length * y.length ≤ 64 * 64 := Nat.mul_le_mul (by omega) (by omega)
      omega
    have hlt : dfQ x y q < 5000 := by
      rcases Nat.lt_or_ge (dfQ x y q) 5000 with h | h
      · exact h
      · exact absurd (diffN_eq _ _ 5000 k (by unfold dfQ at h; omega)) hf.2
    exact ⟨⟨diffN_eq _ _ 5000, diffN_ne _ _ 5000 hlt⟩, hlt⟩

/-- What the table holds when the first n shifts have been looked at. -/
def putT (x y : Wd) (m : DataW Unit) (k : Nat) : DataW Unit := if shQ k x y = (x, y) then m else m.put (ks (shQ k x y)) (.lit (.int .i64 ((dfQ x y (shQ k x y) : Int) + 1)))
def tabD (x y : Wd) : Nat → DataW Unit
  | 0 => .map []
  | n + 1 => putT x y (tabD x y n) n
theorem tabD_is (x y : Wd) : ∀ n, Maps.IsMap (tabD x y n)
  | 0 => Maps.isMap_empty
  | n + 1 => by
    unfold tabD putT
    split
    · exact tabD_is x y n
    · exact (tabD_is x y n).put _ _
theorem sh_small {x y : Wd} (h : isSeq x y = true) (k : Nat) : (shQ k x y).1.length + (shQ k x y).2.length ≤ 64 := (isSeq_yes (sh_seq h k)).2.2.2.1
theorem tabD_yes {x y : Wd} (h : isSeq x y = true) {k : Nat} (hne : shQ k x y ≠ (x, y)) (z : DataW Unit) : ∀ n, (∃ j, j < n ∧ shQ j x y = shQ k x y) → (tabD x y n).atKey (ks (shQ k x y)) z = .lit (.int .i64 ((dfQ x y (shQ k x y) : Int) + 1))
  | 0, ⟨j, hj, _⟩ => absurd hj (by omega)
  | n + 1, hex => by
    unfold tabD putT
    by_cases e : shQ n x y = shQ k x y
    · rw [if_neg (by rw [e]; exact hne), e]
      exact Maps.atKey_put_same (tabD_is x y n) (ks_key _) _ z
    · have ih := tabD_yes h hne z n (by
        obtain ⟨j, hj, hjk⟩ := hex
        exact ⟨j, by
          rcases Nat.lt_or_ge j n with h1 | h1
          · exact h1
          · have : j = n := by omega
            subst this; exact absurd hjk e, hjk⟩)
      split
      · exact ih
      · rw [Maps.atKey_put_other (fun h' => e (ks_inj (sh_small h k) (sh_small h n) h').symm) _ z]
        exact ih
theorem tabD_no {x y : Wd} (h : isSeq x y = true) (z : DataW Unit) : ∀ n, (tabD x y n).atKey (ks (x, y)) z = z
  | 0 => rfl
  | n + 1 => by
    unfold tabD putT
    split
    · exact tabD_no h z n
    · next hne =>
      rw [Maps.atKey_put_other (fun h' => hne (ks_inj (by have := (isSeq_yes h).2.2.2.1; exact this) (sh_small h n) h').symm) _ z]
      exact tabD_no h z n
/-- Each shift is one of the first ones. -/
theorem sh_first {x y : Wd} (hy : 0 < y.length) (k : Nat) : ∃ j, j < x.length + y.length ∧ shQ j x y = shQ k x y := by
  by_cases h : k < x.length
  · exact ⟨k, by omega, rfl⟩
  · have hm := Nat.mod_lt (k - x.length) hy
    refine ⟨x.length + (k - x.length) % y.length, by omega, ?_⟩
    unfold shQ
    rw [if_neg (by omega), if_neg h, show x.length + (k - x.length) % y.length - x.length = (k - x.length) % y.length by omega, Nat.mod_mod]
/-- rho of k, and 0 if there is none. -/
def rhoN (x y : Wd) (k : Nat) : Nat := if shQ k x y = (x, y) then 0 else k + dfQ x y (shQ k x y) + 1

/-- Letters that agree over a Pre and a whole Per agree for ever, where the Pers are equally long. -/
theorem at_near {x y x' y' : Wd} (hy : 0 < y.length) (hl : y'.length = y.length) (hx : x'.length ≤ x.length) (h : ∀ j, j < x.length + y.length → atL x y j = atL x' y' j) : ∀ j, atL x y j = atL x' y' j := by
  intro j
  rcases Nat.lt_or_ge j x.length with hlt | hge
  · exact h j (by omega)
  · have e : j = (x.length + (j - x.length) % y.length) + y.length * ((j - x.length) / y.length) := by
      have := Nat.mod_add_div (j - x.length) y.length
      omega
    have hm := Nat.mod_lt (j - x.length) hy
    have u1 := tail_mul (f := atL x y) (M := x.length) (p := y.length) (fun i hi => at_per hi) ((j - x.length) / y.length) (x.length + (j - x.length) % y.length) (by omega)
    have u2 := tail_mul (f := atL x' y') (M := x.length) (p := y.length) (fun i hi => by rw [← hl]; exact at_per (by omega)) ((j - x.length) / y.length) (x.length + (j - x.length) % y.length) (by omega)
    rw [← e] at u1 u2
    rw [u1, u2]
    exact h _ (by omega)
/-- A shift is another sequence just if a letter soon differs. -/
theorem sh_diff {x y : Wd} (h : isSeq x y = true) (k : Nat) : (shQ k x y = (x, y) ∧ ∀ j, atL x y (k + j) = atL x y j) ∨ (shQ k x y ≠ (x, y) ∧ dfQ x y (shQ k x y) < x.length + y.length ∧ (∀ j, j < dfQ x y (shQ k x y) → atL x y (k + j) = atL x y j) ∧ atL x y (k + dfQ x y (shQ k x y)) ≠ atL x y (dfQ x y (shQ k x y))) := by
  have hy := (isSeq_yes h).2.2.1
  by_cases e : shQ k x y = (x, y)
  · refine .inl ⟨e, fun j => ?_⟩
    have := sh_at (x := x) hy k j
    rw [e] at this
    exact this.symm
  · obtain ⟨⟨d1, d2⟩, -⟩ := dfQ_is (sh_seq h k) h e
    refine .inr ⟨e, ?_, fun j hj => ?_, ?_⟩
    · rcases Nat.lt_or_ge (dfQ x y (shQ k x y)) (x.length + y.length) with hlt | hge
      · exact hlt
      · have hs := shQ_len (x := x) (y := y) k
        have hall := at_near hy hs.1 hs.2 (fun j hj => (d1 j (by omega)).symm)
        obtain ⟨e1, e2⟩ := seq_one h (sh_seq h k) hall
        exact absurd (Prod.ext e1.symm e2.symm) e
    · rw [← sh_at hy k j]; exact d1 j hj
    · rw [← sh_at hy k _]; exact d2
end Go.Proofs.Ytdemgialagjomaa

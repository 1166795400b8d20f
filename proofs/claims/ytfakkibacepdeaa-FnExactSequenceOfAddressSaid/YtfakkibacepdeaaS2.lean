/-
  Contracts: the shortest period of a word; sequences told in the one way (the program's).
-/
import Derived.Test.YtfakkibacepdeaaS1
import Derived.Test.YtfakkibacepdeaaShelf
import Derived.Test.YtfakkibacepdeaaW1
import Derived.IntWalk
import Derived.Deep.RegionHeld3
namespace Go.Proofs.Ytfakkibacepdeaa
open Go.RowKit

theorem repAny (l : Wd) (k c : Nat) (v : Int) (w : World) (hv : v = (c : Int)) (hc : c ≤ 64) (hl : (l.take k).length * c ≤ 64) :
    Calls Try.prog 182 #[.string (bs (l.take k)), .int .i64 v] w fun e w' => e = .returned (.string (bs (Lib.repeatL (l.take k) c))) ∧ Below w.heap.size w w' := by
  subst hv
  have h := Try.strings_Repeat (bs (l.take k)) c w (by omega) (by rw [bs_size]; omega)
  rw [bs_data] at h
  exact h.mono fun e w' ⟨he, hb⟩ => ⟨he, hb⟩

theorem sp_yes {l : Wd} {k : Nat} (h : l.length % k = 0) (h2 : perB l k = true) (f : Nat) : spFrom l (f + 1) k = k := by simp [spFrom, h, h2]
theorem sp_no {l : Wd} {k : Nat} (h : ¬ (l.length % k = 0 ∧ perB l k = true)) (f : Nat) : spFrom l (f + 1) k = spFrom l f (k + 1) := by
  simp only [spFrom]; rw [if_neg h]

end Go.Proofs.Ytfakkibacepdeaa

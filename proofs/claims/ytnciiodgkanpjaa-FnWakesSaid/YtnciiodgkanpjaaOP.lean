/-
  Contracts: the opposite angle on both sides; the law's walk.
-/
import Derived.Test.YtnciiodgkanpjaaW4
namespace Go.Proofs.Ytnciiodgkanpjaa
open Go.RowKit

def oppN (n d : Int) : Int := if isAng n d then redN (-n) d else 0
def oppD (n d : Int) : Int := if isAng n d then redD (-n) d else 0
def oppC (n d : Int) : Int := if isAng n d then 0 else 1
theorem opp_yes {n d : Int} (h : isAng n d = true) : oppN n d = redN (-n) d ∧ oppD n d = redD (-n) d ∧ oppC n d = 0 := by
  unfold oppN oppD oppC; simp [h]
theorem opp_no {n d : Int} (h : isAng n d = false) : oppN n d = 0 ∧ oppD n d = 0 ∧ oppC n d = 1 := by
  unfold oppN oppD oppC; simp [h]

end Go.Proofs.Ytnciiodgkanpjaa

/-
  What the seat's program is, reckoned once for all of its laws.
-/
import Derived.Test.YtnciiodgkanpjaaRows
import Derived.JoinedOf
import Derived.ProofKit
namespace Go.Proofs.Ytnciiodgkanpjaa

theorem seatHeard : Try.pinned.checked.prog.stopsHeard = true := by kernel_rfl
theorem seatLaid : (laidOutB Try.pinned.checked.prog && mapsRowed Try.pinned.checked.prog) = true := by kernel_rfl
theorem seatWords : (Try.pinned.checked.prog.mayEnter && (!Try.pinned.checked.prog.liftsFinal && (Try.pinned.checked.prog.make == some Make.cut))) = true := by kernel_rfl
theorem seatMay : Try.pinned.checked.prog.mayEnter = true := by
  have h := seatWords
  rw [Bool.and_eq_true] at h
  exact h.1
theorem seatLift : (false == Try.pinned.checked.prog.liftsFinal) = true := by
  have h := seatWords
  rw [Bool.and_eq_true, Bool.and_eq_true] at h
  have h2 := h.2.1
  generalize Try.pinned.checked.prog.liftsFinal = b at *
  cases b
  · rfl
  · cases h2
theorem seatMake : (Try.pinned.checked.prog.make == some Make.cut) = true := by
  have h := seatWords
  rw [Bool.and_eq_true, Bool.and_eq_true] at h
  exact h.2.2
theorem seatLaid1 : laidOutB Try.pinned.checked.prog = true := by
  have h := seatLaid
  rw [Bool.and_eq_true] at h
  exact h.1
theorem seatRowed : mapsRowed Try.pinned.checked.prog = true := by
  have h := seatLaid
  rw [Bool.and_eq_true] at h
  exact h.2
end Go.Proofs.Ytnciiodgkanpjaa

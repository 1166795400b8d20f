/-
  Contracts with the world written out: the model's order of angles, its leaf between two angles.
-/
import Derived.Test.YtkpgfafmaoaefaaV14
import Derived.Test.YtkpgfafmaoaefaaW11
namespace Go.Proofs.Ytkpgfafmaoaefaa
open Go.RowKit

set_option maxHeartbeats 400000 in
theorem specLessX (n d m c : Int) (w : World) (h1 : angOk n d) (h2 : angOk m c) :
    Calls Try.prog 72 #[ang n d, ang m c] w fun e w' => e = .returned (.bool (ltA n d m c)) ∧ (w.alloc (.cells #[.int .i64 n, .int .i64 d] 29)).alloc (.cells #[.int .i64 m, .int .i64 c] 29) = w' := by
  obtain ⟨a1, a2, a3, a4⟩ := h1
  obtain ⟨b1, b2, b3, b4⟩ := h2
  obtain ⟨p1, p2⟩ := mul_bound (a := n) (b := c) (by omega) (by omega) (by omega) (by omega)
  obtain ⟨q1, q2⟩ := mul_bound (a := m) (b := d) (by omega) (by omega) (by omega) (by omega)
  have E : Hid (ltA n d m c = decide (n * c < m * d)) := Lib.hid rfl
  generalize ltA n d m c = L at *
  go_enter Try.func72, Try.ntmps72
  go_wp2
  go_ret
  refine ⟨retB ?_, ?_⟩
  · rw [E.out]
  · rfl

set_option maxHeartbeats 1000000 in
theorem specLBX (a b c d : Int) (w : World) (h1 : angOk a b) (h2 : angOk c d) (h3 : apartA a b c d) :
    Calls Try.prog 84 #[ang a b, ang c d] w fun e w' => e = .returned (leafV (lfA a b c d) (lfB a b c d) (lfC a b c d) (lfD a b c d)) ∧
      ((((w.alloc (.cells #[.int .i64 a, .int .i64 b] 29)).alloc (.cells #[.int .i64 c, .int .i64 d] 29)).alloc (.cells #[.int .i64 (lfA a b c d), .int .i64 (lfB a b c d), .int .i64 (lfC a b c d), .int .i64 (lfD a b c d)] 31)).alloc (.cells #[.int .i64 c, .int .i64 d] 29)).alloc (.cells #[.int .i64 a, .int .i64 b] 29) = w' := by
  have H1 := Lib.hid (fun w => specLessX c d a b w h2 h1)
  obtain ⟨t1, t2, t3, t4⟩ := lf_turn h3
  rw [t1, t2, t3, t4]
  clear h1 h2 h3 t1 t2 t3 t4
  cases h : ltA c d a b
  · have E := Lib.hid (lf_no h)
    rw [h] at H1
    clear h
    generalize lfA c d a b = X1 at *
    generalize lfB c d a b = X2 at *
    generalize lfC c d a b = X3 at *
    generalize lfD c d a b = X4 at *
    go_enter Try.func84, Try.ntmps84
    go_wp2_with fail
    refine (H1.out _).mono ?_
    rintro e w1 ⟨rfl, rfl⟩
    go_wp2
    go_returns
    obtain ⟨rfl, rfl, rfl, rfl⟩ := E.out
    trace_state
    exact ⟨rfl, rfl⟩
  · have E := Lib.hid (lf_yes h)
    rw [h] at H1
    clear h
    generalize lfA c d a b = X1 at *
    generalize lfB c d a b = X2 at *
    generalize lfC c d a b = X3 at *
    generalize lfD c d a b = X4 at *
    go_enter Try.func84, Try.ntmps84
    go_wp2_with fail
    refine (H1.out _).mono ?_
    rintro e w1 ⟨rfl, rfl⟩
    go_wp2
    go_returns
    obtain ⟨rfl, rfl, rfl, rfl⟩ := E.out
    exact ⟨rfl, rfl⟩
end Go.Proofs.Ytkpgfafmaoaefaa

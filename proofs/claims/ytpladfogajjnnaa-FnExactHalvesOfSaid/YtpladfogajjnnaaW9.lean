/-
  Contracts: halves.
-/
import Derived.Test.YtpladfogajjnnaaW8
import Derived.Test.YtpladfogajjnnaaW6
import Derived.Deep.DeepCutAuto
namespace Go.Proofs.Ytpladfogajjnnaa
open Go.RowKit

/-- A list of angles in new memory, and a code. -/
def ResAng (w : World) (l : List (Int × Int)) (c : Int) (e : Ending) (w' : World) : Prop :=
  ∃ A cap, e = .returned (.tuple #[.slice A l.length cap, .int .i64 c]) ∧ AngOwn w' w.heap.size A l ∧ Below w.heap.size w w'
theorem own_nil {w : World} {lo : Nat} {A : Option Addr} : AngOwn w lo A [] := fun h => absurd rfl h
theorem own2 {w : World} (W : World) (B : Below w.heap.size w W) (T : TypeId) (a b c d : Int) (g : Nat) (hg : g = W.heap.size) : AngOwn (W.alloc (.cells #[.int .i64 a, .int .i64 b, .int .i64 c, .int .i64 d] T)) w.heap.size (some ⟨g, 0, none⟩) [(a, b), (c, d)] := by
  subst hg
  intro _
  refine ⟨W.heap.size, 0, rfl, B.size, by simp, fun i n m hi => ?_⟩
  match i, hi with
  | 0, hi => simp at hi; obtain ⟨rfl, rfl⟩ := hi; exact ⟨by simp [go_sem], by simp [go_sem], by simp [go_sem], by simp [go_sem]⟩
  | 1, hi => simp at hi; obtain ⟨rfl, rfl⟩ := hi; exact ⟨by simp [go_sem], by simp [go_sem], by simp [go_sem], by simp [go_sem]⟩

/-- Both halves are angles. -/
def halOk (n d : Int) : Bool := decide (redD n (2 * d) ≤ 8191 ∧ redD (n + d) (2 * d) ≤ 8191)
def halL (n d : Int) : List (Int × Int) := if isAng n d && halOk n d then [(redN n (2 * d), redD n (2 * d)), (redN (n + d) (2 * d), redD (n + d) (2 * d))] else []
def halC (n d : Int) : Int := if isAng n d then (if halOk n d then 0 else 3) else 1
theorem hal_no {n d : Int} (h : isAng n d = false) : halL n d = [] ∧ halC n d = 1 := by unfold halL halC; simp [h]
theorem hal_far {n d : Int} (h : isAng n d = true) (h2 : halOk n d = false) : halL n d = [] ∧ halC n d = 3 := by unfold halL halC; simp [h, h2]
theorem hal_yes {n d : Int} (h : isAng n d = true) (h2 : halOk n d = true) : halL n d = [(redN n (2 * d), redD n (2 * d)), (redN (n + d) (2 * d), redD (n + d) (2 * d))] ∧ halC n d = 0 := by unfold halL halC; simp [h, h2]
theorem hal_cases (n d : Int) : (isAng n d = false) ∨ (isAng n d = true ∧ halOk n d = false ∧ 8191 < redD n (2 * d)) ∨ (isAng n d = true ∧ halOk n d = false ∧ redD n (2 * d) ≤ 8191 ∧ 8191 < redD (n + d) (2 * d)) ∨
    (isAng n d = true ∧ halOk n d = true ∧ redD n (2 * d) ≤ 8191 ∧ redD (n + d) (2 * d) ≤ 8191) := by
  cases isAng n d
  · simp
  · by_cases h1 : redD n (2 * d) ≤ 8191 <;> by_cases h2 : redD (n + d) (2 * d) ≤ 8191 <;> simp [halOk, h1, h2] <;> omega
theorem told_ok {p q : Int} (h : q ≤ 8191) : toldN p q = p ∧ toldD q = q ∧ toldC q = 0 := by
  unfold toldN toldD toldC
  rw [if_neg (by omega), if_neg (by omega), if_neg (by omega)]; exact ⟨rfl, rfl, rfl⟩
theorem told_far {p q : Int} (h : 8191 < q) : toldN p q = 0 ∧ toldD q = 0 ∧ toldC q = 3 := by
  unfold toldN toldD toldC
  rw [if_pos h, if_pos h, if_pos h]; exact ⟨rfl, rfl, rfl⟩

set_option maxHeartbeats 1000000 in
theorem implHalves (n d : Int) (w : World) : Calls Try.prog 18 #[ang n d] w (ResAng w (halL n d) (halC n d)) := by
  have HS := Lib.hid (fun w => implIs n d w)
  rcases hal_cases n d with h1 | ⟨h1, h2, h3⟩ | ⟨h1, h2, h3, h4⟩ | ⟨h1, h2, h3, h4⟩
  · obtain ⟨e1, e2⟩ := hal_no h1
    rw [e1, e2]
    rw [h1] at HS
    clear e1 e2 h1
    go_enter Try.func18, Try.ntmps18
    go_wp2_with fail
    refine (HS.out _).mono ?_
    rintro e w1 ⟨rfl, hb1⟩
    go_wp2
    go_ret2
    refine ⟨none, 0, rfl, own_nil, ?_⟩
    (repeat' (first | (with_reducible exact Below.refl _ _) | (with_reducible assumption) | (with_reducible refine belowNext ?_ (by with_reducible assumption)) | (with_reducible refine belowAlloc ?_ _) | (with_reducible refine Below.drew ?_) | (with_reducible refine below_drewN ?_ _) | (with_reducible refine Below.setCell ?_ ?_ _) | go_size | (with_reducible refine sizeOf' ?_) | (with_reducible refine sizeAdd ?_) | (dsimp only; first | (with_reducible refine sizeOf' ?_) | (with_reducible refine sizeAdd ?_))))
  all_goals
    obtain ⟨b1, b2, b3, b4⟩ := isAng_ok h1
    have HR := Lib.hid (fun w => implRed n (2 * d) w (by omega) (by omega) (by omega) (by omega))
    have HR' := Lib.hid (fun w => implRed (n + d) (2 * d) w (by omega) (by omega) (by omega) (by omega))
    have HL := Lib.hid (fun w => implLim (redN n (2 * d)) (redD n (2 * d)) w)
    have HL' := Lib.hid (fun w => implLim (redN (n + d) (2 * d)) (redD (n + d) (2 * d)) w)
  · obtain ⟨e1, e2⟩ := hal_far h1 h2
    rw [e1, e2]
    rw [h1] at HS
    rw [(told_far (p := redN n (2 * d)) h3).2.2] at HL
    clear e1 e2 h1 h2 h3
    generalize redN n (2 * d) = x at *
    generalize redD n (2 * d) = y at *
    generalize redN (n + d) (2 * d) = x' at *
    generalize redD (n + d) (2 * d) = y' at *
    go_enter Try.func18, Try.ntmps18
    go_wp2_with fail
    refine (HS.out _).mono ?_
    rintro e w1 ⟨rfl, hb1⟩
    have hz1 : w.heap.size < w1.heap.size := by have := hb1.size; simp at this; omega
    obtain ⟨hc1, hf1⟩ := bcell hb1
    go_wp2_with fail
    refine (HR.out _).mono ?_
    rintro e w2 ⟨rfl, hb2⟩
    obtain ⟨hc2, hf2⟩ := bcell hb2
    have hz2 : w.heap.size < w2.heap.size := by have := hb2.size; omega
    go_wp2_with fail
    refine (HL.out _).mono ?_
    rintro e w3 ⟨rfl, hb3⟩
    obtain ⟨hc3, hf3⟩ := bcell hb3
    have hz3 : w.heap.size < w3.heap.size := by have := hb3.size; omega
    go_wp2_with fail
    refine (HR'.out _).mono ?_
    rintro e w4 ⟨rfl, hb4⟩
    go_wp2_with fail
    refine (HL'.out _).mono ?_
    rintro e w5 ⟨rfl, hb5⟩
    go_wp2
    go_ret2
    refine ⟨none, 0, rfl, own_nil, ?_⟩
    (repeat' (first | (with_reducible exact Below.refl _ _) | (with_reducible assumption) | (with_reducible refine belowNext ?_ (by with_reducible assumption)) | (with_reducible refine belowAlloc ?_ _) | (with_reducible refine Below.drew ?_) | (with_reducible refine below_drewN ?_ _) | (with_reducible refine Below.setCell ?_ ?_ _) | go_size | (with_reducible refine sizeOf' ?_) | (with_reducible refine sizeAdd ?_) | (dsimp only; first | (with_reducible refine sizeOf' ?_) | (with_reducible refine sizeAdd ?_))))
  · obtain ⟨e1, e2⟩ := hal_far h1 h2
    rw [e1, e2]
    rw [h1] at HS
    rw [(told_ok (p := redN n (2 * d)) h3).2.2] at HL
    rw [(told_far (p := redN (n + d) (2 * d)) h4).2.2] at HL'
    clear e1 e2 h1 h2 h3 h4
    generalize redN n (2 * d) = x at *
    generalize redD n (2 * d) = y at *
    generalize redN (n + d) (2 * d) = x' at *
    generalize redD (n + d) (2 * d) = y' at *
    go_enter Try.func18, Try.ntmps18
    go_wp2_with fail
    refine (HS.out _).mono ?_
    rintro e w1 ⟨rfl, hb1⟩
    have hz1 : w.heap.size < w1.heap.size := by have := hb1.size; simp at this; omega
    obtain ⟨hc1, hf1⟩ := bcell hb1
    go_wp2_with fail
    refine (HR.out _).mono ?_
    rintro e w2 ⟨rfl, hb2⟩
    obtain ⟨hc2, hf2⟩ := bcell hb2
    have hz2 : w.heap.size < w2.heap.size := by have := hb2.size; omega
    go_wp2_with fail
    refine (HL.out _).mono ?_
    rintro e w3 ⟨rfl, hb3⟩
    obtain ⟨hc3, hf3⟩ := bcell hb3
    have hz3 : w.heap.size < w3.heap.size := by have := hb3.size; omega
    go_wp2_with fail
    refine (HR'.out _).mono ?_
    rintro e w4 ⟨rfl, hb4⟩
    obtain ⟨hc4, hf4⟩ := bcell hb4
    have hz4 : w3.heap.size < w4.heap.size := by have := hb4.size; simp at this; omega
    go_wp2_with fail
    refine (HL'.out _).mono ?_
    rintro e w5 ⟨rfl, hb5⟩
    obtain ⟨hc5, hf5⟩ := bcell hb5
    have hz5 : w3.heap.size < w5.heap.size := by have := hb5.size; omega
    go_wp2
    go_ret2
    refine ⟨none, 0, rfl, own_nil, ?_⟩
    (repeat' (first | (with_reducible exact Below.refl _ _) | (with_reducible assumption) | (with_reducible refine belowNext ?_ (by with_reducible assumption)) | (with_reducible refine belowAlloc ?_ _) | (with_reducible refine Below.drew ?_) | (with_reducible refine below_drewN ?_ _) | (with_reducible refine Below.setCell ?_ ?_ _) | go_size | (with_reducible refine sizeOf' ?_) | (with_reducible refine sizeAdd ?_) | (dsimp only; first | (with_reducible refine sizeOf' ?_) | (with_reducible refine sizeAdd ?_))))
  · obtain ⟨e1, e2⟩ := hal_yes h1 h2
    rw [e1, e2]
    rw [h1] at HS
    obtain ⟨t1, t2, t3⟩ := told_ok (p := redN n (2 * d)) h3
    obtain ⟨t4, t5, t6⟩ := told_ok (p := redN (n + d) (2 * d)) h4
    rw [t1, t2, t3] at HL
    rw [t4, t5, t6] at HL'
    clear e1 e2 h1 h2 h3 h4 t1 t2 t3 t4 t5 t6
    generalize redN n (2 * d) = x at *
    generalize redD n (2 * d) = y at *
    generalize redN (n + d) (2 * d) = x' at *
    generalize redD (n + d) (2 * d) = y' at *
    go_enter Try.func18, Try.ntmps18
    go_wp2_with fail
    refine (HS.out _).mono ?_
    rintro e w1 ⟨rfl, hb1⟩
    have hz1 : w.heap.size < w1.heap.size := by have := hb1.size; simp at this; omega
    obtain ⟨hc1, hf1⟩ := bcell hb1
    go_wp2_with fail
    refine (HR.out _).mono ?_
    rintro e w2 ⟨rfl, hb2⟩
    obtain ⟨hc2, hf2⟩ := bcell hb2
    have hz2 : w.heap.size < w2.heap.size := by have := hb2.size; omega
    go_wp2_with fail
    refine (HL.out _).mono ?_
    rintro e w3 ⟨rfl, hb3⟩
    obtain ⟨hc3, hf3⟩ := bcell hb3
    have hz3 : w.heap.size < w3.heap.size := by have := hb3.size; omega
    go_wp2_with fail
    refine (HR'.out _).mono ?_
    rintro e w4 ⟨rfl, hb4⟩
    obtain ⟨hc4, hf4⟩ := bcell hb4
    have hz4 : w3.heap.size < w4.heap.size := by have := hb4.size; simp at this; omega
    go_wp2_with fail
    refine (HL'.out _).mono ?_
    rintro e w5 ⟨rfl, hb5⟩
    obtain ⟨hc5, hf5⟩ := bcell hb5
    have hz5 : w3.heap.size < w5.heap.size := by have := hb5.size; omega
    go_wp2
    go_ret2
    have hB : Below w.heap.size w (w5.alloc (.cells #[.int .i64 x', .int .i64 y'] 25)) := by
      (repeat' (first | (with_reducible exact Below.refl _ _) | (with_reducible assumption) | (with_reducible refine belowNext ?_ (by with_reducible assumption)) | (with_reducible refine belowAlloc ?_ _) | (with_reducible refine Below.drew ?_) | (with_reducible refine below_drewN ?_ _) | (with_reducible refine Below.setCell ?_ ?_ _) | go_size | (with_reducible refine sizeOf' ?_) | (with_reducible refine sizeAdd ?_) | (dsimp only; first | (with_reducible refine sizeOf' ?_) | (with_reducible refine sizeAdd ?_))))
    exact ⟨some ⟨_, 0, none⟩, 2, rfl, own2 _ hB _ _ _ _ _ _ (by simp), belowAlloc hB _⟩
end Go.Proofs.Ytpladfogajjnnaa

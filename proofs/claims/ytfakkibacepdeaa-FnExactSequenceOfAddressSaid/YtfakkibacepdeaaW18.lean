/-
  Contracts: periods as the model tells them.
-/
import Derived.Test.YtfakkibacepdeaaW16
import Derived.Test.YtfakkibacepdeaaW17
namespace Go.Proofs.Ytfakkibacepdeaa
open Go.RowKit

/-- A list of integers in new memory, and a code. -/
def ResInt (w : World) (l : List Int) (c : Int) (e : Ending) (w' : World) : Prop :=
  ∃ A cap, e = .returned (.tuple #[.slice A l.length cap, .int .i64 c]) ∧ IntOwn w' w.heap.size A l ∧ Below w.heap.size w w'
theorem ownI_nil {w : World} {lo : Nat} {A : Option Addr} : IntOwn w lo A [] := fun h => absurd rfl h
theorem ownI2 {w : World} (W : World) (B : Below w.heap.size w W) (T : TypeId) (a b : Int) (g : Nat) (hg : g = W.heap.size) : IntOwn (W.alloc (.cells #[.int .i64 a, .int .i64 b] T)) w.heap.size (some ⟨g, 0, none⟩) [a, b] := by
  subst hg
  intro _
  refine ⟨W.heap.size, 0, rfl, B.size, by simp, fun i n hi => ?_⟩
  match i, hi with
  | 0, hi => simp at hi; subst hi; exact ⟨by simp [go_sem], by simp [go_sem]⟩
  | 1, hi => simp at hi; subst hi; exact ⟨by simp [go_sem], by simp [go_sem]⟩
def pL (n d : Int) : List Int := if isAng n d then (match findOrb (n, d) 65 0 with | some k => [(pre (n, d) : Int), (k : Int) - (pre (n, d) : Int)] | none => []) else []
theorem pL_len (n d : Int) : (pL n d).length ≤ 1000000000000 := by
  unfold pL
  split
  · cases findOrb (n, d) 65 0 <;> simp
  · simp

set_option maxHeartbeats 1000000 in
theorem specPeriodsOf (n d : Int) (w : World) : Calls Try.prog 26 #[ang n d] w (ResInt w (pL n d) (oC n d)) := by
  have HS := Lib.hid (fun w => specIs1 n d w)
  cases h1 : isAng n d
  · have e1 : pL n d = [] := by unfold pL; simp [h1]
    have e2 : oC n d = 1 := by unfold oC; simp [h1]
    rw [e1, e2]
    rw [h1] at HS
    clear e1 e2 h1
    go_enter Try.func26, Try.ntmps26
    go_wp2_with fail
    refine (HS.out _).mono ?_
    rintro e w1 ⟨rfl, hb1⟩
    go_wp2
    go_ret2
    refine ⟨none, 0, rfl, ownI_nil, ?_⟩
    (repeat' (first | (with_reducible exact Below.refl _ _) | (with_reducible assumption) | (with_reducible refine belowNext ?_ (by with_reducible assumption)) | (with_reducible refine belowAlloc ?_ _) | (with_reducible refine Below.drew ?_) | (with_reducible refine below_drewN ?_ _) | (with_reducible refine Below.setCell ?_ ?_ _) | go_size | (with_reducible refine sizeOf' ?_) | (with_reducible refine sizeAdd ?_) | (dsimp only; first | (with_reducible refine sizeOf' ?_) | (with_reducible refine sizeAdd ?_))))
  · have HO := Lib.hid (fun w => specOrbit n d w (ang_red h1))
    rw [h1] at HS
    cases hf : findOrb (n, d) 65 0 with
    | none =>
      have e1 : pL n d = [] := by unfold pL; simp [h1, hf]
      have e2 : oC n d = 3 := by unfold oC; simp [h1, hf]
      rw [e1, e2]
      have HO2 : Hid (∀ w : World, Calls Try.prog 97 #[ang n d] w fun e w' => e = .returned (.tuple #[.slice none 0 0, .int .i64 0, .bool false]) ∧ Below w.heap.size w w') := Lib.hid (fun w => (HO.out w).mono fun e w' h => by unfold ResOrb at h; rw [hf] at h; exact h)
      clear e1 e2 h1 hf HO
      go_enter Try.func26, Try.ntmps26
      go_wp2_with fail
      refine (HS.out _).mono ?_
      rintro e w1 ⟨rfl, hb1⟩
      obtain ⟨hc1, hf1⟩ := bcell hb1
      go_wp2_with fail
      refine (HO2.out _).mono ?_
      rintro e w2 ⟨rfl, hb2⟩
      go_wp2
      go_ret2
      refine ⟨none, 0, rfl, ownI_nil, ?_⟩
      (repeat' (first | (with_reducible exact Below.refl _ _) | (with_reducible assumption) | (with_reducible refine belowNext ?_ (by with_reducible assumption)) | (with_reducible refine belowAlloc ?_ _) | (with_reducible refine Below.drew ?_) | (with_reducible refine below_drewN ?_ _) | (with_reducible refine Below.setCell ?_ ?_ _) | go_size | (with_reducible refine sizeOf' ?_) | (with_reducible refine sizeAdd ?_) | (dsimp only; first | (with_reducible refine sizeOf' ?_) | (with_reducible refine sizeAdd ?_))))
    | some k =>
      have e1 : pL n d = [(pre (n, d) : Int), (k : Int) - (pre (n, d) : Int)] := by unfold pL; simp [h1, hf]
      have e2 : oC n d = 0 := by unfold oC; simp [h1, hf]
      rw [e1, e2]
      obtain ⟨P, hP⟩ : ∃ P, pre (n, d) = P := ⟨_, rfl⟩
      have hPk : P ≤ 14 := by rw [← hP]; exact twos_le 14 d
      have hkk : k ≤ 65 := by have := (find_le _ _ _ hf).1; omega
      have HO2 : Hid (∀ w : World, Calls Try.prog 97 #[ang n d] w fun e w' => ∃ A cap, e = .returned (.tuple #[.slice A k cap, .int .i64 (pre (n, d) : Int), .bool true]) ∧ w'.ownsRow w.heap.size 25 2 (.slice A k cap) k (flat (n, d) k) ∧ Below w.heap.size w w') := Lib.hid (fun w => (HO.out w).mono fun e w' h => by unfold ResOrb at h; rw [hf] at h; exact h)
      rw [hP] at HO2 ⊢
      clear e1 e2 h1 hf HO hP
      go_enter Try.func26, Try.ntmps26
      go_wp2_with fail
      refine (HS.out _).mono ?_
      rintro e w1 ⟨rfl, hb1⟩
      obtain ⟨hc1, hf1⟩ := bcell hb1
      go_wp2_with fail
      refine (HO2.out _).mono ?_
      rintro e w2 ⟨A, cap, rfl, hown, hb2⟩
      have B1 : Below w.heap.size w w1 := by
        (repeat' (first | (with_reducible exact Below.refl _ _) | (with_reducible assumption) | (with_reducible refine belowNext ?_ (by with_reducible assumption)) | (with_reducible refine belowAlloc ?_ _) | (with_reducible refine Below.drew ?_) | (with_reducible refine below_drewN ?_ _) | (with_reducible refine Below.setCell ?_ ?_ _) | go_size | (with_reducible refine sizeOf' ?_) | (with_reducible refine sizeAdd ?_) | (dsimp only; first | (with_reducible refine sizeOf' ?_) | (with_reducible refine sizeAdd ?_))))
      have B2 : Below w.heap.size w w2 := belowNext B1 hb2
      clear hown hb2 hb1
      go_wp2
      try go_region
      all_goals
        go_wp2
        go_ret2
        refine ⟨some ⟨_, 0, none⟩, 2, rfl, ownI2 _ ?_ _ _ _ _ ?_, ?_⟩
        · (repeat' (first | (with_reducible exact Below.refl _ _) | (with_reducible assumption) | (with_reducible refine belowNext ?_ (by with_reducible assumption)) | (with_reducible refine belowAlloc ?_ _) | (with_reducible refine Below.drew ?_) | (with_reducible refine below_drewN ?_ _) | (with_reducible refine Below.setCell ?_ ?_ _) | go_size | (with_reducible refine sizeOf' ?_) | (with_reducible refine sizeAdd ?_) | (dsimp only; first | (with_reducible refine sizeOf' ?_) | (with_reducible refine sizeAdd ?_))))
        · simp
        · (repeat' (first | (with_reducible exact Below.refl _ _) | (with_reducible assumption) | (with_reducible refine belowNext ?_ (by with_reducible assumption)) | (with_reducible refine belowAlloc ?_ _) | (with_reducible refine Below.drew ?_) | (with_reducible refine below_drewN ?_ _) | (with_reducible refine Below.setCell ?_ ?_ _) | go_size | (with_reducible refine sizeOf' ?_) | (with_reducible refine sizeAdd ?_) | (dsimp only; first | (with_reducible refine sizeOf' ?_) | (with_reducible refine sizeAdd ?_))))
end Go.Proofs.Ytfakkibacepdeaa

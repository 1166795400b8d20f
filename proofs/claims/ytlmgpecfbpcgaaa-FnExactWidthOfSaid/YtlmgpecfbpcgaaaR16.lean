/-
  Contracts: the pair of an angle, as the model finds it.
-/
import Derived.Test.YtlmgpecfbpcgaaaR15
import Derived.Test.YtlmgpecfbpcgaaaR12
namespace Go.Proofs.Ytlmgpecfbpcgaaa
open Go.RowKit

set_option maxRecDepth 100000 in
set_option maxHeartbeats 1000000 in
theorem specPairs (n : Nat) (w : World) (h1 : 1 ≤ n) (h8 : n ≤ 8) :
    Calls Try.prog 135 #[.int .i64 n] w fun e w' => ∃ A cap, e = .returned (.slice A (upK (n - 1)).length cap) ∧ w'.ownsRow w.heap.size 91 4 (.slice A (upK (n - 1)).length cap) (upK (n - 1)).length (flatP ((upK (n - 1)).map (·.1))) ∧ Below w.heap.size w w' := by
  go_enter Try.func135, Try.ntmps135
  go_wp2_with fail
  have HS : Hid ((w.alloc (.cells #[] 91)).ownsRow w.heap.size 91 4 (.slice (some ⟨w.heap.size, 0, none⟩) (upK 0).length 0) (upK 0).length (flatP ((upK 0).map (·.1)))) := Lib.hid ⟨rfl, .inr ⟨w.heap.size, 0, #[], rfl, Nat.le_refl _, heap_alloc_new w (.cells #[] 91), by simp [upK], by unfold maxLen; omega, rfl, rfl⟩⟩
  have HB : Hid (Below w.heap.size w (w.alloc (.cells #[] 91))) := Lib.hid (belowAlloc (Below.refl _ _) _)
  go_loopg [3, 4] (n - 1) (fun g s3 s4 wr => ∃ (m : Nat) (A : Option Addr) (cap : Nat), m + g = n - 1 ∧ s3 = .slice A (upK m).length cap ∧ s4 = .int .i64 ((m + 2 : Nat) : Int) ∧ Hid (wr.ownsRow w.heap.size 91 4 s3 (upK m).length (flatP ((upK m).map (·.1)))) ∧ Hid (Below w.heap.size w wr))
  case atStart => exact ⟨0, _, _, by omega, rfl, rfl, HS, HB⟩
  case round =>
    clear HS HB
    obtain ⟨m, A, cap, hmg, rfl, rfl, HM, HB⟩ := hrel
    cases gk with
    | zero =>
      obtain rfl : m = n - 1 := by omega
      have n1 : ¬ (((n - 1 + 2 : Nat) : Int) ≤ (n : Int)) := by omega
      have n2 : (n : Int) < ((n - 1 + 2 : Nat) : Int) := by omega
      generalize ((n - 1 + 2 : Nat) : Int) = I at *
      go_wp2
      go_ret
      exact ⟨A, cap, rfl, HM.out, HB.out⟩
    | succ g =>
      have HC := Lib.hid (specJoin (m + 2) w.heap.size A cap (upK m) wr (by omega) (by omega) (upK_ok m (by omega)) (by have := upK_len m (by omega); omega) HB.out.size HM.out)
      have n1 : ((m + 2 : Nat) : Int) ≤ (n : Int) := by omega
      have b1 : ((m + 2 : Nat) : Int) ≤ 8 := by omega
      have b2 : 0 ≤ ((m + 2 : Nat) : Int) := by omega
      have e3 : Hid (((m + 2 : Nat) : Int) + 1 = ((m + 1 + 2 : Nat) : Int)) := Lib.hid (by omega)
      generalize ((m + 2 : Nat) : Int) = I at *
      go_wp2_with fail
      refine HC.out.mono ?_
      rintro e w1 ⟨A1, cap1, rfl, hm1, hg1⟩
      have HM1 := Lib.hid hm1
      have HB1 := Lib.hid (HB.out.trans hg1)
      clear hm1 hg1
      go_wp2
      go_roundg g
      case measure => omega
      case rel => exact ⟨m + 1, A1, cap1, by omega, rfl, by first | rfl | exact congrArg (Value.int .i64) e3.out | exact congrArg (Value.int .i64) (by omega), HM1, HB1⟩

theorem per_range {p : Int × Int} (h : Red p) : (2 ≤ shortP p.2 → perS p = shortP p.2) ∧ (shortP p.2 < 2 → ¬ (2 ≤ perS p ∧ perS p ≤ 8)) := by
  have hle := shortP_le p.2
  constructor
  · intro h2
    exact (per_short h (by omega) hle).2 rfl
  · rintro h2 ⟨h3, h4⟩
    have := (per_short h (n := perS p) (by omega) h4).1 rfl
    omega

set_option maxHeartbeats 1000000 in
theorem specCode (n d : Int) (w : World) :
    Calls Try.prog 113 #[ang n d] w fun e w' => e = .returned (.int .i64 (poC n d)) ∧ Below w.heap.size w w' := by
  have HI := Lib.hid (fun w => specIs1 n d w)
  rcases po_cases n d with ⟨h1, h2, _⟩ | ⟨h1, h2, h3, _⟩ | ⟨h1, h2, h3, _⟩
  · rw [h2]
    rw [h1] at HI
    clear h1 h2
    go_enter Try.func113, Try.ntmps113
    go_wp2_with fail
    refine (HI.out _).mono ?_
    rintro e w1 ⟨rfl, hb1⟩
    obtain ⟨hc1, hf1⟩ := bcell hb1
    have hz1_0 : w.heap.size < w1.heap.size := by have := hb1.size; first | omega | (simp at this; omega)
    go_wp2
    go_ret
    refine ⟨rfl, ?_⟩
    (repeat' (first | (with_reducible exact Below.refl _ _) | (with_reducible assumption) | (with_reducible refine belowNext ?_ (by with_reducible assumption)) | (with_reducible refine belowAlloc ?_ _) | (with_reducible refine Below.drew ?_) | (with_reducible refine below_drewN ?_ _) | (with_reducible refine Below.setCell ?_ ?_ _) | go_size | (with_reducible refine sizeOf' ?_) | (with_reducible refine sizeAdd ?_) | (dsimp only; first | (with_reducible refine sizeOf' ?_) | (with_reducible refine sizeAdd ?_))))
  · rw [h3]
    have HR := per_range (ang_red h1)
    have HS := Lib.hid (fun w => specPer n d w (ang_red h1))
    rw [h1] at HI
    have hn := HR.2 h2
    generalize perS (n, d) = sp at *
    have t : (decide ((2 : Int) ≤ (sp : Int)) && decide ((sp : Int) ≤ 8)) = false := by
      by_cases a : 2 ≤ sp
      · have : ¬ sp ≤ 8 := fun b => hn ⟨a, b⟩
        simp; omega
      · simp; omega
    clear h1 h2 h3 HR hn
    go_enter Try.func113, Try.ntmps113
    go_wp2_with fail
    refine (HI.out _).mono ?_
    rintro e w1 ⟨rfl, hb1⟩
    obtain ⟨hc1, hf1⟩ := bcell hb1
    have hz1_0 : w.heap.size < w1.heap.size := by have := hb1.size; first | omega | (simp at this; omega)
    go_wp2_with fail
    refine (HS.out _).mono ?_
    rintro e w2 ⟨rfl, hb2⟩
    obtain ⟨hc2, hf2⟩ := bcell hb2
    have hz2_0 : w.heap.size < w2.heap.size := by have := hb2.size; first | omega | (simp at this; omega)
    go_wp2_with fail
    refine (inRange _ _ _ _).mono ?_
    rintro e w3 ⟨rfl, rfl⟩
    rw [t]
    go_wp2
    go_ret
    refine ⟨rfl, ?_⟩
    (repeat' (first | (with_reducible exact Below.refl _ _) | (with_reducible assumption) | (with_reducible refine belowNext ?_ (by with_reducible assumption)) | (with_reducible refine belowAlloc ?_ _) | (with_reducible refine Below.drew ?_) | (with_reducible refine below_drewN ?_ _) | (with_reducible refine Below.setCell ?_ ?_ _) | go_size | (with_reducible refine sizeOf' ?_) | (with_reducible refine sizeAdd ?_) | (dsimp only; first | (with_reducible refine sizeOf' ?_) | (with_reducible refine sizeAdd ?_))))
  · rw [h3]
    have HR := per_range (ang_red h1)
    have HS := Lib.hid (fun w => specPer n d w (ang_red h1))
    have hle := shortP_le d
    have hn : perS (n, d) = shortP d := HR.1 h2
    rw [h1] at HI
    rw [hn] at HS
    generalize shortP d = sp at *
    have t : (decide ((2 : Int) ≤ (sp : Int)) && decide ((sp : Int) ≤ 8)) = true := by simp; omega
    clear h1 h2 h3 HR hn
    go_enter Try.func113, Try.ntmps113
    go_wp2_with fail
    refine (HI.out _).mono ?_
    rintro e w1 ⟨rfl, hb1⟩
    obtain ⟨hc1, hf1⟩ := bcell hb1
    have hz1_0 : w.heap.size < w1.heap.size := by have := hb1.size; first | omega | (simp at this; omega)
    go_wp2_with fail
    refine (HS.out _).mono ?_
    rintro e w2 ⟨rfl, hb2⟩
    obtain ⟨hc2, hf2⟩ := bcell hb2
    have hz2_0 : w.heap.size < w2.heap.size := by have := hb2.size; first | omega | (simp at this; omega)
    go_wp2_with fail
    refine (inRange _ _ _ _).mono ?_
    rintro e w3 ⟨rfl, rfl⟩
    rw [t]
    go_wp2
    go_ret
    refine ⟨rfl, ?_⟩
    (repeat' (first | (with_reducible exact Below.refl _ _) | (with_reducible assumption) | (with_reducible refine belowNext ?_ (by with_reducible assumption)) | (with_reducible refine belowAlloc ?_ _) | (with_reducible refine Below.drew ?_) | (with_reducible refine below_drewN ?_ _) | (with_reducible refine Below.setCell ?_ ?_ _) | go_size | (with_reducible refine sizeOf' ?_) | (with_reducible refine sizeAdd ?_) | (dsimp only; first | (with_reducible refine sizeOf' ?_) | (with_reducible refine sizeAdd ?_))))
end Go.Proofs.Ytlmgpecfbpcgaaa

/-
  Contracts: the shortest period of a word; sequences told in the one way (the program's).
-/
import Derived.Test.YtdmppdfncbljoaaS1
import Derived.Test.YtdmppdfncbljoaaShelf
import Derived.Test.YtdmppdfncbljoaaW1
import Derived.IntWalk
import Derived.Deep.RegionHeld3
namespace Go.Proofs.Ytdmppdfncbljoaa
open Go.RowKit

theorem repAny (l : Wd) (k c : Nat) (v : Int) (w : World) (hv : v = (c : Int)) (hc : c ≤ 64) (hl : (l.take k).length * c ≤ 64) :
    Calls Try.prog 222 #[.string (bs (l.take k)), .int .i64 v] w fun e w' => e = .returned (.string (bs (Lib.repeatL (l.take k) c))) ∧ Below w.heap.size w w' := by
  subst hv
  have h := Try.strings_Repeat (bs (l.take k)) c w (by omega) (by rw [bs_size]; omega)
  rw [bs_data] at h
  exact h.mono fun e w' ⟨he, hb⟩ => ⟨he, hb⟩

theorem sp_yes {l : Wd} {k : Nat} (h : l.length % k = 0) (h2 : perB l k = true) (f : Nat) : spFrom l (f + 1) k = k := by simp [spFrom, h, h2]
theorem sp_no {l : Wd} {k : Nat} (h : ¬ (l.length % k = 0 ∧ perB l k = true)) (f : Nat) : spFrom l (f + 1) k = spFrom l f (k + 1) := by
  simp only [spFrom]; rw [if_neg h]

set_option maxHeartbeats 1000000 in
theorem implShort (l : Wd) (w : World) (h0 : 0 < l.length) (h1 : l.length ≤ 64) :
    Calls Try.prog 219 #[.string (bs l)] w fun e w' => e = .returned (.string (bs (shortW l))) ∧ Below w.heap.size w w' := by
  have hlen := fun W => lenS 9 3 l Try.underlying9 W
  have HS : Hid (shortW l = l.take (spFrom l (l.length - 1) 1)) := Lib.hid rfl
  obtain ⟨n, hn⟩ : ∃ n, l.length = n := ⟨_, rfl⟩
  have HN := Lib.hid hn
  rw [hn] at hlen h0 h1 HS
  generalize shortW l = R at *
  clear hn
  go_enter Try.func219, Try.ntmps219
  go_wp2
  go_loopw [3] (fun i wr => ∃ k : Nat, 1 ≤ k ∧ k ≤ n ∧ i = .int .i64 k ∧ Hid (spFrom l (n - k) k = spFrom l (n - 1) 1 ∧ Below w.heap.size w wr)) (fun i _ => n - (intOf i).toNat)
  case atStart => exact ⟨1, by omega, by omega, rfl, Lib.hid ⟨rfl, Below.refl _ _⟩⟩
  case round =>
    obtain ⟨k, hk1, hk2, rfl, H⟩ := hrel
    by_cases hlt : k < n
    · have e1 : n - k = (n - (k + 1)) + 1 := by omega
      have hto := fun W => toS l k (k : Int) (by rw [HN.out]; omega) rfl W
      by_cases hd : n % k = 0
      · have hdec : ((n : Int) % (k : Int) == 0) = true := by
          have : ((n % k : Nat) : Int) = 0 := by rw [hd]; rfl
          rw [Int.natCast_emod] at this
          simpa using this
        have hq : (n : Int) / (k : Int) = ((n / k : Nat) : Int) := by rw [Int.natCast_ediv]
        have HC := Lib.hid (fun w => repAny l k (n / k) ((n : Int) / (k : Int)) w hq (Nat.le_trans (Nat.div_le_self _ _) h1) (by
          rw [List.length_take, HN.out, Nat.min_eq_left hk2, Nat.mul_comm]
          exact Nat.le_trans (Nat.div_mul_le_self _ _) h1))
        have HE := Lib.hid (rep_iff l k (by omega) (by rw [HN.out]; exact hk2) (by rw [HN.out]; exact hd))
        have HQ := eqL (Lib.repeatL (l.take k) (n / k)) l
        have he2 : (Lib.repeatL (l.take k) (n / k) == l) = perB l k := by rw [← HN.out]; exact HE.out
        rw [he2] at HQ
        have wq : IntKind.i64.wrap ((n : Int) / (k : Int)) = (n : Int) / (k : Int) := IntWalk.i64_in _ (by
          rw [hq]
          have := Nat.div_le_self n k
          generalize n / k = q at *
          omega)
        have wr : IntKind.i64.wrap ((n : Int) % (k : Int)) = (n : Int) % (k : Int) := by
          have e : (n : Int) % (k : Int) = 0 := by simpa using hdec
          rw [e]; rfl
        have hkne : ((k : Int) == 0) = false := by simp; omega
        have hk00 : ¬ k = 0 := by omega
        have htm : (n : Int).tmod (k : Int) = (n : Int) % (k : Int) := Int.tmod_eq_emod_of_nonneg (by omega)
        have htq : (n : Int).tdiv (k : Int) = (n : Int) / (k : Int) := Int.tdiv_eq_ediv_of_nonneg (by omega)
        clear he2 hq
        cases hp : perB l k
        · have HF := Lib.hid (sp_no (l := l) (k := k) (by rw [hp]; simp) (n - (k + 1)))
          rw [hp] at HQ
          go_wp2_with fail
          go_region_held3 (fun w' => Below w.heap.size w w') (first | exact belowNext (by assumption) (by assumption) | exact H.out.2.drew) (first | (go_at_call 222; (with_reducible refine (HC.out _).mono ?_); rintro e w2 ⟨rfl, hb2⟩))
          rename_i hHeld
          have HB := Lib.hid hHeld
          clear hHeld hb2
          go_wp2
          go_roundw
          case rel => exact ⟨k + 1, by omega, by omega, by go_num, Lib.hid ⟨by rw [← H.out.1, e1, HF.out], HB.out⟩⟩
          case measure => simp [intOf]; omega
        · have HF := Lib.hid (sp_yes (l := l) (k := k) (by rw [HN.out]; exact hd) hp (n - (k + 1)))
          rw [hp] at HQ
          go_wp2_with fail
          go_region_held3 (fun w' => Below w.heap.size w w') (first | exact belowNext (by assumption) (by assumption) | exact H.out.2.drew) (first | (go_at_call 222; (with_reducible refine (HC.out _).mono ?_); rintro e w2 ⟨rfl, hb2⟩))
          rename_i hHeld
          have HB := Lib.hid hHeld
          clear hHeld hb2
          go_wp2
          go_ret
          exact ⟨by rw [HS.out, ← H.out.1, e1, HF.out]; rfl, HB.out⟩
      · have hdec : ((n : Int) % (k : Int) == 0) = false := by
          have : ¬ ((n % k : Nat) : Int) = 0 := by omega
          rw [Int.natCast_emod] at this
          simpa using this
        have HF := Lib.hid (sp_no (l := l) (k := k) (by rw [HN.out]; simp [hd]) (n - (k + 1)))
        go_wp2_with fail
        go_quiet (fail)
        go_wp2
        go_roundw
        case rel => exact ⟨k + 1, by omega, by omega, by go_num, Lib.hid ⟨by rw [← H.out.1, e1, HF.out], below_drewN H.out.2 _⟩⟩
        case measure => simp [intOf]; omega
    · obtain rfl : k = n := by omega
      have HE : Hid (l.take (spFrom l (k - 1) 1) = l) := Lib.hid (by
        rw [← H.out.1, Nat.sub_self]
        show l.take l.length = l
        exact List.take_length)
      go_wp2
      go_ret
      exact ⟨by rw [HS.out, HE.out]; rfl, H.out.2⟩
end Go.Proofs.Ytdmppdfncbljoaa

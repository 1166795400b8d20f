/-
  Contracts: sequences told in the one way (the specification's).
-/
import Derived.Test.YtcgdlimhhcmjhaaDoorS3
namespace Go.Proofs.YtcgdlimhhcmjhaaDoor
open Go.RowKit

theorem sp_hit {l : Wd} {k : Nat} (h : l.length % k = 0) (h2 : perB l k = true) (hk : k ≤ l.length) : spFrom l (l.length - k) k = k := by
  by_cases e : k = l.length
  · subst e; rw [Nat.sub_self]; rfl
  · have e1 : l.length - k = (l.length - (k + 1)) + 1 := by omega
    rw [e1, sp_yes h h2]
theorem strs2 (w : World) (T : TypeId) (a b : Value) : (w.alloc (.cells #[a, b] T)).cell? ⟨w.heap.size, 0, none⟩ = some a ∧ (w.alloc (.cells #[a, b] T)).cell? ⟨w.heap.size, 1, none⟩ = some b ∧
    (w.alloc (.cells #[a, b] T)).frozen? ⟨w.heap.size, 0, none⟩ = false ∧ (w.alloc (.cells #[a, b] T)).frozen? ⟨w.heap.size, 1, none⟩ = false := by
  refine ⟨?_, ?_, ?_, ?_⟩ <;> simp [go_sem]

set_option maxHeartbeats 4000000 in
theorem specCanon (x y : Wd) (w : World) (h0 : 0 < y.length) (h1 : x.length + y.length ≤ 64) :
    Calls Tryd.prog 20 #[.string (bs x), .string (bs y)] w fun e w' => e = .returned (sqV (canon x y).1 (canon x y).2) ∧ Below w.heap.size w w' := by
  have HR : Hid (rotTo x.length x (y.take (spFrom y (y.length - 1) 1)) = ((canon x y).1, (canon x y).2)) := Lib.hid rfl
  generalize (canon x y).1 = R1 at *
  generalize (canon x y).2 = R2 at *
  have hlen := fun W => lenS 9 3 y Tryd.underlying9 W
  obtain ⟨n, hn⟩ : ∃ n, y.length = n := ⟨_, rfl⟩
  have HN := Lib.hid hn
  rw [hn] at hlen h0 h1 HR
  clear hn
  obtain ⟨k0, k1, f0, f1⟩ := strs2 w 23 (.string ⟨#[]⟩) (.string ⟨#[]⟩)
  have hz : w.heap.size < (w.alloc (.cells #[.string ⟨#[]⟩, .string ⟨#[]⟩] 23)).heap.size := by simp
  have HB : Hid (Below w.heap.size w (w.alloc (.cells #[.string ⟨#[]⟩, .string ⟨#[]⟩] 23))) := Lib.hid (by
    (repeat' (first | (with_reducible exact Below.refl _ _) | (with_reducible assumption) | (with_reducible refine belowNext ?_ (by with_reducible assumption)) | (with_reducible refine belowAlloc ?_ _) | (with_reducible refine Below.drew ?_) | (with_reducible refine below_drewN ?_ _) | (with_reducible refine Below.setCell ?_ ?_ _) | go_size | (with_reducible refine sizeOf' ?_) | (with_reducible refine sizeAdd ?_) | (dsimp only; first | (with_reducible refine sizeOf' ?_) | (with_reducible refine sizeAdd ?_)))))
  go_enter Tryd.func20, Tryd.ntmps20
  go_wp2
  generalize w.alloc (.cells #[.string ⟨#[]⟩, .string ⟨#[]⟩] 23) = W0 at *
  go_loopw [1, 6] (fun p q wr => ∃ k : Nat, 1 ≤ k ∧ k ≤ n ∧ p = .string (bs y) ∧ q = .int .i64 k ∧ Hid (spFrom y (n - k) k = spFrom y (n - 1) 1 ∧ ∃ j, wr = W0.drewN j)) (fun _ q _ => n + 1 - (intOf q).toNat)
  case atStart => exact ⟨1, by omega, by omega, rfl, rfl, Lib.hid ⟨rfl, 0, rfl⟩⟩
  case round =>
    obtain ⟨k, hk1, hk2, rfl, rfl, H⟩ := hrel
    have hkne : ((k : Int) == 0) = false := by simp; omega
    obtain ⟨j, hj⟩ := H.out.2
    have HSP := Lib.hid H.out.1
    subst hj
    clear H
    by_cases hd : n % k = 0
    · have hdec : ((n : Int) % (k : Int) == 0) = true := by
        have : ((n % k : Nat) : Int) = 0 := by rw [hd]; rfl
        rw [Int.natCast_emod] at this
        simpa using this
      have wrm : IntKind.i64.wrap ((n : Int) % (k : Int)) = (n : Int) % (k : Int) := by
        have e : (n : Int) % (k : Int) = 0 := by simpa using hdec
        rw [e]; rfl
      go_wp2_with fail
      go_loopw [7, 8] (fun s i wr => ∃ q : Nat, k ≤ q ∧ q ≤ n ∧ s = .bool (perTo y k q) ∧ i = .int .i64 q ∧ Hid (∃ j, wr = W0.drewN j)) (fun _ i _ => n - (intOf i).toNat)
      case atStart => exact ⟨k, by omega, by omega, by rw [perTo_self y k k (Nat.le_refl _)], rfl, Lib.hid ⟨_, rfl⟩⟩
      case round =>
        obtain ⟨q, hq1, hq2, rfl, rfl, H⟩ := hrel
        obtain ⟨j2, hj⟩ := H.out
        subst hj
        by_cases hlt : q < n
        · have HP : Hid (perTo y k (q + 1) = (perTo y k q && (y.getD q 0 == y.getD (q - k) 0))) := Lib.hid (by
            rw [perTo_succ]
            have : decide (q < k) = false := by simp; omega
            rw [this, Bool.false_or])
          have wqk : IntKind.i64.wrap ((q : Int) - (k : Int)) = (q : Int) - (k : Int) := IntWalk.i64_in _ (by omega)
          have x1 := fun W => idxS y q (q : Int) (by rw [HN.out]; omega) rfl W
          have x2 := fun W => idxS y (q - k) ((q : Int) - (k : Int)) (by rw [HN.out]; omega) (by omega) W
          have hb := byte_eq (y.getD q 0) (y.getD (q - k) 0)
          cases hp : perTo y k q
          · rw [hp] at HP
            go_wp2_with fail
            go_quiet (fail)
            go_wp2_with fail
            go_roundw
            case rel => exact ⟨q + 1, by omega, by omega, by rw [HP.out]; rfl, by go_num, Lib.hid ⟨_, rfl⟩⟩
            case measure => simp [intOf]; omega
          · rw [hp] at HP
            cases ht : (y.getD q 0 == y.getD (q - k) 0)
            · rw [ht] at HP
              have hqq : (((y[q]?.getD 0).toNat : Int) == ((y[q - k]?.getD 0).toNat : Int)) = false := by rw [← List.getD_eq_getElem?_getD, ← List.getD_eq_getElem?_getD, hb]; exact ht
              go_wp2_with fail
              go_quiet (fail)
              go_wp2_with fail
              go_roundw
              case rel => exact ⟨q + 1, by omega, by omega, by rw [HP.out]; rfl, by go_num, Lib.hid ⟨_, rfl⟩⟩
              case measure => simp [intOf]; omega
            · rw [ht] at HP
              have hqq : (((y[q]?.getD 0).toNat : Int) == ((y[q - k]?.getD 0).toNat : Int)) = true := by rw [← List.getD_eq_getElem?_getD, ← List.getD_eq_getElem?_getD, hb]; exact ht
              go_wp2_with fail
              go_quiet (fail)
              go_wp2_with fail
              go_roundw
              case rel => exact ⟨q + 1, by omega, by omega, by rw [HP.out]; rfl, by go_num, Lib.hid ⟨_, rfl⟩⟩
              case measure => simp [intOf]; omega
        · obtain rfl : q = n := by omega
          have hpe : perTo y k q = perB y k := by unfold perB; rw [HN.out]
          rw [hpe]
          cases hp : perB y k
          · have HF : k < q := by
              rcases Nat.lt_or_ge k q with h | h
              · exact h
              · have e : k = y.length := by rw [HN.out]; omega
                rw [e, per_len] at hp; cases hp
            have HE : Hid (spFrom y (q - k) k = spFrom y (q - (k + 1)) (k + 1)) := Lib.hid (by
              have e1 : q - k = (q - (k + 1)) + 1 := by omega
              rw [e1, sp_no (by rw [hp]; simp)])
            go_wp2_with fail
            go_roundw
            case rel => exact ⟨k + 1, by omega, by omega, rfl, by go_num, Lib.hid ⟨by rw [← HE.out, HSP.out], _, rfl⟩⟩
            case measure => simp [intOf]; omega
          · have hto := fun W => toS y k (k : Int) (by rw [HN.out]; omega) rfl W
            have HE : Hid (spFrom y (q - 1) 1 = k) := Lib.hid (by
              rw [← HSP.out]
              have := sp_hit (l := y) (k := k) (by rw [HN.out]; exact hd) hp (by rw [HN.out]; exact hk2)
              rwa [HN.out] at this)
            go_wp2_with fail
            have HR2 : Hid (rotTo x.length x (y.take k) = (R1, R2)) := Lib.hid (by rw [← HR.out, HE.out])
            have hyl : (y.take k).length = k := by rw [List.length_take, HN.out]; omega
            have hx64 : x.length ≤ 64 := by omega
            have hk64 : k ≤ 64 := by omega
            clear hlen HE hto hpe HSP hd hdec wrm HR HN h1
            generalize y.take k = Y at *
            go_loopw [0, 1] (fun p r wr => ∃ A B : Wd, A.length ≤ 64 ∧ B.length = k ∧ p = .string (bs A) ∧ r = .string (bs B) ∧ Hid (rotTo A.length A B = (R1, R2) ∧ ∃ j, wr = W0.drewN j)) (fun p _ _ => strLen p)
            case atStart => exact ⟨x, Y, hx64, hyl, rfl, rfl, Lib.hid ⟨HR2.out, _, rfl⟩⟩
            case round =>
              obtain ⟨A, B, hA, hB, rfl, rfl, H⟩ := hrel
              obtain ⟨j3, hj⟩ := H.out.2
              subst hj
              obtain ⟨a, ha⟩ : ∃ a, A.length = a := ⟨_, rfl⟩
              have HA := Lib.hid ha
              have HBl := Lib.hid hB
              have hlA := fun W => lenS 9 3 A Tryd.underlying9 W
              have hlB := fun W => lenS 9 3 B Tryd.underlying9 W
              rw [ha] at hA hlA
              rw [hB] at hlB
              have wL : IntKind.i64.wrap ((k : Int) - 1) = (k : Int) - 1 := IntWalk.i64_in _ (by omega)
              clear ha hB
              by_cases h0 : 0 < a
              · have hdp : decide ((0 : Int) < (a : Int)) = true := by simp; omega
                have wa : IntKind.i64.wrap ((a : Int) - 1) = (a : Int) - 1 := IntWalk.i64_in _ (by omega)
                have x1 := fun W => idxS A (a - 1) ((a : Int) - 1) (by rw [HA.out]; omega) (by omega) W
                have x2 := fun W => idxS B (k - 1) ((k : Int) - 1) (by rw [HBl.out]; omega) (by omega) W
                have hq0 := byte_eq (A.getD (a - 1) 0) (B.getD (k - 1) 0)
                have HT : Hid (turnB A B = (A.getD (a - 1) 0 == B.getD (k - 1) 0)) := Lib.hid (by unfold turnB; rw [HA.out, HBl.out]; simp [h0])
                cases ht : (A.getD (a - 1) 0 == B.getD (k - 1) 0)
                · rw [ht] at HT
                  have hq : (((A[a - 1]?.getD 0).toNat : Int) == ((B[k - 1]?.getD 0).toNat : Int)) = false := by rw [← List.getD_eq_getElem?_getD, ← List.getD_eq_getElem?_getD, hq0]; exact ht
                  have HE : Hid ((A, B) = (R1, R2)) := Lib.hid ((rot_no HT.out).symm.trans H.out.1)
                  go_wp2_with fail
                  go_quiet (fail)
                  go_wp2
                  refine bodyPost_ret (v := sqV A B) (by simp [results, Tryd.results20, go_sem, k0, k1]) rfl ⟨?_, ?_⟩
                  · have e := HE.out
                    simp only [Prod.mk.injEq] at e
                    rw [e.1, e.2]
                  · exact ((below_drewN HB.out _).setCell (by simp) _).setCell (by simp) _
                · rw [ht] at HT
                  have hq : (((A[a - 1]?.getD 0).toNat : Int) == ((B[k - 1]?.getD 0).toNat : Int)) = true := by rw [← List.getD_eq_getElem?_getD, ← List.getD_eq_getElem?_getD, hq0]; exact ht
                  have s1 := fun W => toS A (a - 1) ((a : Int) - 1) (by rw [HA.out]; omega) (by omega) W
                  have s2 := fun W => fromS B (k - 1) ((k : Int) - 1) (by rw [HBl.out]; omega) (by omega) W
                  have s3 := fun W => toS B (k - 1) ((k : Int) - 1) (by rw [HBl.out]; omega) (by omega) W
                  have hd4 : (B.drop (k - 1)).length + (B.take (k - 1)).length ≤ 9223372036854775807 := by rw [List.length_drop, List.length_take, HBl.out]; omega
                  have s4 := fun W => catO (B.drop (k - 1)) (B.take (k - 1)) hd4 W
                  go_wp2_with fail
                  go_quiet (fail)
                  go_wp2_with fail
                  go_roundw
                  case rel =>
                    refine ⟨A.take (a - 1), B.drop (k - 1) ++ B.take (k - 1), by rw [List.length_take, HA.out]; omega, by rw [List.length_append, List.length_drop, List.length_take, HBl.out]; omega, rfl, rfl, Lib.hid ⟨?_, _, rfl⟩⟩
                    have e := rot_yes HT.out
                    rw [H.out.1] at e
                    unfold turned at e
                    rw [HA.out, HBl.out] at e
                    exact e.symm
                  case measure => simp only [strLen, bs_size, List.length_take, HA.out]; omega
              · obtain rfl : a = 0 := by omega
                have HE : Hid ((A, B) = (R1, R2)) := Lib.hid ((rot_no (by unfold turnB; rw [HA.out]; simp)).symm.trans H.out.1)
                go_wp2_with fail
                go_quiet (fail)
                go_wp2
                refine bodyPost_ret (v := sqV A B) (by simp [results, Tryd.results20, go_sem, k0, k1]) rfl ⟨?_, ?_⟩
                · have e := HE.out
                  simp only [Prod.mk.injEq] at e
                  rw [e.1, e.2]
                · exact ((below_drewN HB.out _).setCell (by simp) _).setCell (by simp) _
    · have HF : k < n := by
        rcases Nat.lt_or_ge k n with h | h
        · exact h
        · have : k = n := by omega
          subst this; rw [Nat.mod_self] at hd; exact absurd rfl hd
      have hdec : ((n : Int) % (k : Int) == 0) = false := by
        have : ¬ ((n % k : Nat) : Int) = 0 := by omega
        rw [Int.natCast_emod] at this
        simpa using this
      have HE : Hid (spFrom y (n - k) k = spFrom y (n - (k + 1)) (k + 1)) := Lib.hid (by
        have e1 : n - k = (n - (k + 1)) + 1 := by omega
        rw [e1, sp_no (by rw [HN.out]; simp [hd])])
      have wrm : IntKind.i64.wrap ((n : Int) % (k : Int)) = (n : Int) % (k : Int) := by
        have : ((n % k : Nat) : Int) = (n : Int) % (k : Int) := Int.natCast_emod _ _
        rw [← this]
        have h2 := Nat.mod_lt n (show 0 < k by omega)
        exact IntWalk.i64_in _ (by generalize n % k = r at *; omega)
      go_wp2_with fail
      go_roundw
      case rel => exact ⟨k + 1, by omega, by omega, rfl, by go_num, Lib.hid ⟨by rw [← HE.out, HSP.out], _, rfl⟩⟩
      case measure => simp [intOf]; omega
end Go.Proofs.YtcgdlimhhcmjhaaDoor

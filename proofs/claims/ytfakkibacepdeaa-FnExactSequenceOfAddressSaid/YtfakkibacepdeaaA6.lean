/-
  Contracts: the sequence of an address, as the model makes it (the walk).
-/
import Derived.Test.YtfakkibacepdeaaA5
namespace Go.Proofs.Ytfakkibacepdeaa
open Go.RowKit

theorem SqB.put {w W : World} (H : SqB w W) {b : Nat} (hb : w.heap.size + 1 ≤ b) (o : Nat) (v : Value) : SqB w (W.setCell ⟨b, o, none⟩ v) := by
  have hne : ∀ i, (⟨w.heap.size, i, none⟩ : Addr) ≠ ⟨b, o, none⟩ := fun i e => by injection e; omega
  refine ⟨H.B.setCell (by show w.heap.size ≤ b; omega) _, by simpa using H.z, ?_, ?_, by simpa using H.f0, by simpa using H.f1⟩
  · rw [World.cell?_setCell_other _ _ _ _ (by intro e; first | exact hne _ e | exact hne _ e.symm)]; exact H.c0
  · rw [World.cell?_setCell_other _ _ _ _ (by intro e; first | exact hne _ e | exact hne _ e.symm)]; exact H.c1

set_option maxRecDepth 100000 in
set_option maxHeartbeats 2000000 in
theorem specSeqAddr (A : Option Addr) (cap : Nat) (l : List Int) (w : World) (hr : IntRow w w.heap.size A l) (hm : l.length ≤ 1048576) :
    Calls Try.prog 62 #[.slice A l.length cap] w fun e w' => e = .returned (.tuple #[sqV [] (addrR l), .int .i64 (addrC l)]) ∧ Below w.heap.size w w' := by
  have HA := Lib.hid (fun (W : World) (hB : Below w.heap.size w W) => specAddr A cap l W ((hr.below hB).more hB.size) hm)
  cases ha : isAddr l
  · have e1 : addrR l = [] := by unfold addrR; rw [ha]; rfl
    have e2 : addrC l = 2 := by unfold addrC; rw [ha]; rfl
    rw [e1, e2]
    rw [ha] at HA
    clear e1 e2 ha hr
    go_enter Try.func62, Try.ntmps62
    go_wp2_with fail
    have K0 := SqB.start w
    refine (HA.out _ K0.B).mono ?_
    rintro e w1 ⟨rfl, hw1⟩
    obtain ⟨j, rfl⟩ := hw1.out
    have K1 := K0.on (belowDrewN _ j)
    generalize (w.alloc (.cells #[.string ⟨#[]⟩, .string ⟨#[]⟩] 66)).drewN j = w1 at *
    obtain ⟨B1, z1, c0, c1, f0, f1⟩ := id K1
    go_wp2
    refine bodyPost_ret (v := .tuple #[sqV [] [], .int .i64 2]) (by simp [results, Try.results62, go_sem, sqV, bs, c0, c1]) rfl ⟨rfl, ?_⟩
    first | exact B1 | exact (B1.setCell (Nat.le_refl _) _).setCell (Nat.le_refl _) _
  · obtain ⟨h1, h2, h3, hv⟩ := addr_yes ha
    obtain ⟨n, hn⟩ : ∃ n, l.length = n + 1 := ⟨l.length - 1, by omega⟩
    obtain ⟨b, off, rfl, hb, hc⟩ := row_at hr (by omega)
    obtain ⟨x, hx⟩ : ∃ x : Nat, l.getD n 0 = ((x + 1 : Nat) : Int) := ⟨(l.getD n 0).toNat - 1, by have := hv n (by omega); omega⟩
    have hx40 : x ≤ 39 := by have := hv n (by omega); omega
    have hx0 : n = 0 → x = 0 := fun h0 => by subst h0; rw [h3] at hx; omega
    have e1 : addrR l = repN (addrW l n) x ++ [42] := by
      unfold addrR
      rw [ha, if_pos rfl, hn, Nat.add_sub_cancel, hx, show (((x + 1 : Nat) : Int) - 1).toNat = x by omega]
    have e2 : addrC l = 0 := by unfold addrC; rw [ha]; rfl
    have ho := addrW_one ha
    rw [e1, e2]
    rw [ha] at HA
    have HE := Lib.hid e1
    have HV : Hid (∀ k, k < n → ∃ m : Nat, l.getD k 0 = (m : Int) ∧ 1 ≤ m ∧ m ≤ 40) := Lib.hid (fun k hk => ⟨(l.getD k 0).toNat, by have := hv k (by omega); omega, by have := hv k (by omega); omega, by have := hv k (by omega); omega⟩)
    have HRg : Hid (∀ k, k ≤ n + 1 → 1 ≤ (addrW l k).length ∧ (addrW l k).length ≤ 40 ∧ bits (addrW l k)) := Lib.hid (fun k hk => ⟨(addrW_range ha (by omega)).1, (addrW_range ha (by omega)).2, addrW_bits ha k (by omega)⟩)
    have HC : Hid (∀ (W : World), Below w.heap.size w W → ∀ i, i ≤ n → W.cell? ⟨b, off + i, none⟩ = some (.int .i64 (l.getD i 0))) := Lib.hid (fun W hB i hi => (hB.cell (p := ⟨b, off + i, none⟩) hb).trans (hc i (by omega)))
    have HX := Lib.hid hx
    rw [hn] at HA ⊢
    have hn20 : n ≤ 19 := by omega
    have wn : wrap64 (n : Int) = (n : Int) := by unfold wrap64; omega
    have wn2 : IntKind.i64.wrap (n : Int) = (n : Int) := IntWalk.i64_in _ (by omega)
    have hnc1 : n < n + 1 := by omega
    clear e1 e2 ha hr hc hv h1 h2 h3 hx hn
    go_enter Try.func62, Try.ntmps62
    go_wp2_with fail
    have K0 := SqB.start w
    refine (HA.out _ K0.B).mono ?_
    rintro e w1 ⟨rfl, hw1⟩
    obtain ⟨j, rfl⟩ := hw1.out
    have K1 := K0.on (belowDrewN _ j)
    have hs1 : ((w.alloc (.cells #[.string ⟨#[]⟩, .string ⟨#[]⟩] 66)).drewN j).heap.size = w.heap.size + 1 := by simp
    generalize (w.alloc (.cells #[.string ⟨#[]⟩, .string ⟨#[]⟩] 66)).drewN j = w1 at *
    clear K0 hw1
    go_wp2_with fail
    have K2 := Lib.hid (K1.on (belowAlloc (Below.refl _ _) (.cells #[.int .u8 49] 5)))
    have HY : Hid (ByOwn (w1.alloc (.cells #[.int .u8 49] 5)) (w.heap.size + 1) (w.heap.size + 1) (addrW l 1)) := Lib.hid (by
      rw [ho, ← hs1]
      refine ⟨Nat.le_refl _, by simp, fun i hi => ?_, fun i => by simp [go_sem]⟩
      simp at hi
      subst hi
      simp [go_sem])
    have hl1 : (addrW l 1).length = 1 := by rw [ho]; rfl
    try rw [hs1]
    generalize w1.alloc (.cells #[.int .u8 49] 5) = w2 at *
    clear K1 hs1
    go_loopg [4, 5] (n - 1) (fun g s4 s5 wx => ∃ k b1 c1 : Nat, 1 ≤ k ∧ (k ≤ n ∨ k = 1) ∧ g = n - k ∧ s5 = .int .i64 k ∧ s4 = .slice (some ⟨b1, 0, none⟩) (addrW l k).length c1 ∧ Hid (ByOwn wx (w.heap.size + 1) b1 (addrW l k)) ∧ Hid (SqB w wx))
    case atStart => exact ⟨1, w.heap.size + 1, 1, by omega, by omega, rfl, rfl, by rw [hl1], HY, K2⟩
    case round =>
      clear K2 HY hl1
      obtain ⟨k, b1, c1, hk1, hkn, hkg, rfl, rfl, HY, HK⟩ := hrel
      cases gk with
      | zero =>
        have hli : ¬ ((k : Int) < (n : Int)) := by omega
        by_cases hn0 : n = 0
        · obtain rfl : k = 1 := by omega
          have hl1 : (addrW l 1).length = 0 + 1 := by rw [ho]; rfl
          obtain rfl : x = 0 := hx0 hn0
          subst hn0
          have HW : Hid (ByOwn (wr.setCell ⟨b1, 0, none⟩ (.int .u8 42)) (w.heap.size + 1) b1 [42]) := Lib.hid (flip_put HY.out (q := 0) hl1 42)
          have cv := bytesAre [42] (wr.setCell ⟨b1, 0, none⟩ (.int .u8 42)) b1 0 c1 1 rfl (fun i hi => HW.out.c i (by simpa using hi))
          have KW := SqB.put HK.out HY.out.lo 0 (.int .u8 42)
          have cq := HY.out.c 0 (by omega)
          rw [Nat.zero_add] at cq
          have fq := HY.out.f 0
          have zq := HY.out.z
          have HE0 : Hid (repN (addrW l 0) 0 ++ [42] = [42]) := Lib.hid rfl
          obtain ⟨B9, z9, d0, d1, g0, g1⟩ := id KW
          rw [hl1]
          clear HW ho hx0 hkn hl1 KW hkg
          go_wp2
          refine bodyPost_ret (v := .tuple #[sqV [] ([42]), .int .i64 0]) (by simp [results, Try.results62, go_sem, sqV, bs, d0, d1]) rfl ⟨rfl, ?_⟩
          first | exact B9 | exact (B9.setCell (Nat.le_refl _) _).setCell (Nat.le_refl _) _
        · obtain rfl : k = n := by omega
          have c := HC.out wr HK.out.B k (Nat.le_refl _)
          rw [HX.out] at c
          have HRp := Lib.hid (fun W (hW : ByOwn W (w.heap.size + 1) b1 (addrW l k)) => specRepd (w.heap.size + 1) b1 c1 (addrW l k) (x + 1) W hW (HRg.out k (by omega)).1 (HRg.out k (by omega)).2.1 (by omega) (by omega))
          have wx : wrap64 (x : Int) = (x : Int) := by unfold wrap64; omega
          have hk1' : (1 : Int) < (k : Int) + 1 := by omega
          have hln := repN_len (addrW l k) (x + 1)
          have HTk : Hid (repN (addrW l k) x = (repN (addrW l k) (x + 1)).take x) := Lib.hid (by rw [repN_take (by omega)])
          obtain ⟨L, hL⟩ : ∃ L, (addrW l k).length = L := ⟨_, rfl⟩
          rw [hL] at HRp ⊢
          clear ho hx0 hkn hkg hL
          go_wp2_with fail
          refine (HRp.out _ HY.out).mono ?_
          rintro e w5 ⟨b', c', rfl, hy5, hb5⟩
          have K5 := HK.out.on hb5
          have Y5 := hy5.mono (Nat.lt_of_lt_of_le HK.out.z (Nat.le_refl _))
          have HW : Hid (ByOwn (w5.setCell ⟨b', x, none⟩ (.int .u8 42)) (w.heap.size + 1) b' ((repN (addrW l k) (x + 1)).take x ++ [42])) := Lib.hid (flip_put Y5 (q := x) hln 42)
          have cv := bytesAre ((repN (addrW l k) (x + 1)).take x ++ [42]) (w5.setCell ⟨b', x, none⟩ (.int .u8 42)) b' 0 c' (x + 1) (by rw [List.length_append, List.length_take, hln]; simp) (fun i hi => HW.out.c i (by rw [List.length_append, List.length_take, hln]; simp; omega))
          have KW := SqB.put K5 Y5.lo x (.int .u8 42)
          have cq := Y5.c x (by omega)
          rw [Nat.zero_add] at cq
          have fq := Y5.f x
          have zq := Y5.z
          rw [← HTk.out] at cv
          obtain ⟨ch, hch⟩ : ∃ ch : Int, (((repN (addrW l k) (x + 1)).getD x 0).toNat : Int) = ch := ⟨_, rfl⟩
          rw [hch] at cq
          obtain ⟨B9, z9, d0, d1, g0, g1⟩ := id KW
          have hxc : x < x + 1 := by omega
          clear HW KW K5 Y5 hy5 hb5 hln hch c HRp
          go_wp2
          refine bodyPost_ret (v := .tuple #[sqV [] (repN (addrW l k) x ++ [42]), .int .i64 0]) (by simp [results, Try.results62, go_sem, sqV, bs, d0, d1]) rfl ⟨rfl, ?_⟩
          first | exact B9 | exact (B9.setCell (Nat.le_refl _) _).setCell (Nat.le_refl _) _
      | succ g =>
        have hlt : (k : Int) < (n : Int) := by omega
        have hltN : k < n + 1 := by omega
        obtain ⟨m, hm1, hm2, hm3⟩ := HV.out k (by omega)
        have c := HC.out wr HK.out.B k (by omega)
        rw [hm1] at c
        obtain ⟨q, rfl⟩ : ∃ q, m = q + 1 := ⟨m - 1, by omega⟩
        have HRp := Lib.hid (fun W (hW : ByOwn W (w.heap.size + 1) b1 (addrW l k)) => specRepd (w.heap.size + 1) b1 c1 (addrW l k) (q + 1) W hW (HRg.out k (by omega)).1 (HRg.out k (by omega)).2.1 (by omega) (by omega))
        have HFl : Hid (addrW l (k + 1) = (repN (addrW l k) (q + 1)).take q ++ [othL ((repN (addrW l k) (q + 1)).getD q 0)]) := Lib.hid (by
          simp only [addrW, flipL]
          rw [hm1, show (((q + 1 : Nat) : Int)).toNat = q + 1 by omega, repN_len, Nat.add_sub_cancel])
        have hbt := bits_rep (HRg.out k (by omega)).2.2 (HRg.out k (by omega)).1 (q + 1) q (by rw [repN_len]; omega)
        have hln := repN_len (addrW l k) (q + 1)
        generalize repN (addrW l k) (q + 1) = R at *
        generalize (addrW l k).length = L at *
        have wq : wrap64 (q : Int) = (q : Int) := by unfold wrap64; omega
        have HS := Lib.hid (oth_sub hbt)
        have HKG := Lib.hid hkg
        clear hm1 hm2 hkg
        go_wp2_with fail
        refine (HRp.out _ HY.out).mono ?_
        rintro e w5 ⟨b', c', rfl, hy5, hb5⟩
        have K5 := HK.out.on hb5
        have Y5 := Lib.hid (hy5.mono (Nat.lt_of_lt_of_le HK.out.z (Nat.le_refl _)))
        have cq := hy5.c q (by omega)
        rw [Nat.zero_add] at cq
        have fq := hy5.f q
        have zq := hy5.z
        obtain ⟨yy, hyy⟩ : ∃ y : Int, ((othL (R.getD q 0)).toNat : Int) = y := ⟨_, rfl⟩
        obtain ⟨zz, hzz⟩ : ∃ z : Int, ((R.getD q 0).toNat : Int) = z := ⟨_, rfl⟩
        have hz2 : zz = 48 ∨ zz = 49 := by rw [← hzz]; rcases hbt with h | h <;> rw [h] <;> simp
        have hl2 : (addrW l (k + 1)).length = q + 1 := by rw [HFl.out, List.length_append, List.length_take, hln]; simp
        have HPY : Hid (ByOwn (w5.setCell ⟨b', q, none⟩ (.int .u8 yy)) (w.heap.size + 1) b' (addrW l (k + 1))) := Lib.hid (by rw [HFl.out, ← hyy]; exact flip_put Y5.out hln _)
        have HPK := Lib.hid (SqB.put K5 Y5.out.lo q (.int .u8 yy))
        have hsub : 97 - zz = yy := by rw [← hzz, ← hyy]; exact HS.out
        rw [hzz] at cq
        have hyb : IntKind.u8.wrap yy = yy := by rw [← hsub]; rcases hz2 with h | h <;> rw [h] <;> rfl
        have hqc : q < q + 1 := by omega
        have HL2 := Lib.hid hl2
        have HKK := Lib.hid K5
        clear HS hbt hz2 hb5 hy5 hyy hzz HFl HRp hl2 K5 ho hx0 hkn hm3 hln c
        go_wp2
        go_roundg g
        case measure => omega
        case rel => exact ⟨k + 1, b', c', by omega, by omega, by have := HKG.out; omega, by go_num, by rw [HL2.out], HPY, HPK⟩
end Go.Proofs.Ytfakkibacepdeaa

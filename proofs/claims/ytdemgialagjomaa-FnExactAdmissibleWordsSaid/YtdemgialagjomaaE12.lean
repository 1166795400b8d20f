/-
  Contracts: the list that begins with a number and goes on by rho, given out one by one.
-/
import Derived.Test.YtdemgialagjomaaE10
import Derived.Test.YtdemgialagjomaaE5
namespace Go.Proofs.Ytdemgialagjomaa
open Go.RowKit Go.Shelf
attribute [local go_sem] Oper.semAt_some

/-- The list: 0 behind its end. -/
def seqR (x y : Wd) (f : Nat) : Nat → Nat
  | 0 => f
  | i + 1 => rhoN x y (seqR x y f i)
theorem rho_zero {x y : Wd} (h : isSeq x y = true) : rhoN x y 0 = 0 := by
  unfold rhoN
  rw [if_pos (shQ_zero (isSeq_yes h).2.2.1)]
theorem rho_le {x y : Wd} (h : isSeq x y = true) (k : Nat) : rhoN x y k ≤ k + 64 := by
  have h64 := (isSeq_yes h).2.2.2.1
  unfold rhoN
  split
  · omega
  · next hne =>
    rcases sh_diff h k with ⟨e, -⟩ | ⟨-, hd, -⟩
    · exact absurd e hne
    · omega
theorem rho_gt {x y : Wd} {k : Nat} (h : rhoN x y k ≠ 0) : k < rhoN x y k := by
  unfold rhoN at h ⊢
  split
  · next e => rw [if_pos e] at h; exact absurd rfl h
  · omega
theorem seqR_le {x y : Wd} (h : isSeq x y = true) (f : Nat) : ∀ i, seqR x y f i ≤ f + 64 * i
  | 0 => Nat.le_refl _
  | i + 1 => by
    have := seqR_le h f i
    have := rho_le h (seqR x y f i)
    show rhoN x y (seqR x y f i) ≤ _
    omega
theorem rho_found (x y : Wd) (k : Nat) : (!(shQ k x y == (x, y))) = decide (rhoN x y k ≠ 0) := by
  unfold rhoN
  by_cases e : shQ k x y = (x, y)
  · rw [if_pos e]; simp [e]
  · rw [if_neg e]; simp [e]

/-- The boxes of the iterator, and its map. -/
structure ItB (W : World) (Bf Bt g : Nat) (f : Nat) (x y : Wd) : Prop where
  zf : Bf < W.heap.size
  zt : Bt < W.heap.size
  cf : W.cell? ⟨Bf, 0, none⟩ = some (.int .i64 (f : Int))
  t0 : W.cell? ⟨Bt, 0, none⟩ = some (.string (bs x))
  t1 : W.cell? ⟨Bt, 1, none⟩ = some (.string (bs y))
  t2 : W.cell? ⟨Bt, 2, none⟩ = some (.map (some g))
  m : ∃ n, ownsT W g n (tabD x y (x.length + y.length))
theorem ItB.on {W w1 : World} {Bf Bt g f : Nat} {x y : Wd} (H : ItB W Bf Bt g f x y) (hb : Below W.heap.size W w1) : ItB w1 Bf Bt g f x y :=
  ⟨Nat.lt_of_lt_of_le H.zf hb.size, Nat.lt_of_lt_of_le H.zt hb.size, cellThru hb H.zf H.cf, cellThru hb H.zt H.t0, cellThru hb H.zt H.t1, cellThru hb H.zt H.t2, by
    obtain ⟨n, hm⟩ := H.m
    exact ⟨n, hm.kept (belowGQ hb) (by simp)⟩⟩
theorem ItB.keep {W w1 : World} {Bf Bt g f n1 : Nat} {r : Option Nat} {x y : Wd} (H : ItB W Bf Bt g f x y) (hk : KeepX n1 (fun b => b = Bf ∨ b = Bt ∨ b = g) r W w1) (h1 : some Bf ≠ r) (h2 : some Bt ≠ r) (h3 : some g ≠ r) : ItB w1 Bf Bt g f x y := by
  have e1 := hk.2 Bf (.inr (.inl rfl)) H.zf h1
  have e2 := hk.2 Bt (.inr (.inr (.inl rfl))) H.zt h2
  refine ⟨Nat.lt_of_lt_of_le H.zf hk.1, Nat.lt_of_lt_of_le H.zt hk.1, (World.cell?_of_block e1).trans H.cf, (World.cell?_of_block e2).trans H.t0, (World.cell?_of_block e2).trans H.t1, (World.cell?_of_block e2).trans H.t2, ?_⟩
  obtain ⟨n, hm⟩ := H.m
  have e3 := hk.2 g (.inr (.inr (.inr rfl))) hm.lt h3
  obtain ⟨es, clock, hb, F, hs, hD⟩ := hm
  exact ⟨n, es, clock, e3.trans hb, F, hs, hD⟩

theorem listMake (x y : Wd) (g f : Nat) (w : World) :
    Calls Try.prog 26 #[tabV x y g, .int .i64 (f : Int)] w fun e w' => e = .returned (.func (.func 29) #[] #[.pointer (some ⟨w.heap.size + 1, 0, none⟩), .pointer (some ⟨w.heap.size, 0, none⟩)]) ∧ (w.alloc (.cells #[.string (bs x), .string (bs y), .map (some g)] 39)).alloc (.cells #[.int .i64 (f : Int)] 2) = w' := by
  have hmf : ∀ (fn : Fn) (first cap : Array Value) (w : World), (Instr.makeFunc fn first cap).run Try.prog w = .ok (.func fn first cap) w := fun _ _ _ _ => rfl
  go_enter Try.func26, Try.ntmps26
  go_wp2
  go_ret
  exact ⟨rfl, rfl⟩

set_option maxRecDepth 8000 in
set_option maxHeartbeats 4000000 in
theorem listSeq (n : Nat) (x y : Wd) (Bf Bt g f N : Nat) (hN2 : N ≤ 1000) (hf2 : f ≤ 100000) (hf0 : f ≠ 0) (w : World) (h : isSeq x y = true) (HT : ItB w Bf Bt g f x y) :
    SeqTill2 n Try.prog 29 #[.pointer (some ⟨Bf, 0, none⟩), .pointer (some ⟨Bt, 0, none⟩)] (fun i => #[.int .i64 (seqR x y f i : Int)]) (fun i => seqR x y f i ≠ 0) N w (fun b => b = Bf ∨ b = Bt ∨ b = g) := by
  intro l row J Jx W hW hJ hJx hN hrow hpr hY h0
  have HT1 := HT.on hW
  clear HT
  have HRh := Lib.hid (fun (n k : Nat) (w : World) (hm : ownsT w g n (tabD x y (x.length + y.length))) (hk : k ≤ 1000000) => implRho x y g n k w h hm hk)
  have HLe := Lib.hid (seqR_le h f)
  have HFo := Lib.hid (rho_found x y)
  have HJ := Lib.hid hJ
  have HN := Lib.hid hN
  have HY := Lib.hid hY
  have H0 := Lib.hid h0
  have HTT := Lib.hid HT1
  have hnr : Hid (∀ k X, J k X → some Bf ≠ row X ∧ some Bt ≠ row X ∧ some g ≠ row X) := Lib.hid (fun k X h => ⟨hpr k X Bf h (.inl rfl), hpr k X Bt h (.inr (.inl rfl)), hpr k X g h (.inr (.inr rfl))⟩)
  have hS0 : Hid ((seqR x y f 0 : Int) = (f : Int) ∧ (true = decide (seqR x y f 0 ≠ 0))) := Lib.hid ⟨rfl, (decide_eq_true (show seqR x y f 0 ≠ 0 from hf0)).symm⟩
  have hSn : Hid (∀ i, seqR x y f (i + 1) = rhoN x y (seqR x y f i)) := Lib.hid (fun i => rfl)
  obtain ⟨zf, zt, cf, t0, t1, t2, -⟩ := id HT1
  clear hJ hJx hN hrow hpr hY h0 HT1 h hf0
  unfold rhoV at HRh
  generalize seqR x y f = sq at *
  refine callsIn_of_wp Try.func29 rfl trivial ?_ rfl
  simp only [Try.ntmps29, List.size_toArray, List.length_cons, List.length_nil, Nat.reduceAdd, Nat.reduceSub, Array.replicate_succ, Array.replicate_zero, List.push_toArray, List.append_toArray, List.nil_append, List.cons_append]
  gi_wp2
  gi_loopg [4, 5] N (fun gk q r wr => ∃ i : Nat, q = .int .i64 (sq i : Int) ∧ r = .bool (decide (sq i ≠ 0)) ∧ Hid (J i wr ∧ N ≤ gk + i) ∧ Hid (ItB wr Bf Bt g f x y))
  case atStart => exact ⟨0, by rw [hS0.out.1], by rw [← hS0.out.2], Lib.hid ⟨H0.out, by omega⟩, HTT⟩
  case round =>
    clear zf zt cf t0 t1 t2
    obtain ⟨i, rfl, rfl, H, HTr⟩ := hrel
    have hiN := HN.out i wr H.out.1
    by_cases hz : sq i = 0
    · have hd : decide (sq i ≠ 0) = false := decide_eq_false (by simpa using hz)
      rw [hd]
      have HZ := Lib.hid hz
      clear hz hd
      gi_wp2
      refine ⟨(fun _ h => by cases h), ?_⟩
      gi_wp2
      go_end0
      exact ⟨⟨_, rfl⟩, .inl ⟨i, by rw [HZ.out]; simp, H.out.1⟩⟩
    · have hd : decide (sq i ≠ 0) = true := decide_eq_true hz
      rw [hd]
      obtain ⟨fn, tmps, assign, body, hy, hR⟩ := HY.out i wr hz H.out.1
      have hle := HLe.out i
      have HRk := Lib.hid (fun (n : Nat) (w : World) hm => HRh.out n (sq i) w hm (by omega))
      rw [HFo.out, ← hSn.out] at HRk
      generalize (sq i : Int) = S at *
      clear hz hd
      gi_wp2
      refine ⟨(fun h => (by cases h)), ?_⟩
      refine hR.mono ?_
      clear hy hR
      rintro e W' (⟨rfl, hJ', hk, hrw⟩ | ⟨rfl, hJx'⟩)
      · have hn := hnr.out i wr H.out.1
        have T4 := HTr.out.keep hk hn.1 hn.2.1 hn.2.2
        have JJ := Lib.hid hJ'
        have HT4 := Lib.hid T4
        obtain ⟨zf, zt, cf, t0, t1, t2, -⟩ := id T4
        clear hk hrw hJ' hn T4
        gi_wp2_with fail
        obtain ⟨nm, hm⟩ := HT4.out.m
        refine fwCallQ ((HRk.out nm _ hm).mono ?_)
        rintro e w2 ⟨rfl, hb2⟩
        have T5 := Lib.hid (HT4.out.on hb2)
        have J5 := Lib.hid (HJ.out (i + 1) W' w2 none JJ.out (grown_of_below hb2) (fun b e => by cases e)).1
        clear zf zt cf t0 t1 t2 hb2 hm
        gi_wp2
        gi_roundg (gk - 1)
        case measure => have := H.out.2; omega
        case rel => exact ⟨i + 1, rfl, by simp, Lib.hid ⟨J5.out, by have := H.out.2; omega⟩, T5⟩
      · gi_wp2
        go_end0
        exact ⟨⟨_, rfl⟩, .inr ⟨i + 1, hJx'⟩⟩
end Go.Proofs.Ytdemgialagjomaa

/-
  Contracts: OrbitPoints, on both sides; written by genE24.py.
-/
import Derived.Test.YtomcmjnhfloeeaaDoorE22
import Derived.Test.YtomcmjnhfloeeaaDoorE23
import Derived.Test.YtomcmjnhfloeeaaDoorE2
namespace Go.Proofs.YtomcmjnhfloeeaaDoor
open Go.RowKit

/-- An append at a step of a region that draws its order; nothing may be appended. -/
theorem step_appQ {P : Program} (w : World) {ops : Array Oper} {o : Oper} {a : Act} {K : Act → World → Prop} {Q : Exit → Act → World → Prop} {E : Prop} (hgd : o.guard = none) (s x : Operand) (t : TypeId)
    (ho : o.op = .call { callee := .builtin .append, args := #[s, x], argTypes := #[t, t] })
    (base : Nat) (e : TypeId) (i : TypeInfo) (z : Value) (size bytes : Nat) (ht : P.underlying t = some (.slice e)) (hi : P.info? e = some i) (hz : i.zero = some z)
    (hsize : i.size = size) (hby : i.bytes = bytes) (hzs : z.cells.size = size) (hsz : 0 < size)
    (v : Value) (n : Nat) (xs : List Value) (hs : a.eval s = v) (hown : w.ownsRow base e size v n xs)
    (ad : Addr) (m c : Nat) (news : List Value) (hx : a.eval x = .slice (some ad) m c) (hl : news.length = m * size) (hnews : ∀ j u, news[j]? = some u → w.cell? (ad.add j) = some u) (h1 : ∀ u ∈ news, u.oneCell' = true)
    (h63 : n + m ≤ maxLen) (hbytes : (n + m) * bytes ≤ 140737488355328) (hbase : base ≤ w.heap.size)
    (h : ∀ v' w', w'.ownsRow base e size v' (n + m) (xs ++ news) → w.grownBy w' v.ownBlock → K (a.put o.dst v') w') :
    if Region.wanted o (yielded ops a.tmps) = true then Oper.wp P o a w K Q else E := by
  obtain ⟨v', w', hr, h2, h3, _, _⟩ := run_append_own_at (P := P) w base t o.type e i z size bytes ht hi hz hsize hby hzs hsz v n xs hown ad m c news hl hnews h1 h63 hbytes hbase
  have hw : Region.wanted o (yielded ops a.tmps) = true := by simp [Region.wanted, hgd]
  rw [if_pos hw]
  unfold Oper.wp execOp
  simp only [ho, resolve, invoke, builtin, Sem.run_bind, Sem.run_pure, Result.andThen_ok, List.map_toArray, List.map_cons, List.map_nil, hs, hx, hr]
  exact h v' w' h2 h3
theorem cell_two_newQ (w : World) (x y : Value) (t : TypeId) : ∀ j u, [x, y][j]? = some u → (w.alloc (.cells #[x, y] t)).cell? ((⟨w.heap.size, 0, none⟩ : Addr).add j) = some u := by
  intro j u hj
  match j, hj with
  | 0, hj => simp at hj; subst hj; simp [Addr.add]
  | 1, hj => simp at hj; subst hj; simp [Addr.add]

/-- The first k points of an orbit. -/
def ptsK (y : Wd) (k : Nat) : List (Wd × Wd) := (List.range k).map fun i => ([], rotN i y)
theorem ptsK_len (y : Wd) (k : Nat) : (ptsK y k).length = k := by simp [ptsK]
theorem ptsK_succ (y : Wd) (k : Nat) : ptsK y (k + 1) = ptsK y k ++ [([], rotN k y)] := by simp [ptsK, List.range_succ]
theorem flat_pts (y : Wd) (k : Nat) : flatQ (ptsK y k) ++ [.string (bs []), .string (bs (rotN k y))] = flatQ (ptsK y (k + 1)) := by rw [ptsK_succ, flatQ_app]; rfl
theorem rot_seq {y : Wd} (h : isSeq [] y = true) {k : Nat} (hk : k < y.length) : isSeq [] (rotN k y) = true := by
  have := sh_seq h k
  have e : shQ k [] y = ([], rotN k y) := by
    unfold shQ
    rw [if_neg (by simp)]
    simp only [List.length_nil, Nat.sub_zero]
    rw [Nat.mod_eq_of_lt hk]
  rw [e] at this
  exact this
theorem rot_next {y : Wd} (hy : 0 < y.length) {k : Nat} (hk : k < y.length) : rot1 (rotN k y) = rotN (k + 1) y := by
  rw [rotN_succ hy hk]
  rcases Nat.lt_or_ge (k + 1) y.length with h | h
  · rw [Nat.mod_eq_of_lt h]
  · have e : k + 1 = y.length := by omega
    rw [e, Nat.mod_self, rotN_zero]
    unfold rotN
    rw [List.drop_length, List.take_length]
    rfl

set_option maxRecDepth 8000 in
set_option maxHeartbeats 4000000 in
theorem implOP1 (y : Wd) (w : World) (hxy : y.length ≤ 1048576) (h : isSeq [] y = true) (hs : starQ [] y = true) :
    Calls Tryd.prog 32 #[sqV [] y] w fun e w' => (∃ A cap, e = .returned (.tuple #[.slice A (ptsK y y.length).length cap, .int .i64 0]) ∧ SeqOwn w' w.heap.size A (ptsK y y.length)) ∧ Below w.heap.size w w' := by
  obtain ⟨i0, hi, hz0, hz1, hz2⟩ := infoSq_parts infoSq
  obtain ⟨-, -, hy, h64, -⟩ := isSeq_yes h
  have HP := Lib.hid (fun w => implCp [] y w (by simpa using hxy) 0 (.inr (.inr ⟨h, hs, rfl⟩)))
  have HC : Hid (∀ k, k < y.length → ∀ w, Calls Tryd.prog 40 #[.string ⟨#[]⟩, .string (bs (rotN k y))] w fun e w' => e = .returned (sqV [] (rotN k y)) ∧ Below w.heap.size w w') := Lib.hid (fun k hk w => by
    obtain ⟨-, -, hy', h64', hcan⟩ := isSeq_yes (rot_seq h hk)
    have := implCanon [] (rotN k y) w hy' h64'
    rw [hcan] at this
    exact this)
  have HF : Hid (∀ k, k < y.length → (∀ W, (Instr.slice 9 (.string (bs y)) (some (.int .i64 (k : Int))) none none).run Tryd.prog W = .ok (.string (bs (y.drop k))) W) ∧ (∀ W, (Instr.slice 9 (.string (bs y)) none (some (.int .i64 (k : Int))) none).run Tryd.prog W = .ok (.string (bs (y.take k))) W) ∧
      (∀ W, (Op.stringOp .add (bs (y.drop k)) (bs (y.take k))).run Tryd.prog W = .ok (.string (bs (rotN k y))) W)) := Lib.hid (fun k hk =>
    ⟨fun W => fromS y k (k : Int) (by omega) rfl W, fun W => toS y k (k : Int) (by omega) rfl W, fun W => catO (y.drop k) (y.take k) (by rw [List.length_drop, List.length_take]; simp at h64; omega) W⟩)
  have hly := fun W => lenS 9 3 y Tryd.underlying9 W
  have S0 := sqs0 w [] y 25
  obtain ⟨n, hn⟩ : ∃ n, y.length = n := ⟨_, rfl⟩
  simp only [List.length_nil, Nat.zero_add] at h64
  rw [hn] at hly HC HF h64 ⊢
  have HPl := Lib.hid (ptsK_len y)
  have HFp := Lib.hid (flat_pts y)
  clear h hs hxy hy hn
  go_enter Tryd.func32, Tryd.ntmps32
  go_wp2_with fail
  refine (HP.out _).mono ?_
  rintro e w2 ⟨rfl, hb2⟩
  have S2 := S0.on hb2
  have ⟨bb, zz, c0, c1⟩ := id S2
  clear S0 hb2
  go_wp2
  go_loopw [5, 15] (fun s5 s15 wr => ∃ (k : Nat) (A : Option Addr) (cap : Nat), k ≤ n ∧ s15 = .int .i64 (k : Int) ∧ s5 = .slice A k cap ∧ Hid (wr.ownsRow (w.heap.size + 1) 25 2 (.slice A k cap) k (flatQ (ptsK y k))) ∧ SqS w [] y wr) (fun _ s15 _ => n - (intOf s15).toNat)
  case atStart => exact ⟨0, none, 0, by omega, rfl, rfl, Lib.hid (World.ownsRow_nil _ _ _ _), S2⟩
  case round =>
    clear S2 bb zz c0 c1
    obtain ⟨k, A, cap, hk, rfl, rfl, HO, S⟩ := hrel
    by_cases hlt : k < n
    · have d1 : decide ((k : Int) < (n : Int)) = true := decide_eq_true (by omega)
      have d1n : decide (k < n) = true := decide_eq_true hlt
      have d1p : (k < n) = True := eq_true hlt
      have HCk := Lib.hid (HC.out k hlt)
      obtain ⟨sl1, sl2, sl3⟩ := HF.out k hlt
      have HFk := Lib.hid (HFp.out k)
      generalize y.drop k = a at *
      generalize y.take k = b at *
      generalize rotN k y = z at *
      go_wp2_with fail
      refine wp_region_held_drew (S := (SqS w [] y)) (by kernel_rfl) ?_ (fun hHeld => ?_)
      · exact S.on (Below.refl _ _).drew
      refine wpAnyH_take (i := 0) (v := ?_) rfl (by kernel_rfl) (by kernel_rfl) (by kernel_rfl) (fun _ _ _ h => h) (Or.inl ⟨by kernel_rfl, ?_⟩) hHeld ?_
      rotate_left
      · intro w hSw; obtain ⟨Bq, zq, c0, c1⟩ := hSw; first | (go_simp; done) | (go_simp; with_reducible rfl)
      refine wpAnyH_take (i := 1) (v := ?_) rfl (by kernel_rfl) (by kernel_rfl) (by kernel_rfl) (fun _ _ _ h => h) (Or.inl ⟨by kernel_rfl, ?_⟩) hHeld ?_
      rotate_left
      · intro w hSw; obtain ⟨Bq, zq, c0, c1⟩ := hSw; first | (go_simp; done) | (go_simp; with_reducible rfl)
      refine wpAnyH_take (i := 2) (v := ?_) rfl (by kernel_rfl) (by kernel_rfl) (by kernel_rfl) (fun _ _ _ h => h) (Or.inl ⟨by kernel_rfl, ?_⟩) hHeld ?_
      rotate_left
      · intro w hSw; obtain ⟨Bq, zq, c0, c1⟩ := hSw; first | (go_simp; done) | (go_simp; with_reducible rfl)
      refine wpAnyH_take (i := 3) (v := ?_) rfl (by kernel_rfl) (by kernel_rfl) (by kernel_rfl) (fun _ _ _ h => h) (Or.inl ⟨by kernel_rfl, ?_⟩) hHeld ?_
      rotate_left
      · intro w hSw; obtain ⟨Bq, zq, c0, c1⟩ := hSw; first | (go_simp; done) | (go_simp; with_reducible rfl)
      refine wpAnyH_take (i := 4) (v := ?_) rfl (by kernel_rfl) (by kernel_rfl) (by kernel_rfl) (fun _ _ _ h => h) (Or.inl ⟨by kernel_rfl, ?_⟩) hHeld ?_
      rotate_left
      · intro w hSw; obtain ⟨Bq, zq, c0, c1⟩ := hSw; first | (go_simp; done) | (go_simp; with_reducible rfl)
      refine wpAnyH_take (i := 5) (v := ?_) rfl (by kernel_rfl) (by kernel_rfl) (by kernel_rfl) (fun _ _ _ h => h) (Or.inl ⟨by kernel_rfl, ?_⟩) hHeld ?_
      rotate_left
      · intro w hSw; obtain ⟨Bq, zq, c0, c1⟩ := hSw; first | (go_simp; done) | (go_simp; with_reducible rfl)
      refine wpAnyH_take (i := 6) (v := ?_) rfl (by kernel_rfl) (by kernel_rfl) (by kernel_rfl) (fun _ _ _ h => h) (Or.inl ⟨by kernel_rfl, ?_⟩) hHeld ?_
      rotate_left
      · intro w hSw; obtain ⟨Bq, zq, c0, c1⟩ := hSw; first | (go_simp; done) | (go_simp; with_reducible rfl)
      refine wpAnyH_take (i := 7) (v := ?_) rfl (by kernel_rfl) (by kernel_rfl) (by kernel_rfl) (fun _ _ _ h => h) (Or.inl ⟨by kernel_rfl, ?_⟩) hHeld ?_
      rotate_left
      · intro w hSw; obtain ⟨Bq, zq, c0, c1⟩ := hSw; first | (go_simp; done) | (go_simp; with_reducible rfl)
      refine wpAnyH_take (i := 8) (v := ?_) rfl (by kernel_rfl) (by kernel_rfl) (by kernel_rfl) (fun _ _ _ h => h) (Or.inl ⟨by kernel_rfl, ?_⟩) hHeld ?_
      rotate_left
      · intro w hSw; obtain ⟨Bq, zq, c0, c1⟩ := hSw; first | (go_simp; done) | (go_simp; with_reducible rfl)
      refine wpAnyH_take (i := 9) (v := ?_) rfl (by kernel_rfl) (by kernel_rfl) (by kernel_rfl) (fun _ _ _ h => h) (Or.inl ⟨by kernel_rfl, ?_⟩) hHeld ?_
      rotate_left
      · intro w hSw; obtain ⟨Bq, zq, c0, c1⟩ := hSw; first | (go_simp; done) | (go_simp; with_reducible rfl)
      refine wpAnyH_ready (rs := [10]) (by kernel_rfl) (by simp) ?_
      refine AllReadyH.cons rfl (fun K hK => ?_) AllReadyH.nil
      go_simp
      go_wp2_with (go_at_call 40; (with_reducible refine (HCk.out _).mono ?_); rintro e w4 ⟨rfl, hb4⟩)
      have S4 := hHeld.on hb4
      have O4 := ownBelow (ownBelow HO.out (Below.refl _ _).drew) hb4
      refine hK.out _ _ ?_ (fun hHeld => ?_)
      · exact S4
      clear hK K
      have S5 := S4.on (belowAlloc (Below.refl _ _) (.cells #[.string (bs []), .string (bs z)] 25))
      refine wpAnyH_ready (rs := [11]) (by kernel_rfl) (by simp) ?_
      refine AllReadyH.cons rfl (fun K hK => ?_) AllReadyH.nil
      go_simp
      refine hK.out _ _ ?_ (fun hHeld => ?_)
      · exact S5
      clear hK K
      refine wpAnyH_ready (rs := [12]) (by kernel_rfl) (by simp) ?_
      refine AllReadyH.cons rfl (fun K hK => ?_) AllReadyH.nil
      refine step_appQ _ rfl (.tmp 18) (.tmp 29) 46 rfl (w.heap.size + 1) 25 i0 (.agg #[.string ⟨#[]⟩, .string ⟨#[]⟩]) 2 32 Tryd.underlying46 hi hz0 hz1 hz2 rfl (by decide) (.slice A k cap) k (flatQ (ptsK y k)) rfl (World.ownsRow.alloc O4 _) ⟨w4.heap.size, 0, none⟩ 1 1 [.string (bs []), .string (bs z)] rfl rfl ?c1 ?c2 ?c3 ?c4 ?c5 ?_
      case c1 => exact cell_two_newQ _ _ _ _
      case c2 => intro u hu; simp at hu; rcases hu with rfl | rfl <;> rfl
      case c3 => unfold maxLen; omega
      case c4 => omega
      case c5 => have := S5.z; simp at this; simp; omega
      intro v' w6 hown' hgrow
      rw [HFk.out] at hown'
      obtain ⟨A', cap', rfl⟩ := formI hown'
      have S6 := S5.grow hgrow (fun j e => by have := own_blockI O4 j e; omega)
      have HO' := Lib.hid hown'
      clear hown' hgrow S4 S5 O4 HO
      refine hK.out _ _ ?_ (fun hHeld => ?_)
      · exact S6
      clear hK K
      refine wpAnyH_take (i := 13) (v := ?_) rfl (by kernel_rfl) (by kernel_rfl) (by kernel_rfl) (fun _ _ _ h => h) (Or.inl ⟨by kernel_rfl, ?_⟩) hHeld ?_
      rotate_left
      · intro w hSw; obtain ⟨Bq, zq, c0, c1⟩ := hSw; first | (go_simp; done) | (go_simp; with_reducible rfl)
      refine wpAnyH_done (by kernel_rfl) ?_ _
      go_wp2
      go_roundw
      case rel => exact ⟨k + 1, A', cap', by omega, by go_num, rfl, HO', S6⟩
      case measure => simp [intOf]; omega
    · obtain rfl : k = n := by omega
      have HQ : Hid (SeqOwn wr w.heap.size A (ptsK y k)) := Lib.hid (by
        have := HO.out
        have e := HPl.out k
        refine ownQ_of (c := cap) ?_
        rw [e]
        exact ownMonoI this (by omega))
      have HPk := HPl.out k
      go_wp2
      go_ret2
      exact ⟨⟨A, cap, by rw [HPk]; rfl, HQ.out⟩, S.B⟩

theorem ownSet {W : World} {lo n k : Nat} {e : TypeId} {v u : Value} {xs : List Value} {b o : Nat} (h : W.ownsRow lo e k v n xs) (hb : ∀ j, v.ownBlock = some j → j ≠ b) : (W.setCell ⟨b, o, none⟩ u).ownsRow lo e k v n xs := by
  refine h.kept (setGrownQ W b o u) ?_
  cases hv : v.ownBlock with
  | none => exact .inl rfl
  | some j => exact .inr (fun e => hb j hv (by injection e))
/-- The box of a sequence, and that of the point that comes next. -/
structure OrS (w : World) (y : Wd) (b k : Nat) (W : World) : Prop where
  S : SqS w [] y W
  z : b < W.heap.size
  lo : w.heap.size < b
  n0 : W.cell? ⟨b, 0, none⟩ = some (.string (bs []))
  n1 : W.cell? ⟨b, 1, none⟩ = some (.string (bs (rotN k y)))
  f0 : W.frozen? ⟨b, 0, none⟩ = false
  f1 : W.frozen? ⟨b, 1, none⟩ = false
theorem OrS.on {w W w1 : World} {y : Wd} {b k : Nat} (H : OrS w y b k W) (hb : Below W.heap.size W w1) : OrS w y b k w1 :=
  ⟨H.S.on hb, Nat.lt_of_lt_of_le H.z hb.size, H.lo, cellThru hb H.z H.n0, cellThru hb H.z H.n1, frozThru hb H.z H.f0, frozThru hb H.z H.f1⟩
theorem OrS.grow {w W w1 : World} {y : Wd} {b k : Nat} {row : Option Nat} (H : OrS w y b k W) (hg : W.grownBy w1 row) (hr : ∀ j, row = some j → w.heap.size < j ∧ j ≠ b) : OrS w y b k w1 :=
  have hne : some b ≠ row := fun e => (hr _ e.symm).2 rfl
  ⟨H.S.grow hg (fun j e => (hr j e).1), Nat.lt_of_lt_of_le H.z hg.size, H.lo, (hg.cell_far ⟨b, 0, none⟩ H.z hne).trans H.n0, (hg.cell_far ⟨b, 1, none⟩ H.z hne).trans H.n1, (hg.frozen_far ⟨b, 0, none⟩ H.z hne).trans H.f0, (hg.frozen_far ⟨b, 1, none⟩ H.z hne).trans H.f1⟩
theorem putQ' {W : World} {b : Nat} {u0 u1 v0 v1 : Value} (h0 : W.cell? ⟨b, 0, none⟩ = some v0) (h1 : W.cell? ⟨b, 1, none⟩ = some v1) :
    ((W.setCell ⟨b, 0, none⟩ u0).setCell ⟨b, 1, none⟩ u1).cell? ⟨b, 0, none⟩ = some u0 ∧ ((W.setCell ⟨b, 0, none⟩ u0).setCell ⟨b, 1, none⟩ u1).cell? ⟨b, 1, none⟩ = some u1 := by
  refine ⟨?_, ?_⟩
  · rw [World.cell?_setCell_other _ _ _ _ (by simp)]
    exact World.cell?_setCell_same _ _ _ h0
  · have h1' : (W.setCell ⟨b, 0, none⟩ u0).cell? ⟨b, 1, none⟩ = some v1 := by rw [World.cell?_setCell_other _ _ _ _ (by simp)]; exact h1
    exact World.cell?_setCell_same _ _ _ h1'
theorem OrS.put {w W : World} {y : Wd} {b k : Nat} (H : OrS w y b k W) (k' : Nat) : OrS w y b k' ((W.setCell ⟨b, 0, none⟩ (.string (bs []))).setCell ⟨b, 1, none⟩ (.string (bs (rotN k' y)))) := by
  obtain ⟨q0, q1⟩ := putQ' (u0 := .string (bs [])) (u1 := .string (bs (rotN k' y))) H.n0 H.n1
  have hlo := H.lo
  refine ⟨⟨(H.S.B.setCell (by exact Nat.le_of_lt hlo) _).setCell (by exact Nat.le_of_lt hlo) _, by simpa using H.S.z, ?_, ?_⟩, by simpa using H.z, H.lo, q0, q1, by simpa using H.f0, by simpa using H.f1⟩
  · rw [World.cell?_setCell_other _ _ _ _ (by intro e; injection e; omega), World.cell?_setCell_other _ _ _ _ (by intro e; injection e; omega)]; exact H.S.c0
  · rw [World.cell?_setCell_other _ _ _ _ (by intro e; injection e; omega), World.cell?_setCell_other _ _ _ _ (by intro e; injection e; omega)]; exact H.S.c1

set_option maxRecDepth 8000 in
set_option maxHeartbeats 4000000 in
theorem specOrb (y : Wd) (w : World) (h : isSeq [] y = true) :
    Calls Tryd.prog 59 #[sqV [] y] w fun e w' => (∃ A cap, e = .returned (.slice A (ptsK y y.length).length cap) ∧ SeqOwn w' w.heap.size A (ptsK y y.length)) ∧ Below w.heap.size w w' := by
  obtain ⟨i0, hi, hz0, hz1, hz2⟩ := infoSq_parts infoSq
  obtain ⟨-, -, hy, h64, -⟩ := isSeq_yes h
  have hly := fun W => lenS 9 3 y Tryd.underlying9 W
  have S0 := sqs0 w [] y 25
  have HSh : Hid (∀ k, k < y.length → ∀ W, Calls Tryd.prog 76 #[sqV [] (rotN k y)] W fun e w' => e = .returned (sqV [] (rotN (k + 1) y)) ∧ Below W.heap.size W w') := Lib.hid (fun k hk W => by
    have := specSh [] (rotN k y) W (by rw [rotN_len]; exact hy) (by rw [rotN_len]; exact h64)
    have e : (if ([] : Wd).length = 0 then rot1 (rotN k y) else rotN k y) = rotN (k + 1) y := by rw [if_pos (by rfl)]; exact rot_next hy hk
    rw [e] at this
    exact this)
  have HPl := Lib.hid (ptsK_len y)
  have HFp := Lib.hid (flat_pts y)
  have HPut := Lib.hid (fun (b k k' : Nat) (W : World) (H : OrS w y b k W) => H.put k')
  have hr0 : rotN 0 y = y := rotN_zero y
  obtain ⟨n, hn⟩ : ∃ n, y.length = n := ⟨_, rfl⟩
  simp only [List.length_nil, Nat.zero_add] at h64
  rw [hn] at hly HSh h64 ⊢
  clear h hy hn
  go_enter Tryd.func59, Tryd.ntmps59
  go_wp2_with fail
  go_region
  · obtain ⟨wc, hwc⟩ : ∃ wc, (((w.alloc (.cells #[.string (bs []), .string (bs y)] 25)).alloc (.cells #[] 25)).alloc (.cells #[.string (bs []), .string (bs y)] 25)).drew = wc := ⟨_, rfl⟩
    have S1 : OrS w y (w.heap.size + 1 + 1) 0 wc := by
      rw [← hwc]
      exact ⟨((S0.on (belowAlloc (Below.refl _ _) (.cells #[] 25))).on (belowAlloc (Below.refl _ _) (.cells #[.string (bs []), .string (bs y)] 25))).on (Below.refl _ _).drew, by simp, by omega, by simp [go_sem], by simp [go_sem, hr0], by simp [go_sem], by simp [go_sem]⟩
    have O1 : wc.ownsRow (w.heap.size + 1) 25 2 (.slice (some ⟨w.heap.size + 1, 0, none⟩) 0 0) 0 (flatQ (ptsK y 0)) := by
      rw [← hwc]
      exact ⟨rfl, .inr ⟨w.heap.size + 1, 0, #[], rfl, by omega, (by show (((w.alloc (.cells #[.string (bs []), .string (bs y)] 25)).alloc (.cells #[] 25)).alloc (.cells #[.string (bs []), .string (bs y)] 25)).heap[w.heap.size + 1]? = _; rw [Below.heap_alloc _ _ _ (by simp)]; have := heap_new (w.alloc (.cells #[.string (bs []), .string (bs y)] 25)) (.cells #[] 25); rw [World.size_alloc] at this; exact this), Nat.le_refl _, by unfold maxLen; omega, rfl, rfl⟩⟩
    have N1 : ∀ j, (Value.slice (some ⟨w.heap.size + 1, 0, none⟩) 0 0).ownBlock = some j → j ≠ w.heap.size + 1 + 1 := fun j e => by simp [Value.ownBlock] at e; omega
    rw [hwc]
    clear hwc S0 hr0
    obtain ⟨b4, hb4⟩ : ∃ b4, w.heap.size + 1 + 1 = b4 := ⟨_, rfl⟩
    rw [hb4] at S1 N1 ⊢
    clear hb4
    go_wp2
    go_loopw [3, 5] (fun s3 s5 wr => ∃ (k : Nat) (A : Option Addr) (cap : Nat), k ≤ n ∧ s5 = .int .i64 (k : Int) ∧ s3 = .slice A k cap ∧ Hid (wr.ownsRow (w.heap.size + 1) 25 2 (.slice A k cap) k (flatQ (ptsK y k)) ∧ ∀ j, (Value.slice A k cap).ownBlock = some j → j ≠ b4) ∧ OrS w y b4 k wr) (fun _ s5 _ => n - (intOf s5).toNat)
    case atStart => exact ⟨0, _, 0, by omega, rfl, rfl, Lib.hid ⟨O1, N1⟩, S1⟩
    case round =>
      clear S1 O1 N1
      obtain ⟨k, A, cap, hk, rfl, rfl, HO, S⟩ := hrel
      obtain ⟨⟨bb, zz, c0, c1⟩, z4, lo4, n0, n1, f0, f1⟩ := id S
      by_cases hlt : k < n
      · have d1 : decide ((k : Int) < (n : Int)) = true := decide_eq_true (by omega)
        have d1n : decide (k < n) = true := decide_eq_true hlt
        have d1p : (k < n) = True := eq_true hlt
        have HSk := Lib.hid (HSh.out k hlt)
        have HFk := Lib.hid (HFp.out k)
        have hown := HO.out.1
        have hP := Lib.hid (fun W H => HPut.out b4 k (k + 1) W H)
        have HG := Lib.hid (fun (w1 : World) (row : Option Nat) (hg : (wr.alloc (.cells #[.string (bs []), .string (bs (rotN k y))] 25)).grownBy w1 row) (hr : ∀ j, row = some j → w.heap.size < j ∧ j ≠ b4) => (S.on (belowAlloc (Below.refl _ _) (.cells #[.string (bs []), .string (bs (rotN k y))] 25))).grow hg hr)
        clear S
        generalize hz : rotN k y = z at *
        generalize hz' : rotN (k + 1) y = z' at *
        go_wp2_with (at_builtin; refine wpList_append_own_at _ rfl _ _ 46 rfl (w.heap.size + 1) 25 i0 (.agg #[.string ⟨#[]⟩, .string ⟨#[]⟩]) 2 32 Tryd.underlying46 hi hz0 hz1 hz2 rfl (by decide) (.slice A k cap) k (flatQ (ptsK y k)) rfl (World.ownsRow.alloc hown _) ⟨wr.heap.size, 0, none⟩ 1 1 [.string (bs []), .string (bs z)] rfl rfl ?c1 ?c2 ?c3 ?c4 ?c5 ?_)
        case c1 => exact cell_two_newQ _ _ _ _
        case c2 => intro u hu; simp at hu; rcases hu with rfl | rfl <;> rfl
        case c3 => unfold maxLen; omega
        case c4 => omega
        case c5 => simp; omega
        intro v' w1 hown' hgrow _ hat
        rw [HFk.out] at hown'
        have S2 := HG.out w1 _ hgrow (fun j e => ⟨by have := own_blockI hown j e; omega, HO.out.2 j e⟩)
        have N2 : ∀ j, v'.ownBlock = some j → j ≠ b4 := fun j e => by
          rcases hat with h | h
          · exact HO.out.2 j (h ▸ e)
          · rw [h] at e; simp at e; omega
        obtain ⟨A', cap', rfl⟩ := formI hown'
        have HO' := Lib.hid (And.intro hown' N2)
        clear hown' hgrow hat hown HG bb zz c0 c1 n0 n1 f0 f1 z4 N2
        obtain ⟨⟨bb, zz, c0, c1⟩, z4, _, n0, n1, f0, f1⟩ := id S2
        rw [hz] at n1
        go_wp2_with fail
        refine (HSk.out _).mono ?_
        rintro e w3 ⟨rfl, hb3⟩
        have S3 := S2.on hb3
        have HO3 := Lib.hid (And.intro (ownBelow HO'.out.1 hb3) HO'.out.2)
        clear S2 hb3 bb zz c0 c1 n0 n1 f0 f1 z4 HO' HSk
        obtain ⟨⟨bb, zz, c0, c1⟩, z4, _, n0, n1, f0, f1⟩ := id S3
        have S4 := hP.out _ S3
        have HO4 : Hid (((w3.setCell ⟨b4, 0, none⟩ (.string (bs []))).setCell ⟨b4, 1, none⟩ (.string (bs z'))).ownsRow (w.heap.size + 1) 25 2 (.slice A' (k + 1) cap') (k + 1) (flatQ (ptsK y (k + 1))) ∧ ∀ j, (Value.slice A' (k + 1) cap').ownBlock = some j → j ≠ b4) :=
          Lib.hid ⟨(ownSet (ownSet HO3.out.1 HO3.out.2) HO3.out.2), HO3.out.2⟩
        clear S3 HO3
        go_wp2
        go_roundw
        case rel => exact ⟨k + 1, A', cap', by omega, by go_num, rfl, HO4, S4⟩
        case measure => simp [intOf]; omega
      · obtain rfl : k = n := by omega
        have HQ : Hid (SeqOwn wr w.heap.size A (ptsK y k)) := Lib.hid (by
          have := HO.out.1
          have e := HPl.out k
          refine ownQ_of (c := cap) ?_
          rw [e]
          exact ownMonoI this (by omega))
        have HPk := HPl.out k
        have HB := S.S.B
        go_wp2
        go_ret
        exact ⟨⟨A, cap, by rw [HPk]; rfl, HQ.out⟩, HB⟩
  · obtain ⟨wc, hwc⟩ : ∃ wc, (((w.alloc (.cells #[.string (bs []), .string (bs y)] 25)).alloc (.cells #[.string (bs []), .string (bs y)] 25)).alloc (.cells #[] 25)).drew = wc := ⟨_, rfl⟩
    have S1 : OrS w y (w.heap.size + 1) 0 wc := by
      rw [← hwc]
      exact ⟨((S0.on (belowAlloc (Below.refl _ _) (.cells #[.string (bs []), .string (bs y)] 25))).on (belowAlloc (Below.refl _ _) (.cells #[] 25))).on (Below.refl _ _).drew, by simp, by omega, by simp [go_sem], by simp [go_sem, hr0], by simp [go_sem], by simp [go_sem]⟩
    have O1 : wc.ownsRow (w.heap.size + 1) 25 2 (.slice (some ⟨w.heap.size + 1 + 1, 0, none⟩) 0 0) 0 (flatQ (ptsK y 0)) := by
      rw [← hwc]
      exact ⟨rfl, .inr ⟨w.heap.size + 1 + 1, 0, #[], rfl, by omega, (by have := heap_new ((w.alloc (.cells #[.string (bs []), .string (bs y)] 25)).alloc (.cells #[.string (bs []), .string (bs y)] 25)) (.cells #[] 25); rw [World.size_alloc, World.size_alloc] at this; exact this), Nat.le_refl _, by unfold maxLen; omega, rfl, rfl⟩⟩
    have N1 : ∀ j, (Value.slice (some ⟨w.heap.size + 1 + 1, 0, none⟩) 0 0).ownBlock = some j → j ≠ w.heap.size + 1 := fun j e => by simp [Value.ownBlock] at e; omega
    rw [hwc]
    clear hwc S0 hr0
    obtain ⟨gR, hgR⟩ : ∃ gR, w.heap.size + 1 + 1 = gR := ⟨_, rfl⟩
    rw [hgR] at O1 N1 ⊢
    obtain ⟨b4, hb4⟩ : ∃ b4, w.heap.size + 1 = b4 := ⟨_, rfl⟩
    rw [hb4] at S1 N1 ⊢
    clear hb4 hgR
    go_wp2
    go_loopw [3, 5] (fun s3 s5 wr => ∃ (k : Nat) (A : Option Addr) (cap : Nat), k ≤ n ∧ s5 = .int .i64 (k : Int) ∧ s3 = .slice A k cap ∧ Hid (wr.ownsRow (w.heap.size + 1) 25 2 (.slice A k cap) k (flatQ (ptsK y k)) ∧ ∀ j, (Value.slice A k cap).ownBlock = some j → j ≠ b4) ∧ OrS w y b4 k wr) (fun _ s5 _ => n - (intOf s5).toNat)
    case atStart => exact ⟨0, _, 0, by omega, rfl, rfl, Lib.hid ⟨O1, N1⟩, S1⟩
    case round =>
      clear S1 O1 N1
      obtain ⟨k, A, cap, hk, rfl, rfl, HO, S⟩ := hrel
      obtain ⟨⟨bb, zz, c0, c1⟩, z4, lo4, n0, n1, f0, f1⟩ := id S
      by_cases hlt : k < n
      · have d1 : decide ((k : Int) < (n : Int)) = true := decide_eq_true (by omega)
        have d1n : decide (k < n) = true := decide_eq_true hlt
        have d1p : (k < n) = True := eq_true hlt
        have HSk := Lib.hid (HSh.out k hlt)
        have HFk := Lib.hid (HFp.out k)
        have hown := HO.out.1
        have hP := Lib.hid (fun W H => HPut.out b4 k (k + 1) W H)
        have HG := Lib.hid (fun (w1 : World) (row : Option Nat) (hg : (wr.alloc (.cells #[.string (bs []), .string (bs (rotN k y))] 25)).grownBy w1 row) (hr : ∀ j, row = some j → w.heap.size < j ∧ j ≠ b4) => (S.on (belowAlloc (Below.refl _ _) (.cells #[.string (bs []), .string (bs (rotN k y))] 25))).grow hg hr)
        clear S
        generalize hz : rotN k y = z at *
        generalize hz' : rotN (k + 1) y = z' at *
        go_wp2_with (at_builtin; refine wpList_append_own_at _ rfl _ _ 46 rfl (w.heap.size + 1) 25 i0 (.agg #[.string ⟨#[]⟩, .string ⟨#[]⟩]) 2 32 Tryd.underlying46 hi hz0 hz1 hz2 rfl (by decide) (.slice A k cap) k (flatQ (ptsK y k)) rfl (World.ownsRow.alloc hown _) ⟨wr.heap.size, 0, none⟩ 1 1 [.string (bs []), .string (bs z)] rfl rfl ?c1 ?c2 ?c3 ?c4 ?c5 ?_)
        case c1 => exact cell_two_newQ _ _ _ _
        case c2 => intro u hu; simp at hu; rcases hu with rfl | rfl <;> rfl
        case c3 => unfold maxLen; omega
        case c4 => omega
        case c5 => simp; omega
        intro v' w1 hown' hgrow _ hat
        rw [HFk.out] at hown'
        have S2 := HG.out w1 _ hgrow (fun j e => ⟨by have := own_blockI hown j e; omega, HO.out.2 j e⟩)
        have N2 : ∀ j, v'.ownBlock = some j → j ≠ b4 := fun j e => by
          rcases hat with h | h
          · exact HO.out.2 j (h ▸ e)
          · rw [h] at e; simp at e; omega
        obtain ⟨A', cap', rfl⟩ := formI hown'
        have HO' := Lib.hid (And.intro hown' N2)
        clear hown' hgrow hat hown HG bb zz c0 c1 n0 n1 f0 f1 z4 N2
        obtain ⟨⟨bb, zz, c0, c1⟩, z4, _, n0, n1, f0, f1⟩ := id S2
        rw [hz] at n1
        go_wp2_with fail
        refine (HSk.out _).mono ?_
        rintro e w3 ⟨rfl, hb3⟩
        have S3 := S2.on hb3
        have HO3 := Lib.hid (And.intro (ownBelow HO'.out.1 hb3) HO'.out.2)
        clear S2 hb3 bb zz c0 c1 n0 n1 f0 f1 z4 HO' HSk
        obtain ⟨⟨bb, zz, c0, c1⟩, z4, _, n0, n1, f0, f1⟩ := id S3
        have S4 := hP.out _ S3
        have HO4 : Hid (((w3.setCell ⟨b4, 0, none⟩ (.string (bs []))).setCell ⟨b4, 1, none⟩ (.string (bs z'))).ownsRow (w.heap.size + 1) 25 2 (.slice A' (k + 1) cap') (k + 1) (flatQ (ptsK y (k + 1))) ∧ ∀ j, (Value.slice A' (k + 1) cap').ownBlock = some j → j ≠ b4) :=
          Lib.hid ⟨(ownSet (ownSet HO3.out.1 HO3.out.2) HO3.out.2), HO3.out.2⟩
        clear S3 HO3
        go_wp2
        go_roundw
        case rel => exact ⟨k + 1, A', cap', by omega, by go_num, rfl, HO4, S4⟩
        case measure => simp [intOf]; omega
      · obtain rfl : k = n := by omega
        have HQ : Hid (SeqOwn wr w.heap.size A (ptsK y k)) := Lib.hid (by
          have := HO.out.1
          have e := HPl.out k
          refine ownQ_of (c := cap) ?_
          rw [e]
          exact ownMonoI this (by omega))
        have HPk := HPl.out k
        have HB := S.S.B
        go_wp2
        go_ret
        exact ⟨⟨A, cap, by rw [HPk]; rfl, HQ.out⟩, HB⟩
end Go.Proofs.YtomcmjnhfloeeaaDoor

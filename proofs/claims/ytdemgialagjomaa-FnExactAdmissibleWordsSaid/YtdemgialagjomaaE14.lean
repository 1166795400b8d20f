/-
  Contracts: lists along rho, as the model makes them; whether a list has a number.
-/
import Derived.Test.YtdemgialagjomaaE13
import Derived.Test.YtdemgialagjomaaWO
import Derived.Maps.AppendAt
import Derived.Deep.AppendLies
namespace Go.Proofs.Ytdemgialagjomaa
open Go.RowKit

theorem infoI : (Try.prog.info? 2).map (fun i => (i.zero, i.size, i.bytes)) = some (some (.int .i64 0), 1, 8) := by kernel_rfl
theorem infoI_parts : ∃ i : TypeInfo, Try.prog.info? 2 = some i ∧ i.zero = some (.int .i64 0) ∧ i.size = 1 ∧ i.bytes = 8 := by
  have h := infoI
  cases hi : Try.prog.info? 2 with
  | none => rw [hi] at h; cases h
  | some i =>
    rw [hi] at h
    simp at h
    exact ⟨i, rfl, h.1, h.2.1, h.2.2⟩
theorem heap_new (w : World) (o : Obj) : (w.alloc o).heap[w.heap.size]? = some o := World.alloc_heap_new w o
/-- The numbers of a list, as values. -/
def numsV (l : List Nat) : List Value := l.map fun (k : Nat) => Value.int .i64 (k : Int)
def numsI (l : List Nat) : List Int := l.map fun (k : Nat) => (k : Int)
theorem numsV_snoc (l : List Nat) (k : Nat) : numsV (l ++ [k]) = numsV l ++ [.int .i64 (k : Int)] := by simp [numsV]
theorem numsI_len (l : List Nat) : (numsI l).length = l.length := by simp [numsI]
/-- The first c numbers of the list that begins with f. -/
def firstR (x y : Wd) (f c : Nat) : List Nat := (List.range c).map (seqR x y f)
theorem firstR_snoc (x y : Wd) (f c : Nat) : firstR x y f (c + 1) = firstR x y f c ++ [seqR x y f c] := by simp [firstR, List.range_succ]
theorem firstR_len (x y : Wd) (f c : Nat) : (firstR x y f c).length = c := by simp [firstR]
abbrev ownsI (W : World) (lo : Nat) (v : Value) (l : List Nat) : Prop := W.ownsRow lo 2 1 v l.length (numsV l)
theorem ownI_of {W : World} {lo : Nat} {A : Option Addr} {l : List Nat} {c : Nat} (h : ownsI W lo (.slice A l.length c) l) : IntOwn W lo A (numsI l) := by
  intro hl
  have hk : 0 < l.length := by
    rcases Nat.eq_zero_or_pos l.length with h0 | h0
    · rw [List.length_eq_zero_iff.1 h0] at hl; exact absurd rfl hl
    · exact h0
  obtain ⟨g, c', hv, hlo, hg⟩ := World.ownsRow.form h hk
  obtain ⟨rfl, rfl⟩ : A = some ⟨g, 0, none⟩ ∧ c = c' := by injection hv with hA hn hc; exact ⟨hA, hc⟩
  refine ⟨g, 0, rfl, hlo, hg, fun i n hi => ?_⟩
  have hil : i < l.length := by
    rcases Nat.lt_or_ge i l.length with h1 | h1
    · exact h1
    · rw [List.getElem?_eq_none (by rw [numsI_len]; exact h1)] at hi; cases hi
  have e : (numsV l)[i]? = some (.int .i64 n) := by
    unfold numsI at hi
    rw [List.getElem?_map] at hi
    unfold numsV
    rw [List.getElem?_map]
    cases hh : l[i]? with
    | none => rw [hh] at hi; cases hi
    | some k =>
      rw [hh] at hi
      simp at hi
      simp [hi]
  rw [show 0 + i = i by omega]
  exact ⟨(World.ownsRow.cellAt h _ (by omega)).trans e, World.ownsRow.frozenAt h _⟩

theorem own_blockI {w : World} {lo : Nat} {e : TypeId} {k : Nat} {v : Value} {n : Nat} {xs : List Value} (h : w.ownsRow lo e k v n xs) : ∀ j, v.ownBlock = some j → lo ≤ j := by
  intro j e1
  rcases h.2 with ⟨hv, _⟩ | ⟨g0, c0, cur, hv, hlo, _⟩
  · rw [hv] at e1; simp [Value.ownBlock] at e1
  · rw [hv] at e1; simp [Value.ownBlock] at e1; omega
theorem ownMonoI {w : World} {lo lo' : Nat} {e : TypeId} {k : Nat} {v : Value} {n : Nat} {xs : List Value} (h : w.ownsRow lo e k v n xs) (hl : lo' ≤ lo) : w.ownsRow lo' e k v n xs := by
  obtain ⟨hx, h2⟩ := h
  rcases h2 with h3 | ⟨g, cap, cur, e1, hlo, hrest⟩
  · exact ⟨hx, .inl h3⟩
  · exact ⟨hx, .inr ⟨g, cap, cur, e1, Nat.le_trans hl hlo, hrest⟩⟩
theorem formI {w : World} {lo : Nat} {e : TypeId} {k n : Nat} {v : Value} {xs : List Value} (h : w.ownsRow lo e k v (n + 1) xs) : ∃ A c, v = .slice A (n + 1) c := by
  obtain ⟨g, c, hv, _⟩ := World.ownsRow.form h (by omega)
  exact ⟨_, c, hv⟩
theorem ownBelow {W W1 : World} {lo : Nat} {e : TypeId} {k n : Nat} {v : Value} {xs : List Value} (h : W.ownsRow lo e k v n xs) (hb : Below W.heap.size W W1) : W1.ownsRow lo e k v n xs := by
  obtain ⟨hx, h2⟩ := h
  rcases h2 with h3 | ⟨g, cap, cur, e1, hlo, hc, hrest⟩
  · exact ⟨hx, .inl h3⟩
  · have hlt : g < W.heap.size := (Array.getElem?_eq_some_iff.1 hc).1
    exact ⟨hx, .inr ⟨g, cap, cur, e1, hlo, (hb.block g hlt).trans hc, hrest⟩⟩
theorem SqS.grow {w W w1 : World} {x y : Wd} {row : Option Nat} (H : SqS w x y W) (hg : W.grownBy w1 row) (hr : ∀ j, row = some j → w.heap.size < j) : SqS w x y w1 :=
  ⟨H.B.grown hg (Nat.le_of_lt H.z) (fun k e => Nat.le_of_lt (hr k e)), Nat.lt_of_lt_of_le H.z hg.size, (hg.cell_far _ H.z (fun e => Nat.lt_irrefl _ (hr _ e.symm))).trans H.c0, (hg.cell_far _ H.z (fun e => Nat.lt_irrefl _ (hr _ e.symm))).trans H.c1⟩

def lenOfQ : Value → Nat
  | .slice _ n _ => n
  | _ => 0
/-- How many numbers are taken. -/
def CntIs (x y : Wd) (f most c : Nat) : Prop := c ≤ most ∧ (∀ j, j < c → seqR x y f j ≠ 0) ∧ (c = most ∨ seqR x y f c = 0)
theorem cnt_one {x y : Wd} {f most c c' : Nat} (h : CntIs x y f most c) (h' : CntIs x y f most c') : c = c' := by
  obtain ⟨h1, h2, h3⟩ := h
  obtain ⟨h1', h2', h3'⟩ := h'
  rcases Nat.lt_trichotomy c c' with hl | rfl | hl
  · rcases h3 with h3 | h3
    · omega
    · exact absurd h3 (h2' c hl)
  · rfl
  · rcases h3' with h3' | h3'
    · omega
    · exact absurd h3' (h2 c' hl)

set_option maxRecDepth 8000 in
set_option maxHeartbeats 4000000 in
theorem specAlong (x y : Wd) (f most : Nat) (w : World) (h : isSeq x y = true) (hf : f ≤ 1000) (hmost : most ≤ 500) :
    Calls Try.prog 18 #[sqV x y, .int .i64 (f : Int), .int .i64 (most : Int)] w fun e w' => (∃ c A cap, e = .returned (.slice A c cap) ∧ Hid (CntIs x y f most c) ∧ ownsI w' w.heap.size (.slice A (firstR x y f c).length cap) (firstR x y f c)) ∧ Below w.heap.size w w' := by
  obtain ⟨i0, hi, hz0, hz1, hz2⟩ := infoI_parts
  have HR := Lib.hid (fun (k : Nat) (hk : k ≤ 900000) w => specRho x y k w h hk)
  have HLe := Lib.hid (seqR_le h f)
  have S0 := sqs0 w x y 32
  have hF0 : Hid ((seqR x y f 0 : Int) = (f : Int)) := Lib.hid rfl
  have hSn : Hid (∀ i, seqR x y f (i + 1) = rhoN x y (seqR x y f i)) := Lib.hid (fun i => rfl)
  clear h
  go_enter Try.func18, Try.ntmps18
  go_wp2
  have O0 : ownsI ((w.alloc (.cells #[.string (bs x), .string (bs y)] 32)).alloc (.cells #[] 2)) (w.heap.size + 1) (.slice (some ⟨w.heap.size + 1, 0, none⟩) 0 0) (firstR x y f 0) := by
    refine ⟨rfl, .inr ⟨w.heap.size + 1, 0, #[], rfl, by omega, ?_, by simp [firstR], by unfold maxLen; omega, rfl, rfl⟩⟩
    have := heap_new (w.alloc (.cells #[.string (bs x), .string (bs y)] 32)) (.cells #[] 2)
    simpa using this
  have S1 := S0.on (belowAlloc (Below.refl _ _) (.cells #[] 2))
  clear S0
  go_loopw [7, 8] (fun s7 s8 wr => ∃ (c : Nat) (A : Option Addr) (cap : Nat), s7 = .slice A c cap ∧ s8 = .int .i64 (seqR x y f c : Int) ∧ c ≤ most ∧ Hid (∀ j, j < c → seqR x y f j ≠ 0) ∧ Hid (ownsI wr (w.heap.size + 1) (.slice A (firstR x y f c).length cap) (firstR x y f c)) ∧ SqS w x y wr) (fun s7 _ _ => most - lenOfQ s7)
  case atStart => exact ⟨0, _, 0, rfl, by rw [hF0.out], by omega, Lib.hid (fun j hj => absurd hj (by omega)), Lib.hid O0, S1⟩
  case round =>
    clear S1 O0
    obtain ⟨c, A, cap, rfl, rfl, hc, HZ, HO, S⟩ := hrel
    have hle := HLe.out c
    by_cases hz : seqR x y f c = 0
    · have HC : Hid (CntIs x y f most c) := Lib.hid ⟨hc, HZ.out, .inr hz⟩
      rw [hz]
      clear hz
      go_wp2
      go_ret
      exact ⟨⟨c, A, cap, rfl, HC, ownMonoI HO.out (by omega)⟩, S.B⟩
    · have d1 : decide ((0 : Int) < (seqR x y f c : Int)) = true := decide_eq_true (by omega)
      have d1' : decide ((seqR x y f c : Int) > 0) = true := d1
      have HNZ := Lib.hid hz
      by_cases hcm : c = most
      · have HC : Hid (CntIs x y f most c) := Lib.hid ⟨hc, HZ.out, .inl hcm⟩
        have d2 : decide ((c : Int) < (most : Int)) = false := decide_eq_false (by omega)
        have d2n : decide (c < most) = false := decide_eq_false (by omega)
        have d2p : (c < most) = False := eq_false (by omega)
        generalize (seqR x y f c : Int) = K at *
        clear hz hcm
        go_wp2
        go_ret
        exact ⟨⟨c, A, cap, rfl, HC, ownMonoI HO.out (by omega)⟩, S.B⟩
      · have d2 : decide ((c : Int) < (most : Int)) = true := decide_eq_true (by omega)
        have HRk := Lib.hid (fun w => HR.out (seqR x y f c) (by omega) w)
        rw [← hSn.out] at HRk
        have HE : Hid (numsV (firstR x y f c) ++ [.int .i64 (seqR x y f c : Int)] = numsV (firstR x y f (c + 1))) := Lib.hid (by rw [firstR_snoc, numsV_snoc])
        have hown := HO.out
        have hlen := firstR_len x y f c
        unfold ownsI at hown
        rw [hlen] at hown
        generalize (seqR x y f c : Int) = K at *
        have hzS := S.z
        clear hz hlen
        go_wp2_with (at_builtin; refine wpList_append_own_at _ rfl _ _ 42 rfl (w.heap.size + 1) 2 i0 (.int .i64 0) 1 8 Try.underlying42 hi hz0 hz1 hz2 rfl (by decide) (.slice A c cap) c (numsV (firstR x y f c)) rfl (World.ownsRow.alloc hown _) ⟨wr.heap.size, 0, none⟩ 1 1 [.int .i64 K] rfl rfl ?c1 ?c2 ?c3 ?c4 ?c5 ?_)
        case c1 => exact cell_one_new _ _ _
        case c2 => intro u hu; simp at hu; subst hu; rfl
        case c3 => unfold maxLen; omega
        case c4 => omega
        case c5 => simp; omega
        intro v' w1 hown' hgrow _ _
        rw [HE.out] at hown'
        have S2 : SqS w x y w1 := (S.on (belowAlloc (Below.refl _ _) (.cells #[.int .i64 K] 2))).grow hgrow (fun j e => by have := own_blockI hown j e; omega)
        obtain ⟨A', cap', rfl⟩ := formI hown'
        clear hown hgrow S hzS
        have k0 := S2.c0
        have k1 := S2.c1
        have HO' := Lib.hid hown'
        clear hown'
        have HZ' : Hid (∀ j, j < c + 1 → seqR x y f j ≠ 0) := Lib.hid (fun j hj => by
          rcases Nat.lt_or_ge j c with h1 | h1
          · exact HZ.out j h1
          · rw [show j = c by omega]; exact HNZ.out)
        go_wp2_with fail
        refine (HRk.out _).mono ?_
        rintro e w2 ⟨rfl, hb2⟩
        have S3 := S2.on hb2
        have HO3 : Hid (ownsI w2 (w.heap.size + 1) (.slice A' (firstR x y f (c + 1)).length cap') (firstR x y f (c + 1))) := Lib.hid (by unfold ownsI; rw [firstR_len]; exact ownBelow HO'.out hb2)
        clear S2 k0 k1 hb2 HO'
        go_wp2
        go_roundw
        case measure => simp [lenOfQ]; omega
        case rel => exact ⟨c + 1, A', cap', rfl, rfl, by omega, HZ', HO3, S3⟩
end Go.Proofs.Ytdemgialagjomaa

/-
  Maps whose keys are angles: what the keys are.
  Contracts: SortAngles, on the program's side.
-/
import Derived.Test.YtnoaahkpcnkbnaaW34
import Derived.Test.YtnoaahkpcnkbnaaOrb2
import Derived.Maps.OwnIn
import Derived.Maps.AppendAt
import Derived.DeepKeys4
import Derived.Maps.OwnSet
import Derived.WalkMore
import Derived.Deep.LoopGhost
namespace Go.Proofs.Ytnoaahkpcnkbnaa
open Go.RowKit

theorem laidOutS : laidOutB Try.prog = true := by kernel_rfl
theorem angRowLtS : 32 < Try.prog.types.size := of_decide_eq_true (by kernel_rfl)
theorem angAtS : Try.prog.keyTypeAt 2 32 = true := by kernel_rfl
theorem angLaw0S : WideMaps.KeyLaw Try.prog 32 := deep_law_laid laidOutS (m := 2) (by omega) angRowLtS angAtS (by rw [Try.underlying32])
theorem angLawS : Maps.Keyed Try.prog 32 := Maps.Keyed.of_law angLaw0S
theorem angKeyTypeS : Try.prog.keyType 32 = true := by kernel_rfl
theorem angCellsS : Try.prog.cellsOf 32 = 2 := by kernel_rfl
theorem intCellsS : Try.prog.cellsOf 2 = 1 := by kernel_rfl
theorem typesSomeS : ∃ m, Try.prog.types.size = m + 1 := ⟨Try.prog.types.size - 1, by have : 0 < Try.prog.types.size := of_decide_eq_true (by kernel_rfl); omega⟩
theorem angKeyS (a b : Int) (ha : (Lit.int .i64 a).wf = true) (hb : (Lit.int .i64 b).wf = true) : keyOf Try.prog 32 (ang a b) = some (kl (a, b)) := by
  obtain ⟨m, hm⟩ := typesSomeS
  have hf : (ang a b).formed Try.prog 32 = true := by simp [Value.formed, Try.underlying32, angCellsS]
  have hk : Try.prog.keyLits (Try.prog.types.size + 1) 32 [.int .i64 a, .int .i64 b] = some [.int .i64 a, .int .i64 b] := by
    rw [hm]
    simp [Program.keyLits, Try.underlying32, Try.underlying2, angCellsS, intCellsS, ha, hb]
  unfold keyOf
  rw [Try.underlying32]
  simp only [angKeyTypeS, hf, Bool.and_self, if_true]
  rw [show (ang a b).cells.toList = [.int .i64 a, .int .i64 b] from rfl, hk]
  rfl
theorem red_wfS {o : Int × Int} (h : Red o) : (Lit.int .i64 o.1).wf = true ∧ (Lit.int .i64 o.2).wf = true := by
  obtain ⟨h1, h2, h3, h4, _⟩ := h
  exact ⟨i64_wf (by omega) (by omega), i64_wf (by omega) (by omega)⟩
theorem kl_injS {a b : Int × Int} (ha : Red a) (hb : Red b) (e : kl a = kl b) : a = b := by
  have h1 := angKeyS a.1 a.2 (red_wfS ha).1 (red_wfS ha).2
  have h2 := angKeyS b.1 b.2 (red_wfS hb).1 (red_wfS hb).2
  have e' : kl (a.1, a.2) = kl (b.1, b.2) := e
  rw [e'] at h1
  have h3 : ang a.1 a.2 = ang b.1 b.2 := angLawS.inj h1 h2
  simp only [Value.agg.injEq, Array.mk.injEq, List.cons.injEq, Value.int.injEq, true_and, and_true] at h3
  exact Prod.ext h3.1 h3.2

theorem zeroBoolS (w : World) : (zeroValue 4).run Try.prog w = .ok (.bool false) w := by kernel_rfl
theorem plainElem_boolS {H : Type} {P : Program} {e : TypeId} (he : P.underlying e = some .bool) {v : Value} {z : DataW H × List MemPlace} (h : plainElem P e v = some z) : ∃ b, v = .bool b ∧ z = (.lit (.bool b), []) := by
  unfold plainElem at h
  rw [he] at h
  cases v <;> simp at h
  exact ⟨_, rfl, h.symm⟩
/-- 'm[k]' in a map[K]bool. -/
theorem wpList_lookup_own_boolS {H : Type} {P : Program} (w : World) {ops : Array Oper} {rest : List Oper} {o : Oper} {a : Act} {Q : Exit → Act → World → Prop}
    (hg : o.guard = none) (m x : Operand) (t : TypeId) (hop : o.op = Op.lookup t m x false)
    (k e : TypeId) (K : Maps.Keyed P k) (ht : P.underlying t = some (.map k e)) (he : P.underlying e = some .bool) (hz : (zeroValue e).run P w = .ok (.bool false) w) (b n : Nat) (D : DataW H)
    (hm : a.eval m = .map (some b)) (hown : w.ownsMap P k (plainElem P e) b n D) (key : Value) (kl : Lit) (hx : a.eval x = key) (hkey : keyOf P k key = some kl) (c : Bool) (hc : D.atKey kl (.lit (.bool false)) = .lit (.bool c))
    (hK : wpList P ops Q rest (a.put o.dst (.bool c)) w) :
    wpList P ops Q (o :: rest) a w := by
  refine wpList_plain hg fun K' hK' => ?_
  obtain ⟨v, ps, hrun, hv⟩ := hown.lookup K ht hz (plainElem_bool he false) hkey
  obtain ⟨c', rfl, hz'⟩ := plainElem_boolS he hv
  simp only [Prod.mk.injEq] at hz'
  rw [hc] at hz'
  have : c = c' := by simpa using hz'.1
  subst this
  unfold Oper.wp
  simp [execOp, hop, hm, hx, hrun, Result.andThen]
  exact hK' _ _ hK

/-- What the map of seen angles reads as. -/
def putS (m : DataW Unit) (p : Int × Int) : DataW Unit := m.put (kl p) (.lit (.bool true))
def sD (O : List (Int × Int)) : DataW Unit := O.foldl putS (.map [])
theorem sD_snoc (O : List (Int × Int)) (p : Int × Int) : sD (O ++ [p]) = (sD O).put (kl p) (.lit (.bool true)) := by simp [sD, List.foldl_append, putS]
theorem putS_at (k : Lit) (z : DataW Unit) : ∀ (O : List (Int × Int)) (m : DataW Unit), Maps.IsMap m → ((O.foldl putS m).atKey k z = .lit (.bool true) ∧ ∃ p ∈ O, kl p = k) ∨ ((O.foldl putS m).atKey k z = m.atKey k z ∧ ∀ p ∈ O, kl p ≠ k)
  | [], m, _ => .inr ⟨rfl, by simp⟩
  | x :: O, m, hm => by
    rw [List.foldl_cons]
    rcases putS_at k z O (putS m x) (hm.put _ _) with ⟨h1, j, hj, hk⟩ | ⟨h1, h2⟩
    · exact .inl ⟨h1, j, List.mem_cons_of_mem _ hj, hk⟩
    · by_cases e : kl x = k
      · refine .inl ⟨?_, x, List.mem_cons_self .., e⟩
        rw [h1]
        unfold putS
        rw [e]
        exact Maps.atKey_put_same hm (e ▸ kl_key _) _ z
      · refine .inr ⟨?_, fun j hj => ?_⟩
        · rw [h1]
          unfold putS
          exact Maps.atKey_put_other (fun h => e h.symm) _ z
        · rw [List.mem_cons] at hj
          rcases hj with rfl | hj
          · exact e
          · exact h2 j hj
theorem sD_at {O : List (Int × Int)} (hO : ∀ q ∈ O, isAng q.1 q.2 = true) {p : Int × Int} (hp : isAng p.1 p.2 = true) : (sD O).atKey (kl p) (.lit (.bool false)) = .lit (.bool (decide (p ∈ O))) := by
  unfold sD
  rcases putS_at (kl p) (.lit (.bool false)) O _ Maps.isMap_empty with ⟨h1, j, hj, e⟩ | ⟨h1, h2⟩
  · have : j = p := kl_injS (isAng_yes (hO j hj)) (isAng_yes hp) e
    subst this
    rw [h1, decide_eq_true hj]
  · rw [h1, decide_eq_false (fun h => h2 p h rfl)]
    rfl

/-- What holds when k angles have been looked at: O: those that were new; J: the block of the map. -/
structure SeenI (w : World) (J : Nat) (l : List (Int × Int)) (k : Nat) (O : List (Int × Int)) (v : Value) (W : World) : Prop where
  le : O.length ≤ k
  nd : O.Nodup
  mem : ∀ q, q ∈ O ↔ q ∈ l.take k
  own : W.ownsRow (J + 1) 32 2 v O.length (flatA O)
  mp : W.ownsMap Try.prog 32 (plainElem Try.prog 4) J O.length (sD O)
  B : Below w.heap.size w W
  lo : w.heap.size ≤ J
theorem cell_two_new (w : World) (a b : Value) (t : TypeId) : ∀ j u, [a, b][j]? = some u → (w.alloc (.cells #[a, b] t)).cell? ((⟨w.heap.size, 0, none⟩ : Addr).add j) = some u := by
  intro j u hj
  match j, hj with
  | 0, hj => simp at hj; subst hj; simp [Addr.add]
  | 1, hj => simp at hj; subst hj; simp [Addr.add]
theorem AngOwn.loS {w : World} {lo lo' : Nat} {A : Option Addr} {l : List (Int × Int)} (h : AngOwn w lo A l) (hl : lo' ≤ lo) : AngOwn w lo' A l := by
  intro hn
  obtain ⟨b, off, e, h1, h2, hc⟩ := h hn
  exact ⟨b, off, e, Nat.le_trans hl h1, h2, hc⟩
theorem cellGS {W W' : World} {row : Option Nat} (hg : W.grownBy W' row) {b o : Nat} {v : Value} (hlt : b < W.heap.size) (hne : some b ≠ row) (hc : W.cell? ⟨b, o, none⟩ = some v) : W'.cell? ⟨b, o, none⟩ = some v :=
  (World.cell?_of_block (hg.block b hlt hne)).trans hc
theorem ownNone {w : World} {lo : Nat} {e : TypeId} {k : Nat} : w.ownsRow lo e k (.slice none 0 0) 0 [] := ⟨by simp, .inl ⟨rfl, rfl⟩⟩

set_option maxRecDepth 100000 in
set_option maxHeartbeats 2000000 in
theorem implSortA0 (hSF : ∀ (lo : Nat) (A : Option Addr) (n cap : Nat) (l : List (Int × Int)) (W : World), W.ownsRow lo 32 2 (.slice A n cap) n (flatA l) → l.length = n → (∀ p ∈ l, isAng p.1 p.2 = true) → n ≤ 1100000 →
      Calls Try.prog 63 #[.slice A n cap, .func (Fn.func 42) #[] #[]] W fun e w' => e = .returned (.tuple #[]) ∧ Hid (∃ l' : List (Int × Int), l'.Perm l ∧ (l'.Pairwise fun x y => lessA y x = false) ∧ w'.ownsRow lo 32 2 (.slice A n cap) n (flatA l') ∧ Below lo W w'))
    (A : Option Addr) (len cap : Nat) (l : List (Int × Int)) (w : World) (hr : AngRow w w.heap.size A l) (hl : l.length = len) (hm : len ≤ 1100000) (R : List (Int × Int)) (C : Int) (h : (allAng l = true ∧ R = insAll l ∧ C = 0) ∨ (allAng l = false ∧ R = [] ∧ C = 1)) :
    Calls Try.prog 61 #[.slice A len cap] w (ResAng w R C) := by
  have HSF := Lib.hid hSF
  clear hSF
  have hmm := @run_makeMap Try.prog
  have HA := Lib.hid (areAng A len cap l w hr hl (by omega))
  rcases h with ⟨ha, rfl, rfl⟩ | ⟨ha, rfl, rfl⟩
  · rw [ha] at HA
    have HAll := Lib.hid (fun q (hq : q ∈ l) => allAng_mem ha hq)
    have HSame := Lib.hid (fun r => sort_same (r := r) ha)
    have HR := Lib.hid hr
    have HL := Lib.hid hl
    obtain ⟨i0, hi, hz0, hz1, hz2⟩ := infoAg_parts infoAg
    clear hr hl ha
    go_enter Try.func61, Try.ntmps61
    go_wp2_with fail
    refine HA.out.mono ?_
    rintro e w1 ⟨rfl, hb1⟩
    have HS : Hid (SeenI w w1.heap.size l 0 [] (.slice none 0 0) (w1.alloc (.map #[] 0))) := Lib.hid ⟨Nat.le_refl _, List.nodup_nil, by simp, ownNone, World.ownsMap_made _ _ _ _, belowAlloc hb1 _, hb1.size⟩
    clear HA hb1
    obtain ⟨J, hJ⟩ : ∃ J, w1.heap.size = J := ⟨_, rfl⟩
    rw [hJ] at HS
    go_wp2_with fail
    clear hJ hmm
    go_loopg [4, 14] len (fun g s4 s14 wr => ∃ (k : Nat) (O : List (Int × Int)) (A' : Option Addr) (cap' : Nat), k + g = len ∧ s14 = .int .i64 k ∧ s4 = .slice A' O.length cap' ∧ Hid (SeenI w J l k O (.slice A' O.length cap') wr))
    case atStart => exact ⟨0, [], none, 0, by omega, rfl, rfl, HS⟩
    case round =>
      clear HS
      obtain ⟨k, O, A', cap', hkg, rfl, rfl, HI⟩ := hrel
      have HO : Hid (∀ p ∈ O, isAng p.1 p.2 = true) := Lib.hid (fun p hp => HAll.out p (List.mem_of_mem_take ((HI.out.mem p).1 hp)))
      have hOl : O.length ≤ 1100000 := by have := HI.out.le; omega
      cases gk with
      | zero =>
        obtain rfl : k = len := by omega
        have e2 : l.take k = l := by rw [← HL.out, List.take_length]
        go_wp2_with fail
        refine (HSF.out (J + 1) A' O.length cap' O wr HI.out.own rfl HO.out hOl).mono ?_
        rintro e w5 ⟨rfl, H5⟩
        obtain ⟨l', hp, hs, ho, hb⟩ := H5.out
        have hE : l' = insAll l := HSame.out l' (fun q => by rw [hp.mem_iff, HI.out.mem q, e2]) (hp.nodup_iff.2 HI.out.nd) (fun i j x y hij hx hy => by
          obtain ⟨hi', rfl⟩ := List.getElem?_eq_some_iff.1 hx
          obtain ⟨hj', rfl⟩ := List.getElem?_eq_some_iff.1 hy
          exact (List.pairwise_iff_getElem.1 hs) i j hi' hj' hij)
        have hLn : l'.length = O.length := hp.length_eq
        subst hE
        have HW := Lib.hid ((ownA_of hLn ho).loS (lo' := w.heap.size) (by have := HI.out.lo; omega))
        have HB := Lib.hid (HI.out.B.trans (hb.mono (by have := HI.out.lo; omega)))
        have HLn := Lib.hid hLn
        clear hp hs ho hb hLn H5 HI e2
        go_wp2
        go_ret2
        exact ⟨A', cap', by rw [HLn.out]; rfl, HW.out, HB.out⟩
      | succ g =>
        have hlt : k < len := by omega
        obtain ⟨⟨n, d⟩, hq⟩ : ∃ q, l[k]? = some q := ⟨_, List.getElem?_eq_getElem (by have := HL.out; omega)⟩
        obtain ⟨b0, off, rfl, hb0, hc⟩ := HR.out (by rintro rfl; cases hq)
        obtain ⟨x0, x1⟩ := hc k n d hq
        have y0 := cellThru HI.out.B hb0 x0
        have y1 := cellThru HI.out.B hb0 x1
        have hp := HAll.out (n, d) (List.mem_of_getElem? hq)
        have HK := Lib.hid (angKeyS n d (red_wfS (isAng_yes hp)).1 (red_wfS (isAng_yes hp)).2)
        have HC := Lib.hid (sD_at HO.out hp)
        have HQ := Lib.hid hq
        have HLm : Hid (O.length < maxLen) := Lib.hid (by unfold maxLen; omega)
        have hJw : J < wr.heap.size := HI.out.mp.lt
        have hlo := HI.out.lo
        have HM1 := Lib.hid (HI.out.mp.alloc (.cells #[.int .i64 n, .int .i64 d] 32))
        obtain ⟨t, ht⟩ : ∃ t, decide ((n, d) ∈ O) = t := ⟨_, rfl⟩
        rw [ht] at HC
        have HT := Lib.hid ht
        clear ht hq hc x0 x1 hp
        cases t
        · have hnm : (n, d) ∉ O := of_decide_eq_false HT.out
          have HN := Lib.hid hnm
          clear hnm HT
          go_wp2_with (first
            | (at_lookup; refine wpList_lookup_own_boolS _ rfl _ _ 73 rfl 32 4 angLawS Try.underlying73 Try.underlying4 (zeroBoolS _) J O.length _ rfl HM1.out _ _ rfl HK.out _ HC.out ?_)
            | (at_mapUpdate; refine wpList_mapUpdate_own _ rfl _ _ _ 73 rfl 32 4 angLawS Try.underlying73 _ J O.length _ rfl HM1.out HLm.out _ _ _ rfl rfl HK.out _ [] (plainElem_bool Try.underlying4 true) ?_; intro w6 hm6 hg6; have k0 : w6.cell? ⟨wr.heap.size, 0, none⟩ = some (.int .i64 n) := (cellGS hg6 (by simp) (fun e => by have := Option.some.inj e; omega) (by simp [go_sem])); have k1 : w6.cell? ⟨wr.heap.size, 1, none⟩ = some (.int .i64 d) := (cellGS hg6 (by simp) (fun e => by have := Option.some.inj e; omega) (by simp [go_sem])); have HM6 := Lib.hid (And.intro hm6 hg6); have s6 := hg6.size; have HO6 := Lib.hid (ownTurnL (HI.out.own.alloc _) hg6 (fun j hj => by have := Option.some.inj hj; omega)); clear hm6 hg6)
            | (at_builtin; refine wpList_append_own_at _ rfl _ _ 26 rfl (J + 1) 32 i0 (.agg #[.int .i64 0, .int .i64 0]) 2 16 Try.underlying26 hi hz0 hz1 hz2 rfl (by decide) _ _ _ rfl (World.ownsRow.alloc HO6.out _) ⟨w6.heap.size, 0, none⟩ 1 1 [.int .i64 n, .int .i64 d] rfl rfl ?c1 ?c2 ?c3 ?c4 ?c5 ?_))
          case c1 => exact cell_two_new _ _ _ _
          case c2 => intro u hu; simp at hu; rcases hu with rfl | rfl <;> rfl
          case c3 => unfold maxLen; omega
          case c4 => omega
          case c5 => simp at s6 ⊢; omega
          intro v' w7 hown' hgrow _ _
          obtain ⟨gn, capn, rfl⟩ := ownsRow_succ hown'
          have B6 : Below w.heap.size w w6 := (belowAlloc HI.out.B _).grown HM6.out.2 (belowAlloc HI.out.B _).size (fun j hj => by have := Option.some.inj hj; omega)
          have B7 : Below w.heap.size w w7 := (belowAlloc B6 _).grown hgrow (belowAlloc B6 _).size (fun j hj => by have := own_blockL HO6.out j hj; omega)
          have M7 := (HM6.out.1.alloc (.cells #[.int .i64 n, .int .i64 d] 32)).kept hgrow (fun e => by have := own_blockL HO6.out _ e.symm; omega)
          have e1 : (O ++ [((n, d) : Int × Int)]).length = O.length + 1 := by simp
          have e2 : flatA (O ++ [((n, d) : Int × Int)]) = flatA O ++ [.int .i64 n, .int .i64 d] := by rw [flatA_app]; rfl
          have HI7 : Hid (SeenI w J l (k + 1) (O ++ [(n, d)]) (.slice (some ⟨gn, 0, none⟩) (O.length + 1) capn) w7) := Lib.hid ⟨by rw [e1]; have := HI.out.le; omega, by
              rw [List.nodup_append]
              refine ⟨HI.out.nd, by simp, ?_⟩
              intro a ha b hb e
              rw [List.mem_singleton] at hb
              rw [e, hb] at ha
              exact HN.out ha, fun q => by
              rw [List.take_add_one, HQ.out, Option.toList_some, List.mem_append, List.mem_append, ← HI.out.mem q], by rw [e1, e2]; exact hown', by rw [e1, sD_snoc]; exact M7, B7, hlo⟩
          have HE1 := Lib.hid e1
          clear hown' hgrow B6 B7 M7 e1 e2 HM6 HO6 HM1 HI HN k0 k1 y0 y1
          go_wp2
          go_roundg g
          case measure => omega
          case rel => exact ⟨k + 1, O ++ [(n, d)], some ⟨gn, 0, none⟩, capn, by omega, by go_num, by rw [HE1.out], by rw [HE1.out]; exact HI7⟩
        · have hm : (n, d) ∈ O := of_decide_eq_true HT.out
          have HQ2 : Hid (SeenI w J l (k + 1) O (.slice A' O.length cap') (wr.alloc (.cells #[.int .i64 n, .int .i64 d] 32))) := Lib.hid ⟨by have := HI.out.le; omega, HI.out.nd, fun q => by
            rw [List.take_add_one, HQ.out, Option.toList_some, List.mem_append, List.mem_singleton, ← HI.out.mem q]
            exact ⟨.inl, fun h => h.elim id (fun e => e ▸ hm)⟩, HI.out.own.alloc _, HM1.out, belowAlloc HI.out.B _, hlo⟩
          clear hm HT
          go_wp2_with (at_lookup; refine wpList_lookup_own_boolS _ rfl _ _ 73 rfl 32 4 angLawS Try.underlying73 Try.underlying4 (zeroBoolS _) J O.length _ rfl HM1.out _ _ rfl HK.out _ HC.out ?_)
          go_roundg g
          case measure => omega
          case rel => exact ⟨k + 1, O, A', cap', by omega, by go_num, rfl, HQ2⟩
  · rw [ha] at HA
    clear hr hl ha hmm
    go_enter Try.func61, Try.ntmps61
    go_wp2_with fail
    refine HA.out.mono ?_
    rintro e w1 ⟨rfl, hb1⟩
    go_wp2
    go_ret2
    exact ⟨none, 0, rfl, (fun h => absurd rfl h), hb1⟩
end Go.Proofs.Ytnoaahkpcnkbnaa

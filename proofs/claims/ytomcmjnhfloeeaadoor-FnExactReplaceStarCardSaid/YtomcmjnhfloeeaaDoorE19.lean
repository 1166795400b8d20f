/-
  Contracts: letters put in the place of stars; ReplaceStar, on both sides; written by genE19.py.
-/
import Derived.Test.YtomcmjnhfloeeaaDoorE14
import Derived.Test.YtomcmjnhfloeeaaDoorD8
import Derived.Test.YtomcmjnhfloeeaaDoorShelfR
import Derived.Lib.ReplaceLaws
namespace Go.Proofs.YtomcmjnhfloeeaaDoor
open Go.RowKit

/-- The word with c in the place of each star. -/
def fillW (c : UInt8) (x : Wd) : Wd := x.map fun b => if b = 42 then c else b
theorem fillW_len (c : UInt8) (x : Wd) : (fillW c x).length = x.length := by simp [fillW]
theorem fill_no {c : UInt8} : ∀ {x : Wd}, (∀ i : Nat, x[i]? ≠ some (42 : UInt8)) → fillW c x = x
  | [], _ => rfl
  | b :: l, h => by
    have hb : b ≠ 42 := fun e => h 0 (by simp [e])
    have := fill_no (c := c) (x := l) (fun i => by have := h (i + 1); simpa using this)
    unfold fillW at this ⊢
    simp [hb, this]
theorem fill_app (c : UInt8) (a b : Wd) : fillW c (a ++ b) = fillW c a ++ fillW c b := by simp [fillW]
theorem rep_fill {c : UInt8} : ∀ (f : Nat) (s : Wd), s.length < f → Lib.replaceK [42] [c] (Lib.countFrom [42] f s) s = fillW c s
  | 0, s, h => absurd h (by omega)
  | f + 1, s, h => by
    have hge := Lib.index_ge s [42]
    by_cases hm : Lib.index s [42] = -1
    · rw [Lib.countFrom, if_pos (by rw [hm]; rfl), Lib.replaceK]
      refine (fill_no fun i => ?_).symm
      rw [Lib.index_one] at hm
      exact Lib.indexByte_none hm i
    · obtain ⟨i, hi⟩ : ∃ i : Nat, Lib.index s [42] = i := ⟨(Lib.index s [42]).toNat, by omega⟩
      have hi2 : Lib.indexByte s 42 = i := by rw [← Lib.index_one]; exact hi
      obtain ⟨h1, h2⟩ := Lib.indexByte_some hi2
      have hlt : i < s.length := by
        rcases Nat.lt_or_ge i s.length with h3 | h3
        · exact h3
        · rw [List.getElem?_eq_none h3] at h1; cases h1
      rw [Lib.countFrom, if_neg (by rw [beq_iff_eq]; exact hm), Nat.add_comm, Lib.replaceK_hit _ _ _ _ i hi, hi, Int.toNat_natCast]
      rw [show ([42] : Wd).length = 1 from rfl, rep_fill f (s.drop (i + 1)) (by rw [List.length_drop]; omega)]
      have hs : s = s.take i ++ [42] ++ s.drop (i + 1) := by
        have e1 : s.drop i = 42 :: s.drop (i + 1) := by
          rw [List.drop_eq_getElem_cons hlt]
          congr 1
          rw [List.getElem?_eq_getElem hlt] at h1
          exact Option.some.inj h1
        rw [List.append_assoc, List.singleton_append, ← e1, List.take_append_drop]
      have hno : fillW c (s.take i) = s.take i := fill_no fun j => by
        rw [List.getElem?_take]
        split
        · rename_i hj; exact h2 j hj
        · intro e; cases e
      conv => rhs; rw [hs]
      rw [fill_app, fill_app, hno]
      rfl
theorem rep_all {c : UInt8} (hc : c ≠ 42) (s : Wd) : Lib.replaceAll s [42] [c] = fillW c s := by
  unfold Lib.replaceAll Lib.replace Lib.replaceNum
  rw [if_neg (by simp; exact fun e => hc e.symm), if_pos (.inl (by omega))]
  exact rep_fill _ s (by omega)

/-- The variable of the library's own, as the contract of ReplaceAll asks it. -/
def LibC (W : World) : Prop := ∃ m : Int, W.cell? ⟨Tryd.laysM155_ren.g 1, 0, none⟩ = some (.int .i64 m)
theorem libC_of {W : World} (h : W.ShapedOpen Tryd.prog) : LibC W := Tryd.laysM155.s1_3 W h
theorem cellLt {W : World} {p : Addr} {v : Value} (h : W.cell? p = some v) : p.block < W.heap.size := by
  rcases Nat.lt_or_ge p.block W.heap.size with h1 | h1
  · exact h1
  · unfold World.cell? at h
    rw [Array.getElem?_eq_none h1] at h
    cases h
theorem LibC.on {W W1 : World} (h : LibC W) (hb : Below W.heap.size W W1) : LibC W1 := by
  obtain ⟨m, hm⟩ := h
  exact ⟨m, cellThru hb (cellLt hm) hm⟩
theorem repC (x : Wd) (c : UInt8) (hx : x.length ≤ 1048576) (hc : c ≠ 42) (w : World) (hg : LibC w) :
    Calls Tryd.prog 41 #[.string (bs x), .string ⟨#[42]⟩, .string (bs [c])] w fun e w' => e = .returned (.string (bs (fillW c x))) ∧ Below w.heap.size w w' := by
  obtain ⟨m, hm⟩ := hg
  have hcnt := Lib.countB_mul_le (bs [42]) (by rw [bs_size]; exact Nat.le_refl _) (bs x).size (bs x) (Nat.le_refl _)
  have h := Any.strings_ReplaceAll { Tryd.laysM155 with } Tryd.Builder_Extra_M155 (bs x) (bs [42]) (bs [c]) m w (by rw [bs_size]; omega) hm (by rw [bs_size]; exact Nat.le_refl _) (by
    rw [bs_size] at hcnt ⊢
    rw [bs_size] at hcnt ⊢
    simp only [List.length_cons, List.length_nil] at hcnt ⊢
    omega)
  rw [bs_data, bs_data, bs_data, rep_all hc] at h
  exact h

def bvQ (l : Wd) : List Value := l.map fun u => Value.int .u8 (u.toNat : Int)
theorem bvQ_at (l : Wd) {i : Nat} (hi : i < l.length) : (bvQ l)[i]? = some (.int .u8 ((l.getD i 0).toNat : Int)) := by
  unfold bvQ
  rw [List.getElem?_map, List.getElem?_eq_getElem hi, List.getD_eq_getElem?_getD, List.getElem?_eq_getElem hi]
  rfl
def numsQ (x : Wd) : List Int := x.map fun c => (c.toNat : Int)
theorem numsQ_str (x : Wd) : strOfNums (numsQ x) = bs x := by
  unfold strOfNums numsQ bs
  congr 2
  rw [List.map_map]
  conv => rhs; rw [← List.map_id x]
  apply List.map_congr_left
  intro a _
  simp
theorem numsQ_at (x : Wd) (i : Nat) : (numsQ x).getD i 0 = ((x.getD i 0).toNat : Int) := by
  simp [numsQ]
  cases x[i]? <;> simp
theorem bytesAreQ (x : Wd) (W : World) (g off : Nat) (c : Nat) (n : Nat) (hn : x.length = n) (h : ∀ i, i < n → W.cell? ⟨g, off + i, none⟩ = some (.int .u8 ((x.getD i 0).toNat : Int))) :
    (convert 74 9 (.slice (some ⟨g, off, none⟩) n c)).run Tryd.prog W = .ok (.string (bs x)) W := by
  have := run_convert_bytes_arg (P := Tryd.prog) W 74 5 Tryd.underlying74 Tryd.underlying5 g off n c (numsQ x) (by simp [numsQ, hn]) (fun i hi => by rw [numsQ_at]; exact h i hi) 9 Tryd.underlying9
  rw [this, numsQ_str]
theorem infoU : (Tryd.prog.info? 5).map (fun i => (i.zero, i.size, i.bytes)) = some (some (.int .u8 0), 1, 1) := by kernel_rfl
theorem infoU_parts : ∃ i : TypeInfo, Tryd.prog.info? 5 = some i ∧ i.zero = some (.int .u8 0) ∧ i.size = 1 ∧ i.bytes = 1 := by
  have h := infoU
  cases hi : Tryd.prog.info? 5 with
  | none => rw [hi] at h; cases h
  | some i =>
    rw [hi] at h
    simp at h
    exact ⟨i, rfl, h.1, h.2.1, h.2.2⟩
theorem fill_take {c : UInt8} {x : Wd} {k : Nat} (h : k < x.length) : (fillW c x).take (k + 1) = (fillW c x).take k ++ [if x.getD k 0 = 42 then c else x.getD k 0] := by
  rw [List.take_add_one]
  congr 1
  unfold fillW
  rw [List.getElem?_map, List.getElem?_eq_getElem h, List.getD_eq_getElem?_getD, List.getElem?_eq_getElem h]
  rfl
theorem bvQ_app (a b : Wd) : bvQ (a ++ b) = bvQ a ++ bvQ b := by simp [bvQ]
theorem formB {w : World} {lo : Nat} {e : TypeId} {k n : Nat} {v : Value} {xs : List Value} (h : w.ownsRow lo e k v (n + 1) xs) : ∃ g c, v = .slice (some ⟨g, 0, none⟩) (n + 1) c := by
  obtain ⟨g, c, hv, _⟩ := World.ownsRow.form h (by omega)
  exact ⟨g, c, hv⟩

set_option maxRecDepth 8000 in
set_option maxHeartbeats 4000000 in
theorem specFill (x : Wd) (c : UInt8) (w : World) (hx : x.length ≤ 64) :
    Calls Tryd.prog 38 #[.string (bs x), .int .u8 (c.toNat : Int)] w fun e w' => e = .returned (.string (bs (fillW c x))) ∧ Below w.heap.size w w' := by
  obtain ⟨i0, hi, hz0, hz1, hz2⟩ := infoU_parts
  have hlen := fun W => lenS 9 3 x Tryd.underlying9 W
  obtain ⟨n, hn⟩ : ∃ n, x.length = n := ⟨_, rfl⟩
  have HI : Hid (∀ k, k < n → ∀ W, (Instr.index 9 (.string (bs x)) (.int .i64 (k : Int))).run Tryd.prog W = .ok (.int .u8 ((x.getD k 0).toNat : Int)) W) := Lib.hid (fun k hk W => idxS x k (k : Int) (by omega) rfl W)
  have HTk : Hid (∀ k, k < n → bvQ ((fillW c x).take (k + 1)) = bvQ ((fillW c x).take k) ++ [.int .u8 ((if x.getD k 0 = 42 then c else x.getD k 0).toNat : Int)]) := Lib.hid (fun k hk => by rw [fill_take (by omega), bvQ_app]; rfl)
  have HAll : Hid ((fillW c x).take n = fillW c x ∧ (fillW c x).length = n) := Lib.hid ⟨by rw [← hn, ← fillW_len c x, List.take_length], by rw [fillW_len, hn]⟩
  rw [hn] at hlen hx
  go_enter Tryd.func38, Tryd.ntmps38
  go_wp2_with fail
  have O0 : (w.alloc (.cells #[] 5)).ownsRow w.heap.size 5 1 (.slice (some ⟨w.heap.size, 0, none⟩) 0 0) 0 (bvQ ((fillW c x).take 0)) :=
    ⟨rfl, .inr ⟨w.heap.size, 0, #[], rfl, Nat.le_refl _, heap_new w (.cells #[] 5), by first | rfl | simp, by unfold maxLen; omega, rfl, rfl⟩⟩
  have B0 : Below w.heap.size w (w.alloc (.cells #[] 5)) := belowAlloc (Below.refl _ _) _
  clear hn
  go_loopw [5, 6] (fun s5 s6 wr => ∃ (k b1 c1 : Nat), k ≤ n ∧ s6 = .int .i64 (k : Int) ∧ s5 = .slice (some ⟨b1, 0, none⟩) k c1 ∧ Hid (wr.ownsRow w.heap.size 5 1 (.slice (some ⟨b1, 0, none⟩) k c1) k (bvQ ((fillW c x).take k))) ∧ Below w.heap.size w wr) (fun _ s6 _ => n - (intOf s6).toNat)
  case atStart => exact ⟨0, w.heap.size, 0, by omega, rfl, rfl, Lib.hid O0, B0⟩
  case round =>
    clear O0 B0
    obtain ⟨k, b1, c1, hk, rfl, rfl, HO, HB⟩ := hrel
    by_cases hlt : k < n
    · have d1 : decide ((k : Int) < (n : Int)) = true := decide_eq_true (by omega)
      have d1n : decide (k < n) = true := decide_eq_true hlt
      have d1p : (k < n) = True := eq_true hlt
      have i3 := HI.out k hlt
      have HT := Lib.hid (HTk.out k hlt)
      have hbs := HB.size
      by_cases e : x.getD k 0 = 42
      · rw [if_pos e] at HT
        have z1 : ((x.getD k 0).toNat : Int) = 42 := by rw [e]; rfl
        simp only [z1] at i3
        generalize ((c.toNat : Nat) : Int) = ch at *
        clear e
        go_wp2_with (at_builtin; refine wpList_append_own_at _ rfl _ _ 74 rfl w.heap.size 5 i0 (.int .u8 0) 1 1 Tryd.underlying74 hi hz0 hz1 hz2 rfl (by decide) _ _ _ rfl (World.ownsRow.alloc HO.out _) ⟨wr.heap.size, 0, none⟩ 1 1 [.int .u8 ch] rfl rfl ?c1 ?c2 ?c3 ?c4 ?c5 ?_)
        case c1 => exact cell_one_new _ _ _
        case c2 => intro u hu; simp at hu; subst hu; rfl
        case c3 => unfold maxLen; omega
        case c4 => omega
        case c5 => simp; omega
        intro v' w1 hown' hgrow _ _
        rw [← HT.out] at hown'
        have B1 : Below w.heap.size w w1 := (belowAlloc HB _).grown hgrow (by simp; omega) (fun j e => own_blockI HO.out j e)
        obtain ⟨g', c', rfl⟩ := formB hown'
        have HO' := Lib.hid hown'
        clear hown' hgrow HO HT
        go_wp2
        go_roundw
        case rel => exact ⟨k + 1, g', c', by omega, by go_num, rfl, HO', B1⟩
        case measure => simp [intOf]; omega
      · rw [if_neg e] at HT
        have z1 : (((x.getD k 0).toNat : Int) == 42) = false := (num42.2 e).1
        have z2 : ¬ ((x.getD k 0).toNat : Int) = 42 := (num42.2 e).2
        generalize ((x.getD k 0).toNat : Int) = ch at *
        clear e
        go_wp2_with (at_builtin; refine wpList_append_own_at _ rfl _ _ 74 rfl w.heap.size 5 i0 (.int .u8 0) 1 1 Tryd.underlying74 hi hz0 hz1 hz2 rfl (by decide) _ _ _ rfl (World.ownsRow.alloc HO.out _) ⟨wr.heap.size, 0, none⟩ 1 1 [.int .u8 ch] rfl rfl ?c1 ?c2 ?c3 ?c4 ?c5 ?_)
        case c1 => exact cell_one_new _ _ _
        case c2 => intro u hu; simp at hu; subst hu; rfl
        case c3 => unfold maxLen; omega
        case c4 => omega
        case c5 => simp; omega
        intro v' w1 hown' hgrow _ _
        rw [← HT.out] at hown'
        have B1 : Below w.heap.size w w1 := (belowAlloc HB _).grown hgrow (by simp; omega) (fun j e => own_blockI HO.out j e)
        obtain ⟨g', c', rfl⟩ := formB hown'
        have HO' := Lib.hid hown'
        clear hown' hgrow HO HT
        go_wp2
        go_roundw
        case rel => exact ⟨k + 1, g', c', by omega, by go_num, rfl, HO', B1⟩
        case measure => simp [intOf]; omega
    · obtain rfl : k = n := by omega
      have HR : Hid (bs ((fillW c x).take k) = bs (fillW c x)) := Lib.hid (by rw [HAll.out.1])
      have cv := bytesAreQ ((fillW c x).take k) wr b1 0 c1 k (by rw [HAll.out.1]; exact HAll.out.2) (fun i hi => by
        have hc := World.ownsRow.cellAt HO.out i (by omega)
        rw [Nat.zero_add]
        refine hc.trans (bvQ_at _ (by rw [HAll.out.1, HAll.out.2]; exact hi)))
      rw [HR.out] at cv
      clear HI HTk HAll HR HO
      go_wp2
      go_ret
      exact ⟨rfl, HB⟩

/-- The box of a sequence and, behind it, the cell of a result. -/
structure BQ (w : World) (x y : Wd) (W : World) : Prop where
  lt : w.heap.size + 1 < W.heap.size
  below : Below w.heap.size w W
  b0 : W.cell? ⟨w.heap.size, 0, none⟩ = some (.string (bs x))
  b1 : W.cell? ⟨w.heap.size, 1, none⟩ = some (.string (bs y))
  c0 : ∃ v, W.cell? ⟨w.heap.size + 1, 0, none⟩ = some v
  c1 : ∃ v, W.cell? ⟨w.heap.size + 1, 1, none⟩ = some v
  f0 : W.frozen? ⟨w.heap.size + 1, 0, none⟩ = false
  f1 : W.frozen? ⟨w.heap.size + 1, 1, none⟩ = false
theorem BQ.of {w W : World} {x y : Wd} (h : BR w x y W) : BQ w x y W := ⟨h.lt, h.below, h.b0, h.b1, ⟨_, h.c0⟩, ⟨_, h.c1⟩, h.f0, h.f1⟩
theorem BQ.on {w W w1 : World} {x y : Wd} (h : BQ w x y W) (hb : Below W.heap.size W w1) : BQ w x y w1 := by
  have hl := h.lt
  obtain ⟨v0, h0⟩ := h.c0
  obtain ⟨v1, h1⟩ := h.c1
  exact ⟨Nat.lt_of_lt_of_le h.lt hb.size, belowNext h.below hb, cellThru hb (by omega) h.b0, cellThru hb (by omega) h.b1, ⟨v0, cellThru hb h.lt h0⟩, ⟨v1, cellThru hb h.lt h1⟩, frozThru hb h.lt h.f0, frozThru hb h.lt h.f1⟩
theorem putQ {W : World} {b : Nat} {u0 u1 : Value} (h0 : ∃ v, W.cell? ⟨b, 0, none⟩ = some v) (h1 : ∃ v, W.cell? ⟨b, 1, none⟩ = some v) :
    ((W.setCell ⟨b, 0, none⟩ u0).setCell ⟨b, 1, none⟩ u1).cell? ⟨b, 0, none⟩ = some u0 ∧ ((W.setCell ⟨b, 0, none⟩ u0).setCell ⟨b, 1, none⟩ u1).cell? ⟨b, 1, none⟩ = some u1 := by
  obtain ⟨v0, h0⟩ := h0
  obtain ⟨v1, h1⟩ := h1
  refine ⟨?_, ?_⟩
  · rw [World.cell?_setCell_other _ _ _ _ (by simp)]
    exact World.cell?_setCell_same _ _ _ h0
  · have h1' : (W.setCell ⟨b, 0, none⟩ u0).cell? ⟨b, 1, none⟩ = some v1 := by rw [World.cell?_setCell_other _ _ _ _ (by simp)]; exact h1
    exact World.cell?_setCell_same _ _ _ h1'
theorem BQ.put {w W : World} {x y : Wd} (h : BQ w x y W) (u0 u1 : Value) : BQ w x y ((W.setCell ⟨w.heap.size + 1, 0, none⟩ u0).setCell ⟨w.heap.size + 1, 1, none⟩ u1) := by
  obtain ⟨q0, q1⟩ := putQ (u0 := u0) (u1 := u1) h.c0 h.c1
  refine ⟨by simpa using h.lt, (h.below.setCell (by simp) _).setCell (by simp) _, ?_, ?_, ⟨_, q0⟩, ⟨_, q1⟩, by simpa using h.f0, by simpa using h.f1⟩
  · rw [World.cell?_setCell_other _ _ _ _ (by simp), World.cell?_setCell_other _ _ _ _ (by simp)]; exact h.b0
  · rw [World.cell?_setCell_other _ _ _ _ (by simp), World.cell?_setCell_other _ _ _ _ (by simp)]; exact h.b1
/-- .. and the library's variable. -/
structure RpS (w : World) (x y : Wd) (W : World) : Prop where
  Q : BQ w x y W
  m : LibC W
theorem RpS.on {w W w1 : World} {x y : Wd} (h : RpS w x y W) (hb : Below W.heap.size W w1) : RpS w x y w1 := ⟨h.Q.on hb, h.m.on hb⟩

/-- What ReplaceStar answers. -/
def RsIs (x y l X Y : Wd) (C : Int) : Prop :=
  (isSeq x y = false ∧ X = [] ∧ Y = [] ∧ C = 1) ∨ (isSeq x y = true ∧ ¬ (l = [48] ∨ l = [49]) ∧ X = [] ∧ Y = [] ∧ C = 2) ∨
    (isSeq x y = true ∧ (∃ c : UInt8, l = [c] ∧ (c = 48 ∨ c = 49) ∧ canon (fillW c x) (fillW c y) = (X, Y)) ∧ C = 0)
theorem rs_ex (x y l : Wd) : ∃ X Y C, RsIs x y l X Y C := by
  cases h : isSeq x y
  · exact ⟨[], [], 1, .inl ⟨h, rfl, rfl, rfl⟩⟩
  · by_cases h2 : l = [48] ∨ l = [49]
    · rcases h2 with h2 | h2
      · exact ⟨_, _, 0, .inr (.inr ⟨h, ⟨48, h2, .inl rfl, rfl⟩, rfl⟩)⟩
      · exact ⟨_, _, 0, .inr (.inr ⟨h, ⟨49, h2, .inr rfl, rfl⟩, rfl⟩)⟩
    · exact ⟨[], [], 2, .inr (.inl ⟨h, h2, rfl, rfl, rfl⟩)⟩
theorem str_ne {l k : Wd} (h : l ≠ k) : ((bs l).toList == k) = false ∧ ((bs l).toList = k) = False := by
  rw [bs_toList]
  exact ⟨beq_eq_false_iff_ne.2 h, eq_false h⟩
theorem str_eq (l : Wd) : ((bs l).toList == l) = true ∧ ((bs l).toList = l) = True := by
  rw [bs_toList]
  exact ⟨beq_iff_eq.2 rfl, eq_true rfl⟩

set_option maxRecDepth 8000 in
set_option maxHeartbeats 4000000 in
theorem implRS (x y l : Wd) (w : World) (hg : LibC w) (hxy : x.length + y.length ≤ 1048576) (X Y : Wd) (C : Int) (hd : RsIs x y l X Y C) :
    Calls Tryd.prog 14 #[sqV x y, .string (bs l)] w fun e w' => e = .returned (.tuple #[sqV X Y, .int .i64 C]) ∧ Below w.heap.size w w' := by
  have H1 := Lib.hid (fun w => implIsSeq x y w hxy)
  have R0 := br0 w x y 25 25
  rcases hd with ⟨h1, rfl, rfl, rfl⟩ | ⟨h1, h2, rfl, rfl, rfl⟩ | ⟨h1, ⟨c, rfl, hc, he⟩, rfl⟩
  · rw [h1] at H1
    clear h1 hxy
    go_enter Tryd.func14, Tryd.ntmps14
    go_wp2_with fail
    refine (H1.out _).mono ?_
    rintro e w2 ⟨rfl, hb2⟩
    have R2 := R0.next hb2
    clear hb2 R0
    obtain ⟨r1, r2, r3, r4, r5, r6, r7, r8⟩ := id R2
    go_wp2
    refine bodyPost_ret (v := .tuple #[sqV [] [], .int .i64 1]) (by simp [results, Tryd.results14, go_sem, sqV, bs, r5, r6]) rfl ⟨rfl, ?_⟩
    (repeat' (first | (with_reducible exact Below.refl _ _) | (with_reducible assumption) | (with_reducible refine belowNext ?_ (by with_reducible assumption)) | (with_reducible refine belowAlloc ?_ _) | (with_reducible refine Below.drew ?_) | (with_reducible refine below_drewN ?_ _) | (with_reducible refine Below.setCell ?_ ?_ _) | go_size | (with_reducible refine sizeOf' ?_) | (with_reducible refine sizeAdd ?_) | (dsimp only; first | (with_reducible refine sizeOf' ?_) | (with_reducible refine sizeAdd ?_))))
  · rw [h1] at H1
    obtain ⟨e1, e2⟩ := str_ne (l := l) (k := [48]) (fun e => h2 (.inl e))
    obtain ⟨e3, e4⟩ := str_ne (l := l) (k := [49]) (fun e => h2 (.inr e))
    generalize bs l = L at *
    clear h1 h2 hxy
    go_enter Tryd.func14, Tryd.ntmps14
    go_wp2_with fail
    refine (H1.out _).mono ?_
    rintro e w2 ⟨rfl, hb2⟩
    have R2 := R0.next hb2
    clear hb2 R0
    obtain ⟨r1, r2, r3, r4, r5, r6, r7, r8⟩ := id R2
    go_wp2
    refine bodyPost_ret (v := .tuple #[sqV [] [], .int .i64 2]) (by simp [results, Tryd.results14, go_sem, sqV, bs, r5, r6]) rfl ⟨rfl, ?_⟩
    (repeat' (first | (with_reducible exact Below.refl _ _) | (with_reducible assumption) | (with_reducible refine belowNext ?_ (by with_reducible assumption)) | (with_reducible refine belowAlloc ?_ _) | (with_reducible refine Below.drew ?_) | (with_reducible refine below_drewN ?_ _) | (with_reducible refine Below.setCell ?_ ?_ _) | go_size | (with_reducible refine sizeOf' ?_) | (with_reducible refine sizeAdd ?_) | (dsimp only; first | (with_reducible refine sizeOf' ?_) | (with_reducible refine sizeAdd ?_))))
  · obtain ⟨-, hl, hy, h64, -⟩ := isSeq_yes h1
    rw [h1] at H1
    have HC := Lib.hid (fun w => implCanon (fillW c x) (fillW c y) w (by rw [fillW_len]; exact hy) (by rw [fillW_len, fillW_len]; exact h64))
    rw [he] at HC
    dsimp only at HC
    have hc42 : c ≠ 42 := by rcases hc with rfl | rfl <;> decide
    have HX := Lib.hid (fun w hg => repC x c (by omega) hc42 w hg)
    have HY := Lib.hid (fun w hg => repC y c (by omega) hc42 w hg)
    have HG : Hid (LibC w) := Lib.hid hg
    have hcc : (((bs [c]).toList == [48]) = true ∧ ((bs [c]).toList = [48]) = True) ∨ ((((bs [c]).toList == [48]) = false ∧ ((bs [c]).toList = [48]) = False) ∧ ((bs [c]).toList == [49]) = true ∧ ((bs [c]).toList = [49]) = True) := by
      rcases hc with rfl | rfl
      · exact .inl (str_eq [48])
      · exact .inr ⟨str_ne (l := [49]) (k := [48]) (by decide), str_eq [49]⟩
    generalize fillW c x = fx at *
    generalize fillW c y = fy at *
    generalize bs [c] = L at *
    clear h1 hxy hl hy h64 hc he hc42 hg
    rcases hcc with ⟨e1, e2⟩ | ⟨⟨e1, e2⟩, e3, e4⟩
    all_goals
      go_enter Tryd.func14, Tryd.ntmps14
      go_wp2_with fail
      refine (H1.out _).mono ?_
      rintro e w2 ⟨rfl, hb2⟩
      have R2 := R0.next hb2
      have M2 := (HG.out.on (belowAlloc (belowAlloc (Below.refl _ w) (.cells #[.string (bs x), .string (bs y)] 25)) (.cells #[.string ⟨#[]⟩, .string ⟨#[]⟩] 25))).on hb2
      have S2 : RpS w x y w2 := ⟨BQ.of R2, M2⟩
      clear hb2 R0 R2 M2
      go_wp2_with fail
      refine wp_region_held_drew (S := (RpS w x y)) (by kernel_rfl) ?_ (fun hHeld => ?_)
      · exact S2.on (Below.refl _ _).drew
      refine wpAnyH_take (i := 0) (v := ?_) rfl (by kernel_rfl) (by kernel_rfl) (by kernel_rfl) (fun _ _ _ h => h) (Or.inl ⟨by kernel_rfl, ?_⟩) hHeld ?_
      rotate_left
      · intro w hSw; obtain ⟨⟨lt, below, b0, b1, c0, c1, f0, f1⟩, m⟩ := hSw; first | (go_simp; done) | (go_simp; with_reducible rfl)
      refine wpAnyH_take (i := 1) (v := ?_) rfl (by kernel_rfl) (by kernel_rfl) (by kernel_rfl) (fun _ _ _ h => h) (Or.inl ⟨by kernel_rfl, ?_⟩) hHeld ?_
      rotate_left
      · intro w hSw; obtain ⟨⟨lt, below, b0, b1, c0, c1, f0, f1⟩, m⟩ := hSw; first | (go_simp; done) | (go_simp; with_reducible rfl)
      refine wpAnyH_take (i := 2) (v := ?_) rfl (by kernel_rfl) (by kernel_rfl) (by kernel_rfl) (fun _ _ _ h => h) (Or.inl ⟨by kernel_rfl, ?_⟩) hHeld ?_
      rotate_left
      · intro w hSw; obtain ⟨⟨lt, below, b0, b1, c0, c1, f0, f1⟩, m⟩ := hSw; first | (go_simp; done) | (go_simp; with_reducible rfl)
      refine wpAnyH_take (i := 4) (v := ?_) rfl (by kernel_rfl) (by kernel_rfl) (by kernel_rfl) (fun _ _ _ h => h) (Or.inl ⟨by kernel_rfl, ?_⟩) hHeld ?_
      rotate_left
      · intro w hSw; obtain ⟨⟨lt, below, b0, b1, c0, c1, f0, f1⟩, m⟩ := hSw; first | (go_simp; done) | (go_simp; with_reducible rfl)
      refine wpAnyH_take (i := 5) (v := ?_) rfl (by kernel_rfl) (by kernel_rfl) (by kernel_rfl) (fun _ _ _ h => h) (Or.inl ⟨by kernel_rfl, ?_⟩) hHeld ?_
      rotate_left
      · intro w hSw; obtain ⟨⟨lt, below, b0, b1, c0, c1, f0, f1⟩, m⟩ := hSw; first | (go_simp; done) | (go_simp; with_reducible rfl)
      refine wpAnyH_take (i := 6) (v := ?_) rfl (by kernel_rfl) (by kernel_rfl) (by kernel_rfl) (fun _ _ _ h => h) (Or.inl ⟨by kernel_rfl, ?_⟩) hHeld ?_
      rotate_left
      · intro w hSw; obtain ⟨⟨lt, below, b0, b1, c0, c1, f0, f1⟩, m⟩ := hSw; first | (go_simp; done) | (go_simp; with_reducible rfl)
      refine wpAnyH_ready (rs := [3]) (by kernel_rfl) (by simp) ?_
      refine AllReadyH.cons rfl (fun K hK => ?_) AllReadyH.nil
      go_simp
      go_wp2_with (go_at_call 41; (with_reducible refine (HX.out _ hHeld.m).mono ?_); rintro e w4 ⟨rfl, hb4⟩)
      have S4 := hHeld.on hb4
      refine hK.out _ _ ?_ (fun hHeld => ?_)
      · exact S4
      clear hK K
      refine wpAnyH_ready (rs := [7]) (by kernel_rfl) (by simp) ?_
      refine AllReadyH.cons rfl (fun K hK => ?_) AllReadyH.nil
      go_simp
      go_wp2_with (go_at_call 41; (with_reducible refine (HY.out _ S4.m).mono ?_); rintro e w5 ⟨rfl, hb5⟩)
      have S5 := S4.on hb5
      refine hK.out _ _ ?_ (fun hHeld => ?_)
      · exact S5
      clear hK K
      refine wpAnyH_ready (rs := [8]) (by kernel_rfl) (by simp) ?_
      refine AllReadyH.cons rfl (fun K hK => ?_) AllReadyH.nil
      go_simp
      go_wp2_with (go_at_call 40; (with_reducible refine (HC.out _).mono ?_); rintro e w6 ⟨rfl, hb6⟩)
      have S6 := S5.on hb6
      refine hK.out _ _ ?_ (fun hHeld => ?_)
      · exact S6
      clear hK K
      obtain ⟨⟨lt, bel, b0, b1, ⟨v0, c0⟩, ⟨v1, c1⟩, f0, f1⟩, m⟩ := id S6
      have g1 : LibC ((w6.setCell ⟨w.heap.size + 1, 0, none⟩ (.string (bs X))).setCell ⟨w.heap.size + 1, 1, none⟩ (.string (bs Y))) := by
        obtain ⟨m0, hm0⟩ := m
        have hlt0 : Tryd.laysM155_ren.g 1 < w.heap.size := cellLt HG.out.choose_spec
        refine ⟨m0, ?_⟩
        rw [World.cell?_setCell_other _ _ _ _ (by intro e; injection e; omega), World.cell?_setCell_other _ _ _ _ (by intro e; injection e; omega)]
        exact hm0
      refine wpAnyH_ready (rs := [9]) (by kernel_rfl) (by simp) ?_
      refine AllReadyH.cons rfl (fun K hK => ?_) AllReadyH.nil
      go_simp
      refine hK.out _ _ ?_ (fun hHeld => ?_)
      · exact ⟨S6.Q.put _ _, g1⟩
      clear hK K
      refine wpAnyH_take (i := 10) (v := ?_) rfl (by kernel_rfl) (by kernel_rfl) (by kernel_rfl) (fun _ _ _ h => h) (Or.inl ⟨by kernel_rfl, ?_⟩) hHeld ?_
      rotate_left
      · intro w hSw; obtain ⟨⟨lt, below, b0, b1, c0, c1, f0, f1⟩, m⟩ := hSw; first | (go_simp; done) | (go_simp; with_reducible rfl)
      refine wpAnyH_done (by kernel_rfl) ?_ _
      obtain ⟨q0, q1⟩ := putQ (W := w6) (b := w.heap.size + 1) (u0 := .string (bs X)) (u1 := .string (bs Y)) ⟨v0, c0⟩ ⟨v1, c1⟩
      have QB := (S6.Q.put (.string (bs X)) (.string (bs Y))).below
      go_wp2
      refine bodyPost_ret (v := .tuple #[sqV X Y, .int .i64 0]) (by simp [results, Tryd.results14, go_sem, sqV, q0, q1]) rfl ⟨rfl, QB⟩

set_option maxRecDepth 8000 in
set_option maxHeartbeats 4000000 in
theorem specRS (x y l : Wd) (w : World) (hxy : x.length + y.length ≤ 1048576) (X Y : Wd) (C : Int) (hd : RsIs x y l X Y C) :
    Calls Tryd.prog 12 #[sqV x y, .string (bs l)] w fun e w' => e = .returned (.tuple #[sqV X Y, .int .i64 C]) ∧ Below w.heap.size w w' := by
  have H1 := Lib.hid (fun w => specL01Seq x y w hxy)
  have R0 := br0 w x y 25 25
  rcases hd with ⟨h1, rfl, rfl, rfl⟩ | ⟨h1, h2, rfl, rfl, rfl⟩ | ⟨h1, ⟨c, rfl, hc, he⟩, rfl⟩
  · rw [h1] at H1
    clear h1 hxy
    go_enter Tryd.func12, Tryd.ntmps12
    go_wp2_with fail
    refine (H1.out _).mono ?_
    rintro e w2 ⟨rfl, hb2⟩
    have R2 := R0.next hb2
    clear hb2 R0
    obtain ⟨r1, r2, r3, r4, r5, r6, r7, r8⟩ := id R2
    go_wp2
    refine bodyPost_ret (v := .tuple #[sqV [] [], .int .i64 1]) (by simp [results, Tryd.results12, go_sem, sqV, bs, r5, r6]) rfl ⟨rfl, ?_⟩
    (repeat' (first | (with_reducible exact Below.refl _ _) | (with_reducible assumption) | (with_reducible refine belowNext ?_ (by with_reducible assumption)) | (with_reducible refine belowAlloc ?_ _) | (with_reducible refine Below.drew ?_) | (with_reducible refine below_drewN ?_ _) | (with_reducible refine Below.setCell ?_ ?_ _) | go_size | (with_reducible refine sizeOf' ?_) | (with_reducible refine sizeAdd ?_) | (dsimp only; first | (with_reducible refine sizeOf' ?_) | (with_reducible refine sizeAdd ?_))))
  · rw [h1] at H1
    obtain ⟨e1, e2⟩ := str_ne (l := l) (k := [48]) (fun e => h2 (.inl e))
    obtain ⟨e3, e4⟩ := str_ne (l := l) (k := [49]) (fun e => h2 (.inr e))
    generalize bs l = L at *
    clear h1 h2 hxy
    go_enter Tryd.func12, Tryd.ntmps12
    go_wp2_with fail
    refine (H1.out _).mono ?_
    rintro e w2 ⟨rfl, hb2⟩
    have R2 := R0.next hb2
    clear hb2 R0
    obtain ⟨r1, r2, r3, r4, r5, r6, r7, r8⟩ := id R2
    go_wp2
    refine bodyPost_ret (v := .tuple #[sqV [] [], .int .i64 2]) (by simp [results, Tryd.results12, go_sem, sqV, bs, r5, r6]) rfl ⟨rfl, ?_⟩
    (repeat' (first | (with_reducible exact Below.refl _ _) | (with_reducible assumption) | (with_reducible refine belowNext ?_ (by with_reducible assumption)) | (with_reducible refine belowAlloc ?_ _) | (with_reducible refine Below.drew ?_) | (with_reducible refine below_drewN ?_ _) | (with_reducible refine Below.setCell ?_ ?_ _) | go_size | (with_reducible refine sizeOf' ?_) | (with_reducible refine sizeAdd ?_) | (dsimp only; first | (with_reducible refine sizeOf' ?_) | (with_reducible refine sizeAdd ?_))))
  · obtain ⟨-, hl, hy, h64, -⟩ := isSeq_yes h1
    rw [h1] at H1
    have HC := Lib.hid (fun w => specCanon (fillW c x) (fillW c y) w (by rw [fillW_len]; exact hy) (by rw [fillW_len, fillW_len]; exact h64))
    rw [he] at HC
    dsimp only at HC
    have HX := Lib.hid (fun w => specFill x c w (by omega))
    have HY := Lib.hid (fun w => specFill y c w (by omega))
    have ix : ∀ W, (Instr.index 9 (.string (bs [c])) (.int .i64 0)).run Tryd.prog W = .ok (.int .u8 (c.toNat : Int)) W := fun W => idxS [c] 0 0 (by simp) rfl W
    have hcc : (((bs [c]).toList == [48]) = true ∧ ((bs [c]).toList = [48]) = True) ∨ ((((bs [c]).toList == [48]) = false ∧ ((bs [c]).toList = [48]) = False) ∧ ((bs [c]).toList == [49]) = true ∧ ((bs [c]).toList = [49]) = True) := by
      rcases hc with rfl | rfl
      · exact .inl (str_eq [48])
      · exact .inr ⟨str_ne (l := [49]) (k := [48]) (by decide), str_eq [49]⟩
    generalize fillW c x = fx at *
    generalize fillW c y = fy at *
    generalize bs [c] = L at *
    generalize (c.toNat : Int) = ch at *
    clear h1 hxy hl hy h64 hc he
    rcases hcc with ⟨e1, e2⟩ | ⟨⟨e1, e2⟩, e3, e4⟩
    all_goals
      go_enter Tryd.func12, Tryd.ntmps12
      go_wp2_with fail
      refine (H1.out _).mono ?_
      rintro e w2 ⟨rfl, hb2⟩
      have R2 := R0.next hb2
      have S2 : BQ w x y w2 := BQ.of R2
      clear hb2 R0 R2
      go_wp2_with fail
      refine wp_region_held_drew (S := (BQ w x y)) (by kernel_rfl) ?_ (fun hHeld => ?_)
      · exact S2.on (Below.refl _ _).drew
      refine wpAnyH_take (i := 0) (v := ?_) rfl (by kernel_rfl) (by kernel_rfl) (by kernel_rfl) (fun _ _ _ h => h) (Or.inl ⟨by kernel_rfl, ?_⟩) hHeld ?_
      rotate_left
      · intro w hSw; obtain ⟨lt, below, b0, b1, c0, c1, f0, f1⟩ := hSw; first | (go_simp; done) | (go_simp; with_reducible rfl)
      refine wpAnyH_take (i := 1) (v := ?_) rfl (by kernel_rfl) (by kernel_rfl) (by kernel_rfl) (fun _ _ _ h => h) (Or.inl ⟨by kernel_rfl, ?_⟩) hHeld ?_
      rotate_left
      · intro w hSw; obtain ⟨lt, below, b0, b1, c0, c1, f0, f1⟩ := hSw; first | (go_simp; done) | (go_simp; with_reducible rfl)
      refine wpAnyH_take (i := 2) (v := ?_) rfl (by kernel_rfl) (by kernel_rfl) (by kernel_rfl) (fun _ _ _ h => h) (Or.inl ⟨by kernel_rfl, ?_⟩) hHeld ?_
      rotate_left
      · intro w hSw; obtain ⟨lt, below, b0, b1, c0, c1, f0, f1⟩ := hSw; first | (go_simp; done) | (go_simp; with_reducible rfl)
      refine wpAnyH_take (i := 3) (v := ?_) rfl (by kernel_rfl) (by kernel_rfl) (by kernel_rfl) (fun _ _ _ h => h) (Or.inl ⟨by kernel_rfl, ?_⟩) hHeld ?_
      rotate_left
      · intro w hSw; obtain ⟨lt, below, b0, b1, c0, c1, f0, f1⟩ := hSw; first | (go_simp; done) | (go_simp; with_reducible rfl)
      refine wpAnyH_take (i := 5) (v := ?_) rfl (by kernel_rfl) (by kernel_rfl) (by kernel_rfl) (fun _ _ _ h => h) (Or.inl ⟨by kernel_rfl, ?_⟩) hHeld ?_
      rotate_left
      · intro w hSw; obtain ⟨lt, below, b0, b1, c0, c1, f0, f1⟩ := hSw; first | (go_simp; done) | (go_simp; with_reducible rfl)
      refine wpAnyH_take (i := 6) (v := ?_) rfl (by kernel_rfl) (by kernel_rfl) (by kernel_rfl) (fun _ _ _ h => h) (Or.inl ⟨by kernel_rfl, ?_⟩) hHeld ?_
      rotate_left
      · intro w hSw; obtain ⟨lt, below, b0, b1, c0, c1, f0, f1⟩ := hSw; first | (go_simp; done) | (go_simp; with_reducible rfl)
      refine wpAnyH_take (i := 7) (v := ?_) rfl (by kernel_rfl) (by kernel_rfl) (by kernel_rfl) (fun _ _ _ h => h) (Or.inl ⟨by kernel_rfl, ?_⟩) hHeld ?_
      rotate_left
      · intro w hSw; obtain ⟨lt, below, b0, b1, c0, c1, f0, f1⟩ := hSw; first | (go_simp; done) | (go_simp; with_reducible rfl)
      refine wpAnyH_take (i := 8) (v := ?_) rfl (by kernel_rfl) (by kernel_rfl) (by kernel_rfl) (fun _ _ _ h => h) (Or.inl ⟨by kernel_rfl, ?_⟩) hHeld ?_
      rotate_left
      · intro w hSw; obtain ⟨lt, below, b0, b1, c0, c1, f0, f1⟩ := hSw; first | (go_simp; done) | (go_simp; with_reducible rfl)
      refine wpAnyH_ready (rs := [4]) (by kernel_rfl) (by simp) ?_
      refine AllReadyH.cons rfl (fun K hK => ?_) AllReadyH.nil
      go_simp
      go_wp2_with (go_at_call 38; (with_reducible refine (HX.out _).mono ?_); rintro e w4 ⟨rfl, hb4⟩)
      have S4 := hHeld.on hb4
      refine hK.out _ _ ?_ (fun hHeld => ?_)
      · exact S4
      clear hK K
      refine wpAnyH_ready (rs := [9]) (by kernel_rfl) (by simp) ?_
      refine AllReadyH.cons rfl (fun K hK => ?_) AllReadyH.nil
      go_simp
      go_wp2_with (go_at_call 38; (with_reducible refine (HY.out _).mono ?_); rintro e w5 ⟨rfl, hb5⟩)
      have S5 := S4.on hb5
      refine hK.out _ _ ?_ (fun hHeld => ?_)
      · exact S5
      clear hK K
      refine wpAnyH_ready (rs := [10]) (by kernel_rfl) (by simp) ?_
      refine AllReadyH.cons rfl (fun K hK => ?_) AllReadyH.nil
      go_simp
      go_wp2_with (go_at_call 37; (with_reducible refine (HC.out _).mono ?_); rintro e w6 ⟨rfl, hb6⟩)
      have S6 := S5.on hb6
      refine hK.out _ _ ?_ (fun hHeld => ?_)
      · exact S6
      clear hK K
      obtain ⟨lt, bel, b0, b1, ⟨v0, c0⟩, ⟨v1, c1⟩, f0, f1⟩ := id S6
      refine wpAnyH_ready (rs := [11]) (by kernel_rfl) (by simp) ?_
      refine AllReadyH.cons rfl (fun K hK => ?_) AllReadyH.nil
      go_simp
      refine hK.out _ _ ?_ (fun hHeld => ?_)
      · exact S6.put _ _
      clear hK K
      refine wpAnyH_take (i := 12) (v := ?_) rfl (by kernel_rfl) (by kernel_rfl) (by kernel_rfl) (fun _ _ _ h => h) (Or.inl ⟨by kernel_rfl, ?_⟩) hHeld ?_
      rotate_left
      · intro w hSw; obtain ⟨lt, below, b0, b1, c0, c1, f0, f1⟩ := hSw; first | (go_simp; done) | (go_simp; with_reducible rfl)
      refine wpAnyH_done (by kernel_rfl) ?_ _
      obtain ⟨q0, q1⟩ := putQ (W := w6) (b := w.heap.size + 1) (u0 := .string (bs X)) (u1 := .string (bs Y)) ⟨v0, c0⟩ ⟨v1, c1⟩
      have QB := (S6.put (.string (bs X)) (.string (bs Y))).below
      go_wp2
      refine bodyPost_ret (v := .tuple #[sqV X Y, .int .i64 0]) (by simp [results, Tryd.results12, go_sem, sqV, q0, q1]) rfl ⟨rfl, QB⟩
end Go.Proofs.YtomcmjnhfloeeaaDoor

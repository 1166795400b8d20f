/-
  Contracts: texts parted at a letter; ParseSequence, as the model makes it; written by genG2.py.
-/
import Derived.Test.YtcgdlimhhcmjhaaDoorG1
import Derived.Maps.AppendAt
import Derived.Deep.AppendLies
import Derived.Deep.RegionHeld
import Derived.BigQuiet
import Derived.RangeFuncRecord
namespace Go.Proofs.YtcgdlimhhcmjhaaDoor
open Go.RowKit

/-- The parts of a text between the letters "(". -/
def parts : Wd → List Wd
  | [] => [[]]
  | b :: t => if b = 40 then [] :: parts t else match parts t with
    | [] => [[b]]
    | p :: ps => (b :: p) :: ps
def pre1 (c : Wd) : List Wd → List Wd
  | [] => [c]
  | p :: ps => (c ++ p) :: ps
theorem parts_ne : ∀ l : Wd, parts l ≠ []
  | [] => by simp [parts]
  | b :: t => by
    unfold parts
    split
    · simp
    · split <;> simp
theorem parts_other {b : UInt8} {t : Wd} (h : b ≠ 40) : parts (b :: t) = pre1 [b] (parts t) := by
  rw [parts, if_neg h]
  cases parts t <;> rfl
theorem pre1_nil {q : List Wd} (h : q ≠ []) : pre1 [] q = q := by
  cases q with
  | nil => exact absurd rfl h
  | cons p ps => rfl
theorem pre1_pre1 (c d : Wd) (q : List Wd) (h : q ≠ []) : pre1 c (pre1 d q) = pre1 (c ++ d) q := by
  cases q with
  | nil => exact absurd rfl h
  | cons p ps => simp [pre1]
theorem parts_no : ∀ {l : Wd}, (∀ i : Nat, l[i]? ≠ some (40 : UInt8)) → parts l = [l]
  | [], _ => rfl
  | b :: t, h => by
    have hb : b ≠ 40 := fun e => h 0 (by simp [e])
    rw [parts_other hb, parts_no (l := t) (fun i => by have := h (i + 1); simpa using this)]
    rfl
theorem parts_hit : ∀ {a r : Wd}, (∀ i : Nat, a[i]? ≠ some (40 : UInt8)) → parts (a ++ 40 :: r) = a :: parts r
  | [], r, _ => by simp [parts]
  | b :: t, r, h => by
    have hb : b ≠ 40 := fun e => h 0 (by simp [e])
    rw [List.cons_append, parts_other hb, parts_hit (a := t) (fun i => by have := h (i + 1); simpa using this)]
    rfl
/-- Two parts. -/
theorem parts_two {l x y : Wd} (h : parts l = [x, y]) : l = x ++ 40 :: y ∧ (∀ i : Nat, x[i]? ≠ some (40 : UInt8)) ∧ (∀ i : Nat, y[i]? ≠ some (40 : UInt8)) := by
  rcases cut_cases l with ⟨hno, -⟩ | ⟨a, r, hlr, hc⟩
  · rw [parts_no hno] at h; simp at h
  · have ha : ∀ i : Nat, a[i]? ≠ some (40 : UInt8) := cut_no hlr hc
    rw [hlr, parts_hit ha] at h
    injection h with h1 h2
    subst h1
    rcases cut_cases r with ⟨hno, -⟩ | ⟨a', r', hlr', hc'⟩
    · rw [parts_no hno] at h2
      injection h2 with h3
      subst h3
      exact ⟨hlr, ha, hno⟩
    · rw [hlr', parts_hit (cut_no hlr' hc')] at h2
      injection h2 with _ h3
      exact absurd h3 (parts_ne r')
def seg (l : Wd) (a i : Nat) : Wd := (l.drop a).take (i - a)
theorem seg_self (l : Wd) (a : Nat) : seg l a a = [] := by simp [seg]
theorem seg_next {l : Wd} {a i : Nat} (h : a ≤ i) (hi : i < l.length) : seg l a (i + 1) = seg l a i ++ [l.getD i 0] := by
  unfold seg
  rw [show i + 1 - a = (i - a) + 1 by omega, List.take_add_one]
  congr 1
  rw [List.getElem?_drop, show a + (i - a) = i by omega, List.getElem?_eq_getElem hi, List.getD_eq_getElem?_getD, List.getElem?_eq_getElem hi]
  rfl
theorem drop_cons {l : Wd} {i : Nat} (hi : i < l.length) : l.drop i = l.getD i 0 :: l.drop (i + 1) := by
  rw [List.drop_eq_getElem_cons hi, List.getD_eq_getElem?_getD, List.getElem?_eq_getElem hi]
  rfl
def strV (ps : List Wd) : List Value := ps.map fun p => Value.string (bs p)
theorem strV_len (ps : List Wd) : (strV ps).length = ps.length := by simp [strV]
theorem infoS : (Tryd.prog.info? 9).map (fun i => (i.zero, i.size, i.bytes)) = some (some (.string ⟨#[]⟩), 1, 16) := by kernel_rfl
theorem infoS_parts : ∃ i : TypeInfo, Tryd.prog.info? 9 = some i ∧ i.zero = some (.string ⟨#[]⟩) ∧ i.size = 1 ∧ i.bytes = 16 := by
  have h := infoS
  cases hi : Tryd.prog.info? 9 with
  | none => rw [hi] at h; cases h
  | some i =>
    rw [hi] at h
    simp at h
    exact ⟨i, rfl, h.1, h.2.1, h.2.2⟩
theorem cutS (l : Wd) (a i : Nat) (h1 : a ≤ i) (h2 : i ≤ l.length) (W : World) : (Instr.slice 9 (.string (bs l)) (some (.int .i64 (a : Int))) (some (.int .i64 (i : Int))) none).run Tryd.prog W = .ok (.string (bs (seg l a i))) W := by
  rw [run_slice_string_if W 9 _ _ _ _ _ Tryd.underlying9, if_pos ⟨by omega, by rw [bs_size]; omega⟩, if_pos ⟨by omega, by omega⟩, Int.toNat_natCast, Int.toNat_natCast, bs_extract]
  rfl
theorem own_blockS {w : World} {lo : Nat} {e : TypeId} {k : Nat} {v : Value} {n : Nat} {xs : List Value} (h : w.ownsRow lo e k v n xs) : ∀ j, v.ownBlock = some j → lo ≤ j := by
  intro j e1
  rcases h.2 with ⟨hv, _⟩ | ⟨g0, c0, cur, hv, hlo, _⟩
  · rw [hv] at e1; simp [Value.ownBlock] at e1
  · rw [hv] at e1; simp [Value.ownBlock] at e1; omega
theorem formS {w : World} {lo : Nat} {e : TypeId} {k n : Nat} {v : Value} {xs : List Value} (h : w.ownsRow lo e k v (n + 1) xs) : ∃ g c, v = .slice (some ⟨g, 0, none⟩) (n + 1) c := by
  obtain ⟨g, c, hv, _⟩ := World.ownsRow.form h (by omega)
  exact ⟨g, c, hv⟩

set_option maxRecDepth 8000 in
set_option maxHeartbeats 4000000 in
theorem specSplit (l : Wd) (w : World) (hl : l.length ≤ 1048576) :
    Calls Tryd.prog 12 #[.string (bs l), .int .u8 40] w fun e w' => (∃ g c, e = .returned (.slice (some ⟨g, 0, none⟩) (parts l).length c) ∧ w'.ownsRow w.heap.size 9 1 (.slice (some ⟨g, 0, none⟩) (parts l).length c) (parts l).length (strV (parts l))) ∧ Below w.heap.size w w' := by
  obtain ⟨i0, hi, hz0, hz1, hz2⟩ := infoS_parts
  have hlen := fun W => lenS 9 3 l Tryd.underlying9 W
  obtain ⟨n, hn⟩ : ∃ n, l.length = n := ⟨_, rfl⟩
  have HI : Hid (∀ k, k < n → ∀ W, (Instr.index 9 (.string (bs l)) (.int .i64 (k : Int))).run Tryd.prog W = .ok (.int .u8 ((l.getD k 0).toNat : Int)) W) := Lib.hid (fun k hk W => idxS l k (k : Int) (by omega) rfl W)
  have HS : Hid (∀ a i, a ≤ i → i ≤ n → ∀ W, (Instr.slice 9 (.string (bs l)) (some (.int .i64 (a : Int))) (some (.int .i64 (i : Int))) none).run Tryd.prog W = .ok (.string (bs (seg l a i))) W) := Lib.hid (fun a i h1 h2 W => cutS l a i h1 (by omega) W)
  have HE : Hid (∀ a, a ≤ n → ∀ W, (Instr.slice 9 (.string (bs l)) (some (.int .i64 (a : Int))) none none).run Tryd.prog W = .ok (.string (bs (l.drop a))) W) := Lib.hid (fun a h W => fromS l a (a : Int) (by omega) rfl W)
  have HD : Hid (∀ i, i < n → l.drop i = l.getD i 0 :: l.drop (i + 1)) := Lib.hid (fun i h => drop_cons (by omega))
  have HN : Hid (∀ a i, a ≤ i → i < n → seg l a (i + 1) = seg l a i ++ [l.getD i 0]) := Lib.hid (fun a i h1 h2 => seg_next h1 (by omega))
  have HF : Hid (l.drop n = [] ∧ ∀ a, seg l a n = l.drop a) := Lib.hid ⟨by rw [← hn]; exact List.drop_length, fun a => by unfold seg; rw [List.take_of_length_le (by rw [List.length_drop]; omega)]⟩
  rw [hn] at hlen hl
  clear hn
  go_enter Tryd.func12, Tryd.ntmps12
  go_wp2_with fail
  have O0 : (w.alloc (.cells #[] 9)).ownsRow w.heap.size 9 1 (.slice (some ⟨w.heap.size, 0, none⟩) 0 0) 0 (strV []) :=
    ⟨rfl, .inr ⟨w.heap.size, 0, #[], rfl, Nat.le_refl _, World.alloc_heap_new w (.cells #[] 9), Nat.le_refl _, by unfold maxLen; omega, rfl, rfl⟩⟩
  have B0 : Below w.heap.size w (w.alloc (.cells #[] 9)) := belowAlloc (Below.refl _ _) _
  go_loopw [5, 6, 7] (fun s5 s6 s7 wr => ∃ (i a b1 c1 : Nat) (out : List Wd), a ≤ i ∧ i ≤ n ∧ out.length ≤ i ∧ s7 = .int .i64 (i : Int) ∧ s6 = .int .i64 (a : Int) ∧ s5 = .slice (some ⟨b1, 0, none⟩) out.length c1 ∧
    Hid (wr.ownsRow w.heap.size 9 1 (.slice (some ⟨b1, 0, none⟩) out.length c1) out.length (strV out) ∧ out ++ pre1 (seg l a i) (parts (l.drop i)) = parts l) ∧ Below w.heap.size w wr) (fun _ _ s7 _ => n - (intOf s7).toNat)
  case atStart => exact ⟨0, 0, w.heap.size, 0, [], by omega, by omega, by simp, rfl, rfl, rfl, Lib.hid ⟨O0, by rw [seg_self, List.drop_zero, pre1_nil (parts_ne l)]; rfl⟩, B0⟩
  case round =>
    clear O0 B0
    obtain ⟨i, a, b1, c1, out, hai, hin, hol, rfl, rfl, rfl, HO, HB⟩ := hrel
    have hbs := HB.size
    by_cases hlt : i < n
    · have d1 : decide ((i : Int) < (n : Int)) = true := decide_eq_true (by omega)
      have d1n : decide (i < n) = true := decide_eq_true hlt
      have d1p : (i < n) = True := eq_true hlt
      have i3 := HI.out i hlt
      have hd := HD.out i hlt
      have hnx := HN.out a i hai hlt
      by_cases e : l.getD i 0 = 40
      · have z1 : ((l.getD i 0).toNat : Int) = 40 := by rw [e]; rfl
        simp only [z1] at i3
        have sl := HS.out a i hai hin
        have HP : Hid ((out ++ [seg l a i]) ++ pre1 (seg l (i + 1) (i + 1)) (parts (l.drop (i + 1))) = parts l ∧ strV out ++ [.string (bs (seg l a i))] = strV (out ++ [seg l a i]) ∧ (out ++ [seg l a i]).length = out.length + 1) := Lib.hid ⟨by
          rw [seg_self, pre1_nil (parts_ne _), ← HO.out.2, hd, e, parts, if_pos rfl]
          simp [pre1], by simp [strV], by simp⟩
        generalize seg l a i = sg at *
        clear e hd hnx z1
        go_wp2_with (at_builtin; refine wpList_append_own_at _ rfl _ _ 36 rfl w.heap.size 9 i0 (.string ⟨#[]⟩) 1 16 Tryd.underlying36 hi hz0 hz1 hz2 rfl (by decide) _ _ _ rfl (World.ownsRow.alloc HO.out.1 _) ⟨wr.heap.size, 0, none⟩ 1 1 [.string (bs sg)] rfl rfl ?c1 ?c2 ?c3 ?c4 ?c5 ?_)
        case c1 => exact cell_one_new _ _ _
        case c2 => intro u hu; simp at hu; subst hu; rfl
        case c3 => unfold maxLen; omega
        case c4 => omega
        case c5 => simp; omega
        intro v' w1 hown' hgrow _ _
        rw [HP.out.2.1] at hown'
        have B1 : Below w.heap.size w w1 := (belowAlloc HB _).grown hgrow (by simp; omega) (fun j e => own_blockS HO.out.1 j e)
        obtain ⟨g', c', rfl⟩ := formS hown'
        rw [← HP.out.2.2] at hown'
        have HO' := Lib.hid (And.intro hown' HP.out.1)
        have hl2 := HP.out.2.2
        clear hown' hgrow HO
        go_wp2
        go_roundw
        case rel => exact ⟨i + 1, i + 1, g', c', out ++ [sg], by omega, by omega, by omega, by go_num, by go_num, by rw [hl2], HO', B1⟩
        case measure => simp [intOf]; omega
      · have hz : ((l.getD i 0).toNat : Int) ≠ 40 := by
          intro h
          apply e
          have : (l.getD i 0).toNat = 40 := by omega
          exact UInt8.toNat_inj.1 this
        have z1 : (((l.getD i 0).toNat : Int) == 40) = false := beq_eq_false_iff_ne.2 hz
        have HO' := Lib.hid (And.intro HO.out.1 (show out ++ pre1 (seg l a (i + 1)) (parts (l.drop (i + 1))) = parts l by
          rw [← HO.out.2, hd, parts_other e, pre1_pre1 _ _ _ (parts_ne _), ← hnx]))
        generalize ((l.getD i 0).toNat : Int) = ch at *
        clear e hd hnx HO
        go_wp2
        go_roundw
        case rel => exact ⟨i + 1, a, b1, c1, out, by omega, by omega, by omega, by go_num, rfl, rfl, HO', HB⟩
        case measure => simp [intOf]; omega
    · obtain rfl : i = n := by omega
      have sl := HE.out a hai
      have HP : Hid (strV out ++ [.string (bs (l.drop a))] = strV (parts l) ∧ out.length + 1 = (parts l).length) := Lib.hid (by
        have h := HO.out.2
        rw [HF.out.1, HF.out.2] at h
        have h2 : out ++ [l.drop a] = parts l := by rw [← h]; simp [parts, pre1]
        rw [← h2]
        exact ⟨by simp [strV], by simp⟩)
      generalize l.drop a = sg at *
      go_wp2_with (at_builtin; refine wpList_append_own_at _ rfl _ _ 36 rfl w.heap.size 9 i0 (.string ⟨#[]⟩) 1 16 Tryd.underlying36 hi hz0 hz1 hz2 rfl (by decide) _ _ _ rfl (World.ownsRow.alloc HO.out.1 _) ⟨wr.heap.size, 0, none⟩ 1 1 [.string (bs sg)] rfl rfl ?c1 ?c2 ?c3 ?c4 ?c5 ?_)
      case c1 => exact cell_one_new _ _ _
      case c2 => intro u hu; simp at hu; subst hu; rfl
      case c3 => unfold maxLen; omega
      case c4 => omega
      case c5 => simp; omega
      intro v' w1 hown' hgrow _ _
      rw [HP.out.1] at hown'
      have B1 : Below w.heap.size w w1 := (belowAlloc HB _).grown hgrow (by simp; omega) (fun j e => own_blockS HO.out.1 j e)
      obtain ⟨g', c', rfl⟩ := formS hown'
      rw [HP.out.2] at hown'
      have HO' := Lib.hid hown'
      have hl2 := HP.out.2
      clear hown' hgrow HO
      go_wp2
      go_ret
      exact ⟨⟨g', c', by rw [hl2]; rfl, HO'.out⟩, B1⟩

/-- What l01ReadSeq answers. -/
def RdIs (l X Y : Wd) (ok : Bool) : Prop := (ok = true → PsG l X Y) ∧ (ok = false → ∀ a p, ¬ PsG l a p)
theorem psG_parts {l a p : Wd} (h : PsG l a p) : parts l = [a, p ++ [41]] := by
  obtain ⟨h1, h2, -, -, -⟩ := isSeq_yes h.2
  have h3 : ∀ i : Nat, (p ++ [41])[i]? ≠ some (40 : UInt8) := fun i e => by
    rcases Nat.lt_or_ge i p.length with h | h
    · rw [List.getElem?_append_left h] at e; exact lets_40 h2 i e
    · rw [List.getElem?_append_right h] at e
      have := List.mem_of_getElem? e
      simp at this
  rw [h.1, parts_hit (lets_40 h1), parts_no h3]
theorem rd_len {l X Y : Wd} (h : (parts l).length ≠ 2) : RdIs l X Y false := ⟨fun e => (by cases e), fun _ a p hp => h (by rw [psG_parts hp]; rfl)⟩
theorem rd_last {l x y X Y : Wd} (h : parts l = [x, y]) (hy : y = [] ∨ y.getD (y.length - 1) 0 ≠ 41) : RdIs l X Y false := ⟨fun e => (by cases e), fun _ a p hp => by
  have e := psG_parts hp
  rw [h] at e
  injection e with e1 e2
  injection e2 with e3
  rcases hy with hy | hy
  · rw [hy] at e3; simp at e3
  · exact hy (by rw [e3]; simp [List.getD_eq_getElem?_getD])⟩
theorem rd_seq {l x y : Wd} (h : parts l = [x, y]) (h0 : y ≠ []) (hy : y.getD (y.length - 1) 0 = 41) : RdIs l x (y.take (y.length - 1)) (isSeq x (y.take (y.length - 1))) := by
  have hpos : 0 < y.length := List.length_pos_iff.2 h0
  have hyy : y = y.take (y.length - 1) ++ [41] := by
    have h1 := List.take_append_drop (y.length - 1) y
    have h2 : y.drop (y.length - 1) = [41] := by
      rw [drop_cons (show y.length - 1 < y.length by omega), hy, show y.length - 1 + 1 = y.length by omega, List.drop_length]
    rw [h2] at h1
    exact h1.symm
  refine ⟨fun e => ⟨by rw [← hyy]; exact (parts_two h).1, e⟩, fun e a p hp => ?_⟩
  have e2 := psG_parts hp
  rw [h] at e2
  injection e2 with e3 e4
  injection e4 with e5
  have e6 : y.take (y.length - 1) = p := by rw [e5]; simp
  rw [e6, e3, hp.2] at e
  cases e

/-- The cell of a result, and the two parts. -/
structure RdP (w : World) (g : Nat) (x y : Wd) (W : World) : Prop where
  R : RcS w W
  z : g < W.heap.size
  x0 : W.cell? ⟨g, 0, none⟩ = some (.string (bs x))
  x1 : W.cell? ⟨g, 1, none⟩ = some (.string (bs y))
theorem RdP.on {w W w1 : World} {g : Nat} {x y : Wd} (h : RdP w g x y W) (hb : Below W.heap.size W w1) : RdP w g x y w1 :=
  ⟨h.R.on hb, Nat.lt_of_lt_of_le h.z hb.size, cellThru hb h.z h.x0, cellThru hb h.z h.x1⟩
theorem putP {W : World} {b : Nat} {u0 u1 v0 v1 : Value} (h0 : W.cell? ⟨b, 0, none⟩ = some v0) (h1 : W.cell? ⟨b, 1, none⟩ = some v1) :
    ((W.setCell ⟨b, 0, none⟩ u0).setCell ⟨b, 1, none⟩ u1).cell? ⟨b, 0, none⟩ = some u0 ∧ ((W.setCell ⟨b, 0, none⟩ u0).setCell ⟨b, 1, none⟩ u1).cell? ⟨b, 1, none⟩ = some u1 := by
  refine ⟨?_, ?_⟩
  · rw [World.cell?_setCell_other _ _ _ _ (by simp)]
    exact World.cell?_setCell_same _ _ _ h0
  · have h1' : (W.setCell ⟨b, 0, none⟩ u0).cell? ⟨b, 1, none⟩ = some v1 := by rw [World.cell?_setCell_other _ _ _ _ (by simp)]; exact h1
    exact World.cell?_setCell_same _ _ _ h1'
theorem putFar {W : World} {b c o : Nat} {u0 u1 : Value} (h : c ≠ b) : ((W.setCell ⟨b, 0, none⟩ u0).setCell ⟨b, 1, none⟩ u1).cell? ⟨c, o, none⟩ = W.cell? ⟨c, o, none⟩ := by
  rw [World.cell?_setCell_other _ _ _ _ (by intro e; injection e; omega), World.cell?_setCell_other _ _ _ _ (by intro e; injection e; omega)]
theorem RcS.put {w W : World} (h : RcS w W) {b : Nat} (hb : w.heap.size < b) (u0 u1 : Value) : RcS w ((W.setCell ⟨b, 0, none⟩ u0).setCell ⟨b, 1, none⟩ u1) :=
  ⟨by simpa using h.lt, (h.below.setCell (by exact Nat.le_of_lt hb) _).setCell (by exact Nat.le_of_lt hb) _, (putFar (by omega)).trans h.c0, (putFar (by omega)).trans h.c1, by simpa using h.f0, by simpa using h.f1⟩
theorem RdP.put {w W : World} {g : Nat} {x y : Wd} (h : RdP w g x y W) {b : Nat} (hb : w.heap.size < b) (hg : g ≠ b) (u0 u1 : Value) : RdP w g x y ((W.setCell ⟨b, 0, none⟩ u0).setCell ⟨b, 1, none⟩ u1) :=
  ⟨h.R.put hb _ _, by simpa using h.z, (putFar hg).trans h.x0, (putFar hg).trans h.x1⟩
/-- The cell of a result, and the box of what the parts make. -/
structure RdS (w : World) (b : Nat) (X Y : Wd) (W : World) : Prop where
  lt : w.heap.size < W.heap.size
  below : Below w.heap.size w W
  e0 : ∃ v, W.cell? ⟨w.heap.size, 0, none⟩ = some v
  e1 : ∃ v, W.cell? ⟨w.heap.size, 1, none⟩ = some v
  f0 : W.frozen? ⟨w.heap.size, 0, none⟩ = false
  f1 : W.frozen? ⟨w.heap.size, 1, none⟩ = false
  zb : b < W.heap.size
  lb : w.heap.size < b
  o0 : W.cell? ⟨b, 0, none⟩ = some (.string (bs X))
  o1 : W.cell? ⟨b, 1, none⟩ = some (.string (bs Y))
theorem RdS.on {w W w1 : World} {b : Nat} {X Y : Wd} (h : RdS w b X Y W) (hb : Below W.heap.size W w1) : RdS w b X Y w1 := by
  obtain ⟨v0, h0⟩ := h.e0
  obtain ⟨v1, h1⟩ := h.e1
  exact ⟨Nat.lt_of_lt_of_le h.lt hb.size, belowNext h.below hb, ⟨v0, cellThru hb h.lt h0⟩, ⟨v1, cellThru hb h.lt h1⟩, frozThru hb h.lt h.f0, frozThru hb h.lt h.f1, Nat.lt_of_lt_of_le h.zb hb.size, h.lb, cellThru hb h.zb h.o0, cellThru hb h.zb h.o1⟩
theorem RdS.put {w W : World} {b : Nat} {X Y : Wd} (h : RdS w b X Y W) (u0 u1 : Value) : RdS w b X Y ((W.setCell ⟨w.heap.size, 0, none⟩ u0).setCell ⟨w.heap.size, 1, none⟩ u1) := by
  obtain ⟨v0, h0⟩ := h.e0
  obtain ⟨v1, h1⟩ := h.e1
  obtain ⟨q0, q1⟩ := putP (u0 := u0) (u1 := u1) h0 h1
  have := h.lb
  exact ⟨by simpa using h.lt, (h.below.setCell (by exact Nat.le_refl _) _).setCell (by exact Nat.le_refl _) _, ⟨_, q0⟩, ⟨_, q1⟩, by simpa using h.f0, by simpa using h.f1, by simpa using h.zb, h.lb, (putFar (by omega)).trans h.o0, (putFar (by omega)).trans h.o1⟩
theorem rdS_of {w W : World} {b : Nat} {X Y : Wd} {v0 v1 : Value} (h : RcS w W) (zb : b < W.heap.size) (lb : w.heap.size < b) (h0 : W.cell? ⟨b, 0, none⟩ = some v0) (h1 : W.cell? ⟨b, 1, none⟩ = some v1) :
    RdS w b X Y ((W.setCell ⟨b, 0, none⟩ (.string (bs X))).setCell ⟨b, 1, none⟩ (.string (bs Y))) := by
  obtain ⟨q0, q1⟩ := putP (u0 := .string (bs X)) (u1 := .string (bs Y)) h0 h1
  have R := h.put lb (.string (bs X)) (.string (bs Y))
  exact ⟨R.lt, R.below, ⟨_, R.c0⟩, ⟨_, R.c1⟩, R.f0, R.f1, by simpa using zb, lb, q0, q1⟩
def RdRes (l : Wd) (e : Ending) : Prop := ∃ X Y ok, e = .returned (.tuple #[sqV X Y, .bool ok]) ∧ Hid (RdIs l X Y ok)

set_option maxRecDepth 8000 in
set_option maxHeartbeats 4000000 in
theorem specRead (l : Wd) (w : World) (hl : l.length ≤ 1048576) :
    Calls Tryd.prog 7 #[.string (bs l)] w fun e w' => RdRes l e ∧ Below w.heap.size w w' := by
  have HP := Lib.hid (fun w => specSplit l w hl)
  have R0 := rcs0 w 23
  have HQ := Lib.hid (fun x y w (h : x.length + y.length ≤ 1048576) => specL01Seq x y w h)
  by_cases h2 : (parts l).length = 2
  · obtain ⟨x, y, hxy⟩ : ∃ x y, parts l = [x, y] := by
      match parts l, h2 with
      | [x, y], _ => exact ⟨x, y, rfl⟩
    have hln : x.length + 1 + y.length = l.length := by have := (parts_two hxy).1; rw [this]; simp; omega
    rw [hxy] at HP
    have hlen := fun W => lenS 9 3 y Tryd.underlying9 W
    obtain ⟨y1, y2, y3, y4⟩ := emp_facts y
    go_enter Tryd.func7, Tryd.ntmps7
    go_wp2_with fail
    refine (HP.out _).mono ?_
    rintro e w2 ⟨⟨g, c, rfl, ho⟩, hb2⟩
    have R2 := R0.on hb2
    have x0 : w2.cell? ⟨g, 0, none⟩ = some (.string (bs x)) := World.ownsRow.cellAt ho 0 (by simp)
    have x1 : w2.cell? ⟨g, 1, none⟩ = some (.string (bs y)) := World.ownsRow.cellAt ho 1 (by simp)
    have hgz : g < w2.heap.size := cellLtP x0
    clear R0 hb2 ho HP
    simp only [List.length_cons, List.length_nil, Nat.zero_add, Nat.reduceAdd] at *
    by_cases h0 : 0 < y.length
    · rw [decide_eq_true h0] at y2 y3 y4
      have hix := fun W => idxS y (y.length - 1) ((y.length : Int) - 1) (by omega) (by omega) W
      by_cases h41 : y.getD (y.length - 1) 0 = 41
      · have z1 : ((y.getD (y.length - 1) 0).toNat : Int) = 41 := by rw [h41]; rfl
        simp only [z1] at hix
        have HR := Lib.hid (rd_seq hxy (List.length_pos_iff.1 h0) h41)
        have HS := Lib.hid (fun w => HQ.out x (y.take (y.length - 1)) w (by rw [List.length_take]; omega))
        have sl := fun W => toS y (y.length - 1) ((y.length : Int) - 1) (by omega) (by omega) W
        have wl : IntKind.i64.wrap ((y.length : Int) - 1) = (y.length : Int) - 1 := IntWalk.i64_in _ (by omega)
        generalize isSeq x (y.take (y.length - 1)) = ok at *
        generalize y.take (y.length - 1) = p at *
        generalize (y.length : Int) = ly at *
        clear h41 z1 h0 hxy hln h2 HQ hl
        go_wp2_with fail
        go_quiet (fail)
        go_wp2_with fail
        have hsz : (w2.drewN nq).heap.size = w2.heap.size := by simp
        have P2 : RdP w g x y (w2.drewN nq) := (RdP.on ⟨R2, hgz, x0, x1⟩ (below_drewN (Below.refl _ _) nq))
        have hlt2 := R2.lt
        clear x0 x1 R2
        refine wp_region_held_drew (S := (RdP w g x y)) (by kernel_rfl) ?_ (fun hHeld => ?_)
        · exact P2.on (Below.refl _ _).drew
        refine wpAnyH_take (i := 0) (v := ?_) rfl (by kernel_rfl) (by kernel_rfl) (by kernel_rfl) (fun _ _ _ h => h) (Or.inl ⟨by kernel_rfl, ?_⟩) hHeld ?_
        rotate_left
        · intro w hSw; obtain ⟨⟨lt, bel, c0, c1, f0, f1⟩, z, x0, x1⟩ := hSw; first | (go_simp; done) | (go_simp; with_reducible rfl)
        refine wpAnyH_take (i := 1) (v := ?_) rfl (by kernel_rfl) (by kernel_rfl) (by kernel_rfl) (fun _ _ _ h => h) (Or.inl ⟨by kernel_rfl, ?_⟩) hHeld ?_
        rotate_left
        · intro w hSw; obtain ⟨⟨lt, bel, c0, c1, f0, f1⟩, z, x0, x1⟩ := hSw; first | (go_simp; done) | (go_simp; with_reducible rfl)
        refine wpAnyH_take (i := 2) (v := ?_) rfl (by kernel_rfl) (by kernel_rfl) (by kernel_rfl) (fun _ _ _ h => h) (Or.inl ⟨by kernel_rfl, ?_⟩) hHeld ?_
        rotate_left
        · intro w hSw; obtain ⟨⟨lt, bel, c0, c1, f0, f1⟩, z, x0, x1⟩ := hSw; first | (go_simp; done) | (go_simp; with_reducible rfl)
        refine wpAnyH_take (i := 3) (v := ?_) rfl (by kernel_rfl) (by kernel_rfl) (by kernel_rfl) (fun _ _ _ h => h) (Or.inl ⟨by kernel_rfl, ?_⟩) hHeld ?_
        rotate_left
        · intro w hSw; obtain ⟨⟨lt, bel, c0, c1, f0, f1⟩, z, x0, x1⟩ := hSw; first | (go_simp; done) | (go_simp; with_reducible rfl)
        refine wpAnyH_take (i := 4) (v := ?_) rfl (by kernel_rfl) (by kernel_rfl) (by kernel_rfl) (fun _ _ _ h => h) (Or.inl ⟨by kernel_rfl, ?_⟩) hHeld ?_
        rotate_left
        · intro w hSw; obtain ⟨⟨lt, bel, c0, c1, f0, f1⟩, z, x0, x1⟩ := hSw; first | (go_simp; done) | (go_simp; with_reducible rfl)
        refine wpAnyH_take (i := 5) (v := ?_) rfl (by kernel_rfl) (by kernel_rfl) (by kernel_rfl) (fun _ _ _ h => h) (Or.inl ⟨by kernel_rfl, ?_⟩) hHeld ?_
        rotate_left
        · intro w hSw; obtain ⟨⟨lt, bel, c0, c1, f0, f1⟩, z, x0, x1⟩ := hSw; first | (go_simp; done) | (go_simp; with_reducible rfl)
        refine wpAnyH_take (i := 6) (v := ?_) rfl (by kernel_rfl) (by kernel_rfl) (by kernel_rfl) (fun _ _ _ h => h) (Or.inl ⟨by kernel_rfl, ?_⟩) hHeld ?_
        rotate_left
        · intro w hSw; obtain ⟨⟨lt, bel, c0, c1, f0, f1⟩, z, x0, x1⟩ := hSw; first | (go_simp; done) | (go_simp; with_reducible rfl)
        refine wpAnyH_take (i := 7) (v := ?_) rfl (by kernel_rfl) (by kernel_rfl) (by kernel_rfl) (fun _ _ _ h => h) (Or.inl ⟨by kernel_rfl, ?_⟩) hHeld ?_
        rotate_left
        · intro w hSw; obtain ⟨⟨lt, bel, c0, c1, f0, f1⟩, z, x0, x1⟩ := hSw; first | (go_simp; done) | (go_simp; with_reducible rfl)
        refine wpAnyH_take (i := 8) (v := ?_) rfl (by kernel_rfl) (by kernel_rfl) (by kernel_rfl) (fun _ _ _ h => h) (Or.inl ⟨by kernel_rfl, ?_⟩) hHeld ?_
        rotate_left
        · intro w hSw; obtain ⟨⟨lt, bel, c0, c1, f0, f1⟩, z, x0, x1⟩ := hSw; first | (go_simp; done) | (go_simp; with_reducible rfl)
        refine wpAnyH_take (i := 9) (v := ?_) rfl (by kernel_rfl) (by kernel_rfl) (by kernel_rfl) (fun _ _ _ h => h) (Or.inl ⟨by kernel_rfl, ?_⟩) hHeld ?_
        rotate_left
        · intro w hSw; obtain ⟨⟨lt, bel, c0, c1, f0, f1⟩, z, x0, x1⟩ := hSw; first | (go_simp; done) | (go_simp; with_reducible rfl)
        refine wpAnyH_take (i := 10) (v := ?_) rfl (by kernel_rfl) (by kernel_rfl) (by kernel_rfl) (fun _ _ _ h => h) (Or.inl ⟨by kernel_rfl, ?_⟩) hHeld ?_
        rotate_left
        · intro w hSw; obtain ⟨⟨lt, bel, c0, c1, f0, f1⟩, z, x0, x1⟩ := hSw; first | (go_simp; done) | (go_simp; with_reducible rfl)
        refine wpAnyH_take (i := 11) (v := ?_) rfl (by kernel_rfl) (by kernel_rfl) (by kernel_rfl) (fun _ _ _ h => h) (Or.inl ⟨by kernel_rfl, ?_⟩) hHeld ?_
        rotate_left
        · intro w hSw; obtain ⟨⟨lt, bel, c0, c1, f0, f1⟩, z, x0, x1⟩ := hSw; first | (go_simp; done) | (go_simp; with_reducible rfl)
        refine wpAnyH_take (i := 12) (v := ?_) rfl (by kernel_rfl) (by kernel_rfl) (by kernel_rfl) (fun _ _ _ h => h) (Or.inl ⟨by kernel_rfl, ?_⟩) hHeld ?_
        rotate_left
        · intro w hSw; obtain ⟨⟨lt, bel, c0, c1, f0, f1⟩, z, x0, x1⟩ := hSw; first | (go_simp; done) | (go_simp; with_reducible rfl)
        have P3 := (P2.on (Below.refl _ _).drew).on (belowAlloc (Below.refl _ _) (.cells #[.string ⟨#[]⟩, .string ⟨#[]⟩] 23))
        refine wpAnyH_ready (rs := [13]) (by kernel_rfl) (by simp) ?_
        refine AllReadyH.cons rfl (fun K hK => ?_) AllReadyH.nil
        go_simp
        refine hK.out _ _ ?_ (fun hHeld => ?_)
        · exact P3
        clear hK K
        have n0 : (((w2.drewN nq).drew).alloc (.cells #[.string ⟨#[]⟩, .string ⟨#[]⟩] 23)).cell? ⟨w2.heap.size, 0, none⟩ = some (.string ⟨#[]⟩) := by simp [go_sem, ← hsz]
        have n1 : (((w2.drewN nq).drew).alloc (.cells #[.string ⟨#[]⟩, .string ⟨#[]⟩] 23)).cell? ⟨w2.heap.size, 1, none⟩ = some (.string ⟨#[]⟩) := by simp [go_sem, ← hsz]
        have n0' : ((w2.drewN (nq + 1)).alloc (.cells #[.string ⟨#[]⟩, .string ⟨#[]⟩] 23)).cell? ⟨w2.heap.size, 0, none⟩ = some (.string ⟨#[]⟩) := n0
        have n1' : ((w2.drewN (nq + 1)).alloc (.cells #[.string ⟨#[]⟩, .string ⟨#[]⟩] 23)).cell? ⟨w2.heap.size, 1, none⟩ = some (.string ⟨#[]⟩) := n1
        have m0 : (((w2.drewN nq).drew).alloc (.cells #[.string ⟨#[]⟩, .string ⟨#[]⟩] 23)).frozen? ⟨w2.heap.size, 0, none⟩ = false := by simp [go_sem, ← hsz]
        have m1 : (((w2.drewN nq).drew).alloc (.cells #[.string ⟨#[]⟩, .string ⟨#[]⟩] 23)).frozen? ⟨w2.heap.size, 1, none⟩ = false := by simp [go_sem, ← hsz]
        have m0' : ((w2.drewN (nq + 1)).alloc (.cells #[.string ⟨#[]⟩, .string ⟨#[]⟩] 23)).frozen? ⟨w2.heap.size, 0, none⟩ = false := m0
        have m1' : ((w2.drewN (nq + 1)).alloc (.cells #[.string ⟨#[]⟩, .string ⟨#[]⟩] 23)).frozen? ⟨w2.heap.size, 1, none⟩ = false := m1
        have j1' : (((w2.drewN (nq + 1)).alloc (.cells #[.string ⟨#[]⟩, .string ⟨#[]⟩] 23)).setCell ⟨w2.heap.size, 0, none⟩ (.string (bs x))).cell? ⟨w2.heap.size, 1, none⟩ = some (.string ⟨#[]⟩) := by rw [World.cell?_setCell_other _ _ _ _ (by simp)]; exact n1'
        have t1' : (((w2.drewN (nq + 1)).alloc (.cells #[.string ⟨#[]⟩, .string ⟨#[]⟩] 23)).setCell ⟨w2.heap.size, 0, none⟩ (.string (bs x))).frozen? ⟨w2.heap.size, 1, none⟩ = false := by rw [World.frozen?_setCell]; exact m1'
        have S4 : RdS w w2.heap.size x p ((((w2.drewN (nq + 1)).alloc (.cells #[.string ⟨#[]⟩, .string ⟨#[]⟩] 23)).setCell ⟨w2.heap.size, 0, none⟩ (.string (bs x))).setCell ⟨w2.heap.size, 1, none⟩ (.string (bs p))) := rdS_of P3.R (by simp) hlt2 n0 n1
        have P4 : RdP w g x y (((((w2.drewN nq).drew).alloc (.cells #[.string ⟨#[]⟩, .string ⟨#[]⟩] 23)).setCell ⟨w2.heap.size, 0, none⟩ (.string (bs x))).setCell ⟨w2.heap.size, 1, none⟩ (.string (bs p))) := P3.put hlt2 (by omega) _ _
        refine wpAnyH_ready (rs := [14]) (by kernel_rfl) (by simp) ?_
        refine AllReadyH.cons rfl (fun K hK => ?_) AllReadyH.nil
        go_simp
        refine hK.out _ _ ?_ (fun hHeld => ?_)
        · exact P4
        clear hK K
        refine wpAnyH_done (by kernel_rfl) ?_ _
        generalize ((((w2.drewN (nq + 1)).alloc (.cells #[.string ⟨#[]⟩, .string ⟨#[]⟩] 23)).setCell ⟨w2.heap.size, 0, none⟩ (.string (bs x))).setCell ⟨w2.heap.size, 1, none⟩ (.string (bs p))) = w5 at *
        clear n0 n1 n0' n1' m0 m1 m0' m1' j1' t1' P2 P3 P4 hHeld
        go_wp2_with fail
        refine wp_region_held_drew (S := (RdS w w2.heap.size x p)) (by kernel_rfl) ?_ (fun hHeld => ?_)
        · exact S4.on (Below.refl _ _).drew
        refine wpAnyH_take (i := 0) (v := ?_) rfl (by kernel_rfl) (by kernel_rfl) (by kernel_rfl) (fun _ _ _ h => h) (Or.inl ⟨by kernel_rfl, ?_⟩) hHeld ?_
        rotate_left
        · intro w hSw; obtain ⟨lt, bel, e0, e1, f0, f1, zb, lb, o0, o1⟩ := hSw; first | (go_simp; done) | (go_simp; with_reducible rfl)
        refine wpAnyH_take (i := 1) (v := ?_) rfl (by kernel_rfl) (by kernel_rfl) (by kernel_rfl) (fun _ _ _ h => h) (Or.inl ⟨by kernel_rfl, ?_⟩) hHeld ?_
        rotate_left
        · intro w hSw; obtain ⟨lt, bel, e0, e1, f0, f1, zb, lb, o0, o1⟩ := hSw; first | (go_simp; done) | (go_simp; with_reducible rfl)
        refine wpAnyH_ready (rs := [2]) (by kernel_rfl) (by simp) ?_
        refine AllReadyH.cons rfl (fun K hK => ?_) AllReadyH.nil
        go_simp
        go_wp2_with (go_at_call 13; (with_reducible refine (HS.out _).mono ?_); rintro e w6 ⟨rfl, hb6⟩)
        have S6 := hHeld.on hb6
        refine hK.out _ _ ?_ (fun hHeld => ?_)
        · exact S6
        clear hK K
        obtain ⟨lt, bel, ⟨v0, c0⟩, ⟨v1, c1⟩, f0, f1, zb, lb, o0, o1⟩ := id S6
        refine wpAnyH_ready (rs := [3]) (by kernel_rfl) (by simp) ?_
        refine AllReadyH.cons rfl (fun K hK => ?_) AllReadyH.nil
        go_simp
        refine hK.out _ _ ?_ (fun hHeld => ?_)
        · exact S6.put _ _
        clear hK K
        refine wpAnyH_take (i := 4) (v := ?_) rfl (by kernel_rfl) (by kernel_rfl) (by kernel_rfl) (fun _ _ _ h => h) (Or.inl ⟨by kernel_rfl, ?_⟩) hHeld ?_
        rotate_left
        · intro w hSw; obtain ⟨lt, bel, e0, e1, f0, f1, zb, lb, o0, o1⟩ := hSw; first | (go_simp; done) | (go_simp; with_reducible rfl)
        refine wpAnyH_done (by kernel_rfl) ?_ _
        obtain ⟨q0, q1⟩ := putP (W := w6) (b := w.heap.size) (u0 := .string (bs x)) (u1 := .string (bs p)) c0 c1
        have QB := (S6.put (.string (bs x)) (.string (bs p))).below
        go_wp2
        refine bodyPost_ret (v := .tuple #[sqV x p, .bool ok]) (by simp [results, Tryd.results7, go_sem, sqV, q0, q1]) rfl ⟨⟨x, p, ok, rfl, HR⟩, QB⟩
      · have hz : ((y.getD (y.length - 1) 0).toNat : Int) ≠ 41 := by
          intro h
          apply h41
          have : (y.getD (y.length - 1) 0).toNat = 41 := by omega
          exact UInt8.toNat_inj.1 this
        have z1 : (((y.getD (y.length - 1) 0).toNat : Int) == 41) = false := beq_eq_false_iff_ne.2 hz
        have HRF : Hid (RdIs l [] [] false) := Lib.hid (rd_last hxy (.inr h41))
        have wl : IntKind.i64.wrap ((y.length : Int) - 1) = (y.length : Int) - 1 := IntWalk.i64_in _ (by omega)
        generalize ((y.getD (y.length - 1) 0).toNat : Int) = ch at *
        generalize (y.length : Int) = ly at *
        clear h41 h0 hxy hln h2 HQ hl
        go_wp2_with fail
        go_quiet (fail)
        have R2 := R2.on (below_drewN (Below.refl _ _) nq)
        clear x0 x1
        obtain ⟨r1, r2, r5, r6, r7, r8⟩ := id R2
        go_wp2
        refine bodyPost_ret (v := .tuple #[sqV [] [], .bool false]) (by simp [results, Tryd.results7, go_sem, sqV, bs, r5, r6]) rfl ⟨⟨[], [], false, rfl, HRF⟩, ?_⟩
        (repeat' (first | (with_reducible exact Below.refl _ _) | (with_reducible assumption) | (with_reducible refine belowNext ?_ (by with_reducible assumption)) | (with_reducible refine belowAlloc ?_ _) | (with_reducible refine Below.drew ?_) | (with_reducible refine below_drewN ?_ _) | (with_reducible refine Below.setCell ?_ ?_ _) | go_size | (with_reducible refine sizeOf' ?_) | (with_reducible refine sizeAdd ?_) | (dsimp only; first | (with_reducible refine sizeOf' ?_) | (with_reducible refine sizeAdd ?_))))
    · have HRF : Hid (RdIs l [] [] false) := Lib.hid (rd_last hxy (.inl (List.eq_nil_of_length_eq_zero (by omega))))
      rw [decide_eq_false h0] at y2 y3 y4
      clear h0 hxy hln h2 HQ hl
      go_wp2_with fail
      go_quiet (fail)
      have R2 := R2.on (below_drewN (Below.refl _ _) nq)
      clear x0 x1
      obtain ⟨r1, r2, r5, r6, r7, r8⟩ := id R2
      go_wp2
      refine bodyPost_ret (v := .tuple #[sqV [] [], .bool false]) (by simp [results, Tryd.results7, go_sem, sqV, bs, r5, r6]) rfl ⟨⟨[], [], false, rfl, HRF⟩, ?_⟩
      (repeat' (first | (with_reducible exact Below.refl _ _) | (with_reducible assumption) | (with_reducible refine belowNext ?_ (by with_reducible assumption)) | (with_reducible refine belowAlloc ?_ _) | (with_reducible refine Below.drew ?_) | (with_reducible refine below_drewN ?_ _) | (with_reducible refine Below.setCell ?_ ?_ _) | go_size | (with_reducible refine sizeOf' ?_) | (with_reducible refine sizeAdd ?_) | (dsimp only; first | (with_reducible refine sizeOf' ?_) | (with_reducible refine sizeAdd ?_))))
  · have HRF : Hid (RdIs l [] [] false) := Lib.hid (rd_len h2)
    have hb : (((parts l).length : Int) == 2) = false := beq_eq_false_iff_ne.2 (by omega)
    have hbn : (((parts l).length : Int) != 2) = true := by rw [bne, hb]; rfl
    generalize (parts l).length = pl at *
    go_enter Tryd.func7, Tryd.ntmps7
    go_wp2_with fail
    refine (HP.out _).mono ?_
    rintro e w2 ⟨⟨g, c, rfl, ho⟩, hb2⟩
    have R2 := R0.on hb2
    clear R0 hb2 ho HP HQ
    go_wp2_with fail
    go_quiet (fail)
    have R2 := R2.on (below_drewN (Below.refl _ _) nq)
    obtain ⟨r1, r2, r5, r6, r7, r8⟩ := id R2
    go_wp2
    refine bodyPost_ret (v := .tuple #[sqV [] [], .bool false]) (by simp [results, Tryd.results7, go_sem, sqV, bs, r5, r6]) rfl ⟨⟨[], [], false, rfl, HRF⟩, ?_⟩
    (repeat' (first | (with_reducible exact Below.refl _ _) | (with_reducible assumption) | (with_reducible refine belowNext ?_ (by with_reducible assumption)) | (with_reducible refine belowAlloc ?_ _) | (with_reducible refine Below.drew ?_) | (with_reducible refine below_drewN ?_ _) | (with_reducible refine Below.setCell ?_ ?_ _) | go_size | (with_reducible refine sizeOf' ?_) | (with_reducible refine sizeAdd ?_) | (dsimp only; first | (with_reducible refine sizeOf' ?_) | (with_reducible refine sizeAdd ?_))))
end Go.Proofs.YtcgdlimhhcmjhaaDoor

/-
  Contracts: AdmissibleWords, on both sides; the walk of its law; written by genAW.py.
-/
import Derived.Test.YtdemgialagjomaaAWM
import Derived.Test.YtdemgialagjomaaTA
import Derived.Maps.AppendAt
import Derived.Deep.LoopGhost
namespace Go.Proofs.Ytdemgialagjomaa
open Go.RowKit

def strW (ps : List Wd) : List Value := ps.map fun p => Value.string (bs p)
theorem strW_len (ps : List Wd) : (strW ps).length = ps.length := by simp [strW]
theorem strW_app (a b : List Wd) : strW (a ++ b) = strW a ++ strW b := by simp [strW]
theorem infoT : (Try.prog.info? 9).map (fun i => (i.zero, i.size, i.bytes)) = some (some (.string ⟨#[]⟩), 1, 16) := by kernel_rfl
theorem infoT_parts {t : TypeId} {z : Value} {s b : Nat} (h : (Try.prog.info? t).map (fun i => (i.zero, i.size, i.bytes)) = some (some z, s, b)) : ∃ i : TypeInfo, Try.prog.info? t = some i ∧ i.zero = some z ∧ i.size = s ∧ i.bytes = b := by
  cases hi : Try.prog.info? t with
  | none => rw [hi] at h; cases h
  | some i =>
    rw [hi] at h
    simp only [Option.map_some, Option.some.injEq, Prod.mk.injEq] at h
    exact ⟨i, rfl, h.1, h.2.1, h.2.2⟩
theorem cell_oneW (w : World) (u : Value) (t : TypeId) : ∀ j v, [u][j]? = some v → (w.alloc (.cells #[u] t)).cell? ((⟨w.heap.size, 0, none⟩ : Addr).add j) = some v := by
  intro j v hj
  match j, hj with
  | 0, hj => simp at hj; subst hj; simp [Addr.add]
  | j + 1, hj => simp at hj
theorem cell_twoW (w : World) (x y : Value) (t : TypeId) : ∀ j u, [x, y][j]? = some u → (w.alloc (.cells #[x, y] t)).cell? ((⟨w.heap.size, 0, none⟩ : Addr).add j) = some u := by
  intro j u hj
  match j, hj with
  | 0, hj => simp at hj; subst hj; simp [Addr.add]
  | 1, hj => simp at hj; subst hj; simp [Addr.add]
  | j + 2, hj => simp at hj
theorem formW {W : World} {e : TypeId} {size : Nat} {v : Value} {n : Nat} {xs : List Value} {lo : Nat} (h : W.ownsRow lo e size v n xs) (hn : 0 < n) : ∃ g c, v = .slice (some ⟨g, 0, none⟩) n c := by
  obtain ⟨g, c, hv, _⟩ := h.form hn
  exact ⟨g, c, hv⟩
theorem ownW_keep {W1 W2 : World} {e : TypeId} {size : Nat} {v : Value} {n : Nat} {xs : List Value} {lo : Nat} (h : W1.ownsRow lo e size v n xs) (hb : Below W1.heap.size W1 W2) : W2.ownsRow lo e size v n xs :=
  h.kept (row := none) ⟨hb.os, hb.tape, hb.output, hb.size, fun i hi _ => hb.block i hi⟩ (by cases hv : v.ownBlock <;> simp)
/-- A row of texts that is owned can be written. -/
theorem ownW_low {W : World} {e : TypeId} {size : Nat} {v : Value} {n : Nat} {xs : List Value} {lo lo' : Nat} (h : W.ownsRow lo e size v n xs) (hl : lo' ≤ lo) : W.ownsRow lo' e size v n xs := by
  refine ⟨h.1, ?_⟩
  rcases h.2 with h1 | ⟨g, cap, cur, h1, h2, h3⟩
  · exact .inl h1
  · exact .inr ⟨g, cap, cur, h1, Nat.le_trans hl h2, h3⟩
theorem strOwn_of {W : World} {lo n c : Nat} {A : Option Addr} {l : List Wd} (hn : l.length = n) (h : W.ownsRow lo 9 1 (.slice A n c) n (strW l)) : StrOwn W lo A l := by
  intro hne
  have h0 : 0 < n := by rw [← hn]; exact List.length_pos_iff.mpr hne
  obtain ⟨g, c', hv, hlo, hg⟩ := h.form h0
  injection hv with hA _ _
  subst hA
  refine ⟨g, 0, rfl, hlo, hg, fun i x hi => ⟨?_, ?_⟩⟩
  · have h1 : (strW l)[i]? = some (.string (bs x)) := by unfold strW; rw [List.getElem?_map, hi]; rfl
    have := h.cells (g := g) rfl i _ h1
    rw [Nat.zero_add]
    refine Eq.trans ?_ this
    cases i <;> simp [Addr.add]
  · have := h.frozenAt (0 + i)
    exact this
/-- A list of texts in new memory, and a code. -/
def ResStr (w : World) (l : List Wd) (c : Int) (e : Ending) (w' : World) : Prop :=
  ∃ A cap, e = .returned (.tuple #[.slice A l.length cap, .int .i64 c]) ∧ StrOwn w' w.heap.size A l ∧ Below w.heap.size w w'
theorem ownS_nil {w : World} {lo : Nat} {A : Option Addr} : StrOwn w lo A [] := fun h => absurd rfl h
theorem ownS1 {w : World} (W : World) (B : Below w.heap.size w W) (T : TypeId) (a : Wd) (g : Nat) (hg : g = W.heap.size) : StrOwn (W.alloc (.cells #[.string (bs a)] T)) w.heap.size (some ⟨g, 0, none⟩) [a] := by
  subst hg
  intro _
  refine ⟨W.heap.size, 0, rfl, B.size, by simp, fun i n hi => ?_⟩
  match i, hi with
  | 0, hi => simp at hi; subst hi; exact ⟨by simp [go_sem], by simp [go_sem]⟩
/-- The words of the next length, made of the first k. -/
def nxW (l : List Wd) (k : Nat) : List Wd := (l.take k).flatMap fun w => [w ++ [48], w ++ [49]]
theorem nxW_next {l : List Wd} {k : Nat} {x : Wd} (h : l[k]? = some x) : nxW l (k + 1) = nxW l k ++ [x ++ [48], x ++ [49]] := by
  unfold nxW
  rw [List.take_add_one, h, Option.toList_some, List.flatMap_append]
  simp
theorem nxW_len (l : List Wd) : ∀ k, k ≤ l.length → (nxW l k).length = 2 * k
  | 0, _ => rfl
  | k + 1, h => by
    rw [nxW_next (List.getElem?_eq_getElem (show k < l.length by omega)), List.length_append, nxW_len l k (by omega)]
    simp; omega
theorem nxW_all (m : Nat) : nxW (lvlW m) (lvlW m).length = lvlW (m + 1) := by
  unfold nxW
  rw [List.take_length]
  rfl
/-- The words with the star put behind the first k. -/
def stW (l : List Wd) (k : Nat) : List Wd := (l.take k).map (fun w => w ++ [42]) ++ l.drop k
theorem stW_all (l : List Wd) : stW l l.length = l.map fun w => w ++ [42] := by simp [stW]
theorem stW_zero (l : List Wd) : stW l 0 = l := by simp [stW]
theorem stW_len (l : List Wd) (k : Nat) : (stW l k).length = l.length := by
  unfold stW
  rw [List.length_append, List.length_map, List.length_take, List.length_drop]
  rcases Nat.le_total k l.length with h | h
  · rw [Nat.min_eq_left h]; omega
  · rw [Nat.min_eq_right h]; omega
theorem stW_at {l : List Wd} {k : Nat} (h : k < l.length) : (stW l k)[k]? = some l[k] := by
  unfold stW
  rw [List.getElem?_append_right (by simp; omega)]
  simp only [List.length_map, List.length_take]
  rw [List.getElem?_drop, show k + (k - min k l.length) = k by omega, List.getElem?_eq_getElem h]
theorem stW_next {l : List Wd} {k i : Nat} (h : k < l.length) : (stW l (k + 1))[i]? = if i = k then some (l[k] ++ [42]) else (stW l k)[i]? := by
  unfold stW
  rcases Nat.lt_trichotomy i k with e | e | e
  · rw [if_neg (by omega), List.getElem?_append_left (by simp; omega), List.getElem?_append_left (by simp; omega), List.getElem?_map, List.getElem?_map, List.getElem?_take_of_lt (by omega), List.getElem?_take_of_lt e]
  · subst e
    rw [if_pos rfl, List.getElem?_append_left (by simp; omega), List.getElem?_map, List.getElem?_take_of_lt (by omega), List.getElem?_eq_getElem h]
    rfl
  · rw [if_neg (by omega), List.getElem?_append_right (by simp; omega), List.getElem?_append_right (by simp; omega)]
    simp only [List.length_map, List.length_take]
    rw [List.getElem?_drop, List.getElem?_drop]
    congr 1; omega

theorem stW_step {W : World} {lo g k : Nat} {l : List Wd} (hk : k < l.length) (h : StrOwn W lo (some ⟨g, 0, none⟩) (stW l k)) : StrOwn (W.setCell ⟨g, k, none⟩ (.string (bs (l[k] ++ [42])))) lo (some ⟨g, 0, none⟩) (stW l (k + 1)) := by
  have hne : stW l k ≠ [] := by intro e; have := congrArg List.length e; rw [stW_len, List.length_nil] at this; omega
  obtain ⟨b, off, e, h1, h2, hc⟩ := h hne
  injection e with e
  injection e with e1 e2 _
  subst e1
  subst e2
  intro _
  refine ⟨g, 0, rfl, h1, by simpa using h2, fun i x hi => ?_⟩
  rw [stW_next hk] at hi
  by_cases e : i = k
  · subst e
    rw [if_pos rfl] at hi
    injection hi with hi
    subst hi
    obtain ⟨a1, a2⟩ := hc i _ (stW_at hk)
    rw [Nat.zero_add] at a1 a2 ⊢
    exact ⟨World.cell?_setCell_same _ _ _ a1, by simpa using a2⟩
  · rw [if_neg e] at hi
    obtain ⟨a1, a2⟩ := hc i _ hi
    exact ⟨(World.cell?_setCell_other _ _ _ _ (by intro q; injection q; omega)).trans a1, by simpa using a2⟩
/-- What a row of texts holds, cell by cell. -/
theorem strCell {W : World} {lo n g c : Nat} {l : List Wd} (h : W.ownsRow lo 9 1 (.slice (some ⟨g, 0, none⟩) n c) n (strW l)) {i : Nat} {x : Wd} (hi : l[i]? = some x) : W.cell? ⟨g, i, none⟩ = some (.string (bs x)) := by
  have h1 : (strW l)[i]? = some (.string (bs x)) := by unfold strW; rw [List.getElem?_map, hi]; rfl
  refine Eq.trans ?_ (h.cells (g := g) rfl i _ h1)
  cases i <;> simp [Addr.add]

set_option maxRecDepth 8000 in
set_option maxHeartbeats 4000000 in
theorem implStar (n : Nat) (w : World) (h1 : 1 ≤ n) (h2 : n ≤ 10) :
    Calls Try.prog 11 #[.int .i64 (n : Int)] w fun e w' => ∃ A c, e = .returned (.slice A (starW n).length c) ∧ StrOwn w' w.heap.size A (starW n) ∧ Below w.heap.size w w' := by
  obtain ⟨i0, hi, hz0, hz1, hz2⟩ := infoT_parts infoT
  by_cases e1 : n = 1
  · subst e1
    have e : starW 1 = [[42]] := by unfold starW; rw [if_pos rfl]
    rw [e]
    clear e
    go_enter Try.func11, Try.ntmps11
    go_wp2
    go_ret
    exact ⟨some ⟨w.heap.size, 0, none⟩, 1, rfl, ownS1 w (Below.refl _ _) _ [42] _ rfl, by (repeat' (first | (with_reducible exact Below.refl _ _) | (with_reducible assumption) | (with_reducible refine belowNext ?_ (by with_reducible assumption)) | (with_reducible refine belowAlloc ?_ _) | (with_reducible refine Below.drew ?_) | (with_reducible refine below_drewN ?_ _) | (with_reducible refine Below.setCell ?_ ?_ _) | go_size | (with_reducible refine sizeOf' ?_) | (with_reducible refine sizeAdd ?_) | (dsimp only; first | (with_reducible refine sizeOf' ?_) | (with_reducible refine sizeAdd ?_))))⟩
  · obtain ⟨m, rfl⟩ : ∃ m, n = m + 2 := ⟨n - 2, by omega⟩
    have e : starW (m + 2) = (lvlW m).map fun x => x ++ [42] := by unfold starW; rw [if_neg e1]; rfl
    have HE := Lib.hid e
    have d1 : (((m + 2 : Nat) : Int) == 1) = false := beq_eq_false_iff_ne.2 (by omega)
    have d2 : IntKind.i64.wrap (((m + 2 : Nat) : Int) - 2) = (m : Int) := by rw [IntWalk.i64_in _ (by omega)]; omega
    have hm8 : m ≤ 8 := by omega
    generalize ((m + 2 : Nat) : Int) = N at *
    clear e e1
    go_enter Try.func11, Try.ntmps11
    go_wp2_with fail
    have O0 : (w.alloc (.cells #[.string (bs [49])] 9)).ownsRow w.heap.size 9 1 (.slice (some ⟨w.heap.size, 0, none⟩) 1 1) 1 (strW (lvlW 0)) := ⟨rfl, .inr ⟨w.heap.size, 1, #[.string (bs [49])], rfl, Nat.le_refl _, heap_alloc_new w (.cells #[.string (bs [49])] 9), Nat.le_refl _, by unfold maxLen; omega, rfl, rfl⟩⟩
    have B0 : Below w.heap.size w (w.alloc (.cells #[.string (bs [49])] 9)) := belowAlloc (Below.refl _ _) _
    have HLc : Hid (∀ k, k ≤ 8 → (lvlW k).length ≤ 256) := Lib.hid (fun k hk => by rw [lvl_count]; exact Nat.pow_le_pow_right (n := 2) (by omega) hk)
    have HLl := Lib.hid lvl_len
    go_loopg [3, 14] m (fun g s3 s14 wr => ∃ k G c : Nat, k + g = m ∧ s14 = .int .i64 k ∧ s3 = .slice (some ⟨G, 0, none⟩) (lvlW k).length c ∧ Hid (wr.ownsRow w.heap.size 9 1 (.slice (some ⟨G, 0, none⟩) (lvlW k).length c) (lvlW k).length (strW (lvlW k))) ∧ Hid (Below w.heap.size w wr))
    case atStart => exact ⟨0, w.heap.size, 1, by omega, rfl, rfl, Lib.hid O0, Lib.hid B0⟩
    case round =>
      clear O0 B0
      obtain ⟨k, G, c, hkg, rfl, rfl, HO, HB⟩ := hrel
      have HKG := Lib.hid hkg
      have hl256 := HLc.out k (by omega)
      have hll := HLl.out k
      cases gk with
      | succ g =>
        have d3 : decide ((k : Int) < (m : Int)) = true := decide_eq_true (by omega)
        have d3n : decide (k < m) = true := decide_eq_true (by omega)
        have d3p : (k < m) = True := eq_true (by omega)
        have hnx := nxW_all k
        have hnl := nxW_len (lvlW k)
        have HEq : Hid (nxW (lvlW k) (lvlW k).length = lvlW (k + 1)) := Lib.hid hnx
        obtain ⟨l, hl⟩ : ∃ l, lvlW k = l := ⟨_, rfl⟩
        rw [hl] at HO hl256 hnl HEq hll
        rw [hl]
        have hG : G < wr.heap.size := (HO.out.lt G rfl).2
        have HNl := Lib.hid hnl
        have HLL := Lib.hid hll
        clear hnx hl hnl hll
        obtain ⟨W0, rfl⟩ : ∃ x, x = wr := ⟨_, rfl⟩
        go_wp2_with fail
        go_loopg [4, 18] l.length (fun g s4 s18 wr => ∃ (j : Nat) (A : Option Addr) (c2 : Nat), j + g = l.length ∧ s18 = .int .i64 j ∧ s4 = .slice A (nxW l j).length c2 ∧ Hid (wr.ownsRow W0.heap.size 9 1 (.slice A (nxW l j).length c2) (nxW l j).length (strW (nxW l j))) ∧ Hid (Below W0.heap.size W0 wr))
        case atStart => exact ⟨0, none, 0, by omega, rfl, rfl, Lib.hid (World.ownsRow_nil _ _ _ _), Lib.hid (Below.refl _ _)⟩
        case round =>
          obtain ⟨j, A, c2, hjg, rfl, rfl, HN, HB2⟩ := hrel
          have HJG := Lib.hid hjg
          cases gk with
          | succ g2 =>
            have hjl : j < l.length := by omega
            have hx : l[j]? = some l[j] := List.getElem?_eq_getElem hjl
            have x0 := cellThru HB2.out hG (strCell HO.out hx)
            have hGw : G < wr.heap.size := Nat.lt_of_lt_of_le hG HB2.out.size
            have hxl : l[j].length = k + 1 := HLL.out _ (List.getElem_mem hjl)
            have hnn := HNl.out j (by omega)
            have HX := Lib.hid (nxW_next hx)
            generalize l[j] = x at *
            have ct0 : ∀ W, (Op.stringOp .add (bs x) ⟨#[48]⟩).run Try.prog W = .ok (.string (bs (x ++ [48]))) W := fun W => catO x [48] (by simp; omega) W
            have ct1 : ∀ W, (Op.stringOp .add (bs x) ⟨#[49]⟩).run Try.prog W = .ok (.string (bs (x ++ [49]))) W := fun W => catO x [49] (by simp; omega) W
            obtain ⟨M, hM⟩ : ∃ M, nxW l j = M := ⟨_, rfl⟩
            rw [hM] at HN HX hnn
            rw [hM]
            have HXl : Hid ((nxW l (j + 1)).length = M.length + 2) := Lib.hid (by rw [HX.out]; simp)
            have hW9 : W0.heap.size ≤ wr.heap.size := HB2.out.size
            have hM512 : M.length ≤ 512 := by omega
            clear hx hM hxl hjg hnn
            go_wp2_with (at_builtin; refine wpList_append_own_at _ rfl _ _ 22 rfl W0.heap.size 9 i0 (.string ⟨#[]⟩) 1 16 Try.underlying22 hi hz0 hz1 hz2 rfl (by decide) (.slice A M.length c2) M.length (strW M) rfl (World.ownsRow.alloc HN.out _) ⟨_, 0, none⟩ 2 2 [.string (bs (x ++ [48])), .string (bs (x ++ [49]))] rfl rfl (cell_twoW _ _ _ _) ?c2 ?c3 ?c4 ?c5 ?_)
            case c2 => intro u hu; simp at hu; first | (subst hu; rfl) | (rcases hu with rfl | rfl <;> rfl)
            case c3 => unfold maxLen; omega
            case c4 => omega
            case c5 => first | omega | (simp; omega)
            intro v2 w8 hown' hgrow _ _
            obtain ⟨gn, capn, rfl⟩ := formW hown' (by omega)
            have HN8 : Hid (w8.ownsRow W0.heap.size 9 1 (.slice (some ⟨gn, 0, none⟩) (M.length + 2) capn) (M.length + 2) (strW (nxW l (j + 1)))) := Lib.hid (by rw [HX.out, strW_app]; exact hown')
            have HB8 : Hid (Below W0.heap.size W0 w8) := Lib.hid ((belowNext HB2.out (belowAlloc (Below.refl _ _) _)).grown hgrow (belowNext HB2.out (belowAlloc (Below.refl _ _) (.cells #[.string (bs (x ++ [48])), .string (bs (x ++ [49]))] 9))).size (fun q hq => (HN.out.lt q hq).1))
            clear hown' hgrow HN HB2 ct0 ct1 x0
            go_wp2
            go_roundg g2
            case measure => omega
            case rel => exact ⟨j + 1, some ⟨gn, 0, none⟩, capn, by have := HJG.out; omega, by go_num, by rw [HXl.out], by rw [HXl.out]; exact HN8, HB8⟩
          | zero =>
            obtain rfl : j = l.length := by omega
            rw [HEq.out] at HN ⊢
            have h0 : 0 < (lvlW (k + 1)).length := by rw [lvl_count]; exact Nat.pow_pos (by omega)
            obtain ⟨gn, c3, hv⟩ := formW HN.out h0
            injection hv with hA _ hc
            subst hA
            subst hc
            have HN9 := Lib.hid (ownW_low HN.out HB.out.size)
            have HB9 : Hid (Below w.heap.size w wr) := Lib.hid (belowNext HB.out HB2.out)
            clear HN HB2 hjg h0
            go_wp2
            go_roundg g
            case measure => omega
            case rel => exact ⟨k + 1, gn, c2, by have := HKG.out; omega, by go_num, rfl, HN9, HB9⟩
      | zero =>
        obtain rfl : k = m := by omega
        obtain ⟨l, hl⟩ : ∃ l, lvlW k = l := ⟨_, rfl⟩
        rw [hl] at HO hl256 hll
        rw [hl]
        have HLL := Lib.hid hll
        rw [hl] at HE
        have hG := HO.out.lt G rfl
        have HS0 : Hid (StrOwn wr w.heap.size (some ⟨G, 0, none⟩) (stW l 0)) := Lib.hid (by rw [stW_zero]; exact strOwn_of rfl HO.out)
        have hsz := HB.out.size
        clear hl hll HO hkg
        obtain ⟨W0, rfl⟩ : ∃ x, x = wr := ⟨_, rfl⟩
        go_wp2_with fail
        go_loopg [34] l.length (fun g s34 wr => ∃ (j : Nat), j + g = l.length ∧ s34 = .int .i64 j ∧ Hid (StrOwn wr w.heap.size (some ⟨G, 0, none⟩) (stW l j)) ∧ Hid (Below w.heap.size w wr) ∧ W0.heap.size ≤ wr.heap.size)
        case atStart => exact ⟨0, by omega, rfl, HS0, HB, Nat.le_refl _⟩
        case round =>
          clear HS0
          obtain ⟨j, hjg, rfl, HS, HB2, hsw⟩ := hrel
          have HJG := Lib.hid hjg
          cases gk with
          | succ g2 =>
            have hjl : j < l.length := by omega
            have hx := stW_at hjl
            have hne : stW l j ≠ [] := by intro e; have := congrArg List.length e; rw [stW_len, List.length_nil] at this; omega
            obtain ⟨b, off, e, h1, h2, hc⟩ := HS.out hne
            injection e with e
            injection e with e1 e2 _
            subst e1
            subst e2
            obtain ⟨x0, x2⟩ := hc j _ hx
            rw [Nat.zero_add] at x0 x2
            have hxl : l[j].length = k + 1 := HLL.out _ (List.getElem_mem hjl)
            have HST := Lib.hid (stW_step hjl HS.out)
            have HB9 : Hid (Below w.heap.size w (wr.setCell ⟨G, j, none⟩ (.string (bs (l[j] ++ [42]))))) := Lib.hid (HB2.out.setCell h1 _)
            generalize l[j] = x at *
            have ct0 : ∀ W, (Op.stringOp .add (bs x) ⟨#[42]⟩).run Try.prog W = .ok (.string (bs (x ++ [42]))) W := fun W => catO x [42] (by simp; omega) W
            clear hc hx hne HS HB2 hjg hxl
            go_wp2
            go_roundg g2
            case measure => omega
            case rel => exact ⟨j + 1, by have := HJG.out; omega, by go_num, HST, HB9, by simpa using hsw⟩
          | zero =>
            obtain rfl : j = l.length := by omega
            have hS := HS.out
            rw [stW_all] at hS
            have HS2 := Lib.hid hS
            clear hS HS hjg
            go_wp2
            go_ret
            exact ⟨some ⟨G, 0, none⟩, c, by rw [HE.out, List.length_map]; rfl, by rw [HE.out]; exact HS2.out, HB2.out⟩
end Go.Proofs.Ytdemgialagjomaa

/-
  Contracts: AdmissibleWords, on both sides; the walk of its law; written by genAX.py.
-/
import Derived.Test.YtdemgialagjomaaAW
namespace Go.Proofs.Ytdemgialagjomaa
open Go.RowKit

noncomputable def admL (n : Int) : List Wd := if 1 ≤ n ∧ n ≤ 10 then goodL (starW n.toNat) else []
def admC (n : Int) : Int := if 1 ≤ n ∧ n ≤ 10 then 0 else 2
theorem star_count {n : Nat} (h1 : 1 ≤ n) (h2 : n ≤ 10) : (starW n).length ≤ 256 := by
  unfold starW
  split
  · simp
  · rw [List.length_map, lvl_count]
    exact Nat.pow_le_pow_right (n := 2) (by omega) (show n - 2 ≤ 8 by omega)
theorem adm_len (n : Int) : (admL n).length ≤ 256 := by
  unfold admL
  split
  · exact Nat.le_trans (good_len _) (star_count (by omega) (by omega))
  · simp

set_option maxRecDepth 8000 in
set_option maxHeartbeats 4000000 in
theorem implAdm (n : Int) (w : World) : Calls Try.prog 5 #[.int .i64 n] w (ResStr w (admL n) (admC n)) := by
  obtain ⟨i0, hi, hz0, hz1, hz2⟩ := infoT_parts infoT
  by_cases h1 : n < 1
  · have e : admL n = [] ∧ admC n = 2 := by unfold admL admC; rw [if_neg (by omega), if_neg (by omega)]; exact ⟨rfl, rfl⟩
    rw [e.1, e.2]
    have d1 : decide (n < 1) = true := decide_eq_true h1
    clear e
    go_enter Try.func5, Try.ntmps5
    go_wp2
    go_ret2
    exact ⟨none, 0, rfl, ownS_nil, Below.refl _ _⟩
  by_cases h2 : n > 10
  · have e : admL n = [] ∧ admC n = 2 := by unfold admL admC; rw [if_neg (by omega), if_neg (by omega)]; exact ⟨rfl, rfl⟩
    rw [e.1, e.2]
    have d1 : decide (n < 1) = false := decide_eq_false h1
    have d2 : decide (n > 10) = true := decide_eq_true h2
    clear e
    go_enter Try.func5, Try.ntmps5
    go_wp2
    go_ret2
    exact ⟨none, 0, rfl, ownS_nil, Below.refl _ _⟩
  · obtain ⟨m, rfl⟩ : ∃ m : Nat, n = (m : Int) := ⟨n.toNat, by omega⟩
    have hm1 : 1 ≤ m := by omega
    have hm2 : m ≤ 10 := by omega
    have e : admL (m : Int) = goodL (starW m) ∧ admC (m : Int) = 0 := by unfold admL admC; rw [if_pos (by omega), if_pos (by omega)]; exact ⟨rfl, rfl⟩
    have HE := Lib.hid e
    have HS := Lib.hid (fun w => implStar m w hm1 hm2)
    have HOk := Lib.hid (fun y hy => star_ok (y := y) hm1 hm2 hy)
    have hc := star_count hm1 hm2
    have HG := Lib.hid (fun (y : Wd) w h1 h2 => implGood [] y w h1 h2)
    rw [e.1, e.2]
    generalize starW m = L at *
    clear e HE
    go_enter Try.func5, Try.ntmps5
    go_wp2_with fail
    refine (HS.out _).mono ?_
    rintro e w1 ⟨A, c, rfl, ho, hb1⟩
    have HO := Lib.hid ho
    have HB1 := Lib.hid hb1
    clear ho hb1
    obtain ⟨W1, rfl⟩ : ∃ x, x = w1 := ⟨_, rfl⟩
    go_wp2_with fail
    go_loopg [4, 16] L.length (fun g s4 s16 wr => ∃ (j : Nat) (A4 : Option Addr) (c4 : Nat), j + g = L.length ∧ s16 = .int .i64 j ∧ s4 = .slice A4 (goodL (L.take j)).length c4 ∧ Hid (wr.ownsRow W1.heap.size 9 1 (.slice A4 (goodL (L.take j)).length c4) (goodL (L.take j)).length (strW (goodL (L.take j)))) ∧ Hid (Below W1.heap.size W1 wr))
    case atStart => exact ⟨0, none, 0, by omega, rfl, rfl, Lib.hid (World.ownsRow_nil _ _ _ _), Lib.hid (Below.refl _ _)⟩
    case round =>
      obtain ⟨j, A4, c4, hjg, rfl, rfl, HN, HB2⟩ := hrel
      have HJG := Lib.hid hjg
      cases gk with
      | succ g2 =>
        have hjl : j < L.length := by omega
        have hx : L[j]? = some L[j] := List.getElem?_eq_getElem hjl
        obtain ⟨b, off, rfl, hlo, hz, hcs⟩ := HO.out (by intro e; rw [e] at hjl; simp at hjl)
        have x0 := cellThru HB2.out hz (hcs j _ hx).1
        have hzw : b < wr.heap.size := Nat.lt_of_lt_of_le hz HB2.out.size
        have hok := HOk.out _ (List.getElem_mem hjl)
        have hgl : (goodL (L.take j)).length ≤ 256 := Nat.le_trans (good_len _) (by simp; omega)
        have HNx := Lib.hid (fun (r : Bool) (hr : r = true ↔ GoodN [] L[j]) => good_next hx hr)
        generalize L[j] = x at *
        have HGx := Lib.hid (fun w => HG.out x w hok.1 hok.2.1)
        obtain ⟨M, hM⟩ : ∃ M, goodL (L.take j) = M := ⟨_, rfl⟩
        rw [hM] at HN HNx hgl
        rw [hM]
        have HCs := Lib.hid hcs
        clear hx hM hok hcs hjg
        go_wp2_with fail
        refine (HGx.out _).mono ?_
        rintro e w3 ⟨⟨r, rfl, hr⟩, hb3⟩
        have HX3 := Lib.hid (HNx.out r hr.out)
        have HN3 := Lib.hid (ownW_keep HN.out hb3)
        have HB3 := Lib.hid (belowNext HB2.out hb3)
        have hW9 : W1.heap.size ≤ w3.heap.size := HB3.out.size
        clear hr hb3 HN HB2 HNx HGx x0
        cases r
        · rw [show (if false = true then [x] else ([] : List Wd)) = [] from rfl, List.append_nil] at HX3
          go_wp2
          go_roundg g2
          case measure => omega
          case rel => exact ⟨j + 1, A4, c4, by have := HJG.out; omega, by go_num, by rw [HX3.out], by rw [HX3.out]; exact HN3, HB3⟩
        · rw [show (if true = true then [x] else ([] : List Wd)) = [x] from rfl] at HX3
          go_wp2_with (at_builtin; refine wpList_append_own_at _ rfl _ _ 22 rfl W1.heap.size 9 i0 (.string ⟨#[]⟩) 1 16 Try.underlying22 hi hz0 hz1 hz2 rfl (by decide) (.slice A4 M.length c4) M.length (strW M) rfl (World.ownsRow.alloc HN3.out _) ⟨_, 0, none⟩ 1 1 [.string (bs x)] rfl rfl (cell_oneW _ _ _) ?c2 ?c3 ?c4 ?c5 ?_)
          case c2 => intro u hu; simp at hu; first | (subst hu; rfl) | (rcases hu with rfl | rfl <;> rfl)
          case c3 => unfold maxLen; omega
          case c4 => omega
          case c5 => first | omega | (simp; omega)
          intro v2 w8 hown' hgrow _ _
          obtain ⟨gn, capn, rfl⟩ := formW hown' (by omega)
          have HN8 : Hid (w8.ownsRow W1.heap.size 9 1 (.slice (some ⟨gn, 0, none⟩) (M.length + 1) capn) (M.length + 1) (strW (goodL (L.take (j + 1))))) := Lib.hid (by rw [HX3.out, strW_app]; exact hown')
          have HB8 : Hid (Below W1.heap.size W1 w8) := Lib.hid ((belowNext HB3.out (belowAlloc (Below.refl _ _) _)).grown hgrow (belowNext HB3.out (belowAlloc (Below.refl _ _) (.cells #[.string (bs x)] 9))).size (fun q hq => (HN3.out.lt q hq).1))
          have HXl : Hid ((goodL (L.take (j + 1))).length = M.length + 1) := Lib.hid (by rw [HX3.out]; simp)
          clear hown' hgrow HN3 HB3
          go_wp2
          go_roundg g2
          case measure => omega
          case rel => exact ⟨j + 1, some ⟨gn, 0, none⟩, capn, by have := HJG.out; omega, by go_num, by rw [HXl.out], by rw [HXl.out]; exact HN8, HB8⟩
      | zero =>
        obtain rfl : j = L.length := by omega
        rw [List.take_length] at HN ⊢
        have HS9 := Lib.hid (strOwn_of rfl (ownW_low HN.out HB1.out.size))
        have HB9 := Lib.hid (belowNext HB1.out HB2.out)
        clear HN HB2 hjg
        go_wp2
        go_ret2
        exact ⟨A4, c4, rfl, HS9.out, HB9.out⟩
def numsX (x : Wd) : List Int := x.map fun c => (c.toNat : Int)
theorem numsX_str (x : Wd) : strOfNums (numsX x) = bs x := by
  unfold strOfNums numsX bs
  congr 2
  rw [List.map_map]
  conv => rhs; rw [← List.map_id x]
  apply List.map_congr_left
  intro a _
  simp
theorem numsX_at (x : Wd) (i : Nat) : (numsX x).getD i 0 = ((x.getD i 0).toNat : Int) := by
  simp [numsX]
  cases x[i]? <;> simp

/-- The bytes of a row are these letters. -/
theorem bytesAreX (x : Wd) (W : World) (g off : Nat) (c : Nat) (n : Nat) (hn : x.length = n) (h : ∀ i, i < n → W.cell? ⟨g, off + i, none⟩ = some (.int .u8 ((x.getD i 0).toNat : Int))) :
    (convert 30 9 (.slice (some ⟨g, off, none⟩) n c)).run Try.prog W = .ok (.string (bs x)) W := by
  have := run_convert_bytes_arg (P := Try.prog) W 30 5 Try.underlying30 Try.underlying5 g off n c (numsX x) (by simp [numsX, hn]) (fun i hi => by rw [numsX_at]; exact h i hi) 9 Try.underlying9
  rw [this, numsX_str]

def bvX (x : Wd) : List Value := x.map fun c => .int .u8 (c.toNat : Int)
theorem bvX_app (a b : Wd) : bvX (a ++ b) = bvX a ++ bvX b := by simp [bvX]
theorem infoB8 : (Try.prog.info? 5).map (fun i => (i.zero, i.size, i.bytes)) = some (some (.int .u8 0), 1, 1) := by kernel_rfl
theorem bits_one : ∀ D : Nat, D < 256 → bits BinOp.and IntKind.i64 (D : Int) 1 = ((D % 2 : Nat) : Int) := by decide +kernel
theorem byCell {W : World} {lo n g c : Nat} {l : Wd} (hn : l.length = n) (h : W.ownsRow lo 5 1 (.slice (some ⟨g, 0, none⟩) n c) n (bvX l)) : ∀ i, i < n → W.cell? ⟨g, 0 + i, none⟩ = some (.int .u8 ((l.getD i 0).toNat : Int)) := fun i hi => by
  have h1 : (bvX l)[i]? = some (.int .u8 ((l.getD i 0).toNat : Int)) := by
    unfold bvX
    rw [List.getElem?_map, List.getElem?_eq_getElem (by omega), List.getD_eq_getElem?_getD, List.getElem?_eq_getElem (by omega)]
    rfl
  rw [Nat.zero_add]
  refine Eq.trans ?_ (h.cells (g := g) rfl i _ h1)
  cases i <;> simp [Addr.add]
theorem bits_len : ∀ m k, (bitsW m k).length = m
  | 0, _ => rfl
  | m + 1, k => by unfold bitsW; rw [List.length_append, bits_len m]; rfl
theorem bits_next (p t k s : Nat) (hs : p = t + 1 + s) : bitsW (t + 1) (k / 2 ^ (p - (t + 1))) = bitsW t (k / 2 ^ (p - t)) ++ [if (k / 2 ^ s) % 2 = 0 then 48 else 49] := by
  have e1 : p - (t + 1) = s := by omega
  have e2 : p - t = s + 1 := by omega
  rw [e1, e2]
  show bitsW t (k / 2 ^ s / 2) ++ _ = _
  rw [Nat.div_div_eq_div_mul, Nat.pow_succ]
set_option maxHeartbeats 2000000 in
theorem specInP (n lo hi : Int) (w : World) :
    Calls Try.prog 9 #[.int .i64 n, .int .i64 lo, .int .i64 hi] w fun e w' => e = .returned (.bool (decide (lo ≤ n) && decide (n ≤ hi))) ∧ Below w.heap.size w w' := by
  cases h1 : decide (lo ≤ n)
  · have h1' : decide (n ≥ lo) = false := h1
    go_enter Try.func9, Try.ntmps9
    go_wp2
    go_ret
    exact ⟨rfl, Below.refl _ _⟩
  · have h1' : decide (n ≥ lo) = true := h1
    cases h2 : decide (n ≤ hi)
    all_goals
      go_enter Try.func9, Try.ntmps9
      go_wp2
      go_ret
      exact ⟨rfl, Below.refl _ _⟩


set_option maxRecDepth 8000 in
set_option maxHeartbeats 4000000 in
theorem specAdm (n : Int) (w : World) : Calls Try.prog 4 #[.int .i64 n] w (ResStr w (admL n) (admC n)) := by
  obtain ⟨i0, hi, hz0, hz1, hz2⟩ := infoT_parts infoT
  obtain ⟨j0, hj, hy0, hy1, hy2⟩ := infoT_parts infoB8
  have HI := Lib.hid (fun w => specInP n 1 10 w)
  by_cases h1 : 1 ≤ n ∧ n ≤ 10
  · obtain ⟨m, rfl⟩ : ∃ m : Nat, n = (m : Int) := ⟨n.toNat, by omega⟩
    have e : admL (m : Int) = goodL (starW m) ∧ admC (m : Int) = 0 := by unfold admL admC; rw [if_pos h1, if_pos h1]; exact ⟨rfl, rfl⟩
    rw [e.1, e.2]
    rw [decide_eq_true h1.1, decide_eq_true h1.2] at HI
    have hm1 : 1 ≤ m := by omega
    have hm2 : m ≤ 10 := by omega
    clear e h1
    by_cases e1 : m = 1
    · subst e1
      have e : goodL (starW 1) = [[42]] := by
        have e2 : starW 1 = [[42]] := rfl
        rw [e2]
        unfold goodL
        rw [List.filter_cons_of_pos (by rw [@decide_eq_true_eq _ (Classical.propDecidable _)]; intro m h1 h2; simp at h2; omega)]
        rfl
      rw [e]
      clear e
      go_enter Try.func4, Try.ntmps4
      go_wp2_with fail
      refine (HI.out _).mono ?_
      rintro e w1 ⟨rfl, hb1⟩
      go_wp2
      go_ret2
      exact ⟨some ⟨_, 0, none⟩, 1, rfl, ownS1 _ hb1 _ [42] _ rfl, by (repeat' (first | (with_reducible exact Below.refl _ _) | (with_reducible assumption) | (with_reducible refine belowNext ?_ (by with_reducible assumption)) | (with_reducible refine belowAlloc ?_ _) | (with_reducible refine Below.drew ?_) | (with_reducible refine below_drewN ?_ _) | (with_reducible refine Below.setCell ?_ ?_ _) | go_size | (with_reducible refine sizeOf' ?_) | (with_reducible refine sizeAdd ?_) | (dsimp only; first | (with_reducible refine sizeOf' ?_) | (with_reducible refine sizeAdd ?_))))⟩
    · obtain ⟨p, rfl⟩ : ∃ p, m = p + 2 := ⟨m - 2, by omega⟩
      have hp8 : p ≤ 8 := by omega
      have HOk := Lib.hid (fun y hy => star_ok (y := y) hm1 hm2 hy)
      have HSt : Hid (starW (p + 2) = (List.range (2 ^ p)).map fun k => (49 :: bitsW p k) ++ [42]) := Lib.hid (by
        unfold starW
        rw [if_neg e1, show p + 2 - 2 = p by omega, lvl_bits hp8, List.map_map]
        rfl)
      have HG := Lib.hid (fun (y : Wd) w h1 h2 => specGood [] y w h1 h2)
      have hpw : 2 ^ p ≤ 256 := Nat.pow_le_pow_right (n := 2) (by omega) hp8
      have d1 : (((p + 2 : Nat) : Int) == 1) = false := beq_eq_false_iff_ne.2 (by omega)
      have d2 : IntKind.i64.wrap (((p + 2 : Nat) : Int) - 2) = (p : Int) := by rw [IntWalk.i64_in _ (by omega)]; omega
      have d3 : IntKind.i64.wrap (((p + 2 : Nat) : Int) - 3) = (p : Int) - 1 := by rw [IntWalk.i64_in _ (by omega)]; omega
      have d4 : wrap64 ((2 : Int) ^ p) = ((2 ^ p : Nat) : Int) := by
        rw [show (2 : Int) ^ p = ((2 ^ p : Nat) : Int) from by rw [Int.natCast_pow]; rfl]
        generalize 2 ^ p = E at *
        exact IntWalk.wrap64_in _ (by omega)
      have hLl : (starW (p + 2)).length = 2 ^ p := by rw [HSt.out, List.length_map, List.length_range]
      have HLat : Hid (∀ k, k < 2 ^ p → (starW (p + 2))[k]? = some ((49 :: bitsW p k) ++ [42])) := Lib.hid (fun k hk => by rw [HSt.out, List.getElem?_map, List.getElem?_range hk]; rfl)
      generalize ((p + 2 : Nat) : Int) = N at *
      obtain ⟨L, hL⟩ : ∃ L, starW (p + 2) = L := ⟨_, rfl⟩
      rw [hL] at HOk hLl HLat ⊢
      obtain ⟨E, hE⟩ : ∃ E, 2 ^ p = E := ⟨_, rfl⟩
      rw [hE] at hpw d4 hLl HLat
      clear hE HSt
      clear hL e1
      go_enter Try.func4, Try.ntmps4
      go_wp2_with fail
      refine (HI.out _).mono ?_
      rintro e w1 ⟨rfl, hb1⟩
      go_wp2_with fail
      have HB0 : Hid (Below w.heap.size w (w1.alloc (.cells #[] 9))) := Lib.hid (belowNext hb1 (belowAlloc (Below.refl _ _) _))
      have HO0 : Hid ((w1.alloc (.cells #[] 9)).ownsRow w.heap.size 9 1 (.slice (some ⟨w1.heap.size, 0, none⟩) 0 0) 0 []) := Lib.hid (World.ownsRow_made (base := w.heap.size) (e := 9) (size := 1) w1 #[] 0 hb1.size (by unfold maxLen; omega) (by simp))
      clear hb1
      go_loopg [4, 5] E (fun g s4 s5 wr => ∃ (k : Nat) (A : Option Addr) (c : Nat), k + g = E ∧ s5 = .int .i64 k ∧ s4 = .slice A (goodL (L.take k)).length c ∧ Hid (wr.ownsRow w.heap.size 9 1 (.slice A (goodL (L.take k)).length c) (goodL (L.take k)).length (strW (goodL (L.take k)))) ∧ Hid (Below w.heap.size w wr))
      case atStart => exact ⟨0, some ⟨w1.heap.size, 0, none⟩, 0, by omega, rfl, rfl, HO0, HB0⟩
      case round =>
        clear HB0 HO0
        obtain ⟨k, A, c, hkg, rfl, rfl, HO, HB⟩ := hrel
        have HKG := Lib.hid hkg
        cases gk with
        | succ g =>
          have hkE : k < E := by omega
          have hkk := HLat.out k hkE
          have e1 : decide ((k : Int) < (E : Int)) = true := decide_eq_true (by omega)
          have e1n : decide (k < E) = true := decide_eq_true hkE
          have e1p : (k < E) = True := eq_true hkE
          have hgl : (goodL (L.take k)).length ≤ 256 := Nat.le_trans (good_len _) (by simp; omega)
          have hm : (49 :: bitsW p k) ++ [42] ∈ L := List.mem_of_getElem? hkk
          have hok := HOk.out _ hm
          have HNx := Lib.hid (fun (r : Bool) (hr : r = true ↔ GoodN [] ((49 :: bitsW p k) ++ [42])) => good_next hkk hr)
          have HGx := Lib.hid (fun w => HG.out ((49 :: bitsW p k) ++ [42]) w hok.1 hok.2.1)
          obtain ⟨M, hM⟩ : ∃ M, goodL (L.take k) = M := ⟨_, rfl⟩
          rw [hM] at HO HNx hgl
          rw [hM]
          clear hkk hm hok hM hkg
          obtain ⟨W0, rfl⟩ : ∃ x, x = wr := ⟨_, rfl⟩
          go_wp2_with fail
          have HR0 : Hid ((W0.alloc (.cells #[.int .u8 49] 5)).ownsRow W0.heap.size 5 1 (.slice (some ⟨W0.heap.size, 0, none⟩) 1 1) 1 (bvX (49 :: bitsW 0 (k / 2 ^ (p - 0))))) := Lib.hid ⟨rfl, .inr ⟨W0.heap.size, 1, #[.int .u8 49], rfl, Nat.le_refl _, heap_alloc_new W0 (.cells #[.int .u8 49] 5), Nat.le_refl _, by unfold maxLen; omega, rfl, rfl⟩⟩
          have HB0 : Hid (Below W0.heap.size W0 (W0.alloc (.cells #[.int .u8 49] 5))) := Lib.hid (belowAlloc (Below.refl _ _) _)
          try rw [d4]
          go_loopg [6, 7] p (fun g s6 s7 wr => ∃ (t G c2 : Nat), t + g = p ∧ s7 = .int .i64 ((p : Int) - 1 - (t : Int)) ∧ s6 = .slice (some ⟨G, 0, none⟩) (t + 1) c2 ∧ Hid (wr.ownsRow W0.heap.size 5 1 (.slice (some ⟨G, 0, none⟩) (t + 1) c2) (t + 1) (bvX (49 :: bitsW t (k / 2 ^ (p - t))))) ∧ Hid (Below W0.heap.size W0 wr))
          case atStart => exact ⟨0, W0.heap.size, 1, by omega, by simp, rfl, HR0, HB0⟩
          case round =>
            clear HR0 HB0
            obtain ⟨t, G, c2, htg, rfl, rfl, HR, HB2⟩ := hrel
            have HTG := Lib.hid htg
            cases gk with
            | succ g2 =>
              have q1 : decide ((p : Int) - 1 - (t : Int) ≥ 0) = true := decide_eq_true (by omega)
              have q2 : decide (0 ≤ (p : Int) - 1 - (t : Int)) = true := decide_eq_true (by omega)
              have q3 : (0 ≤ (p : Int) - 1 - (t : Int)) = True := eq_true (by omega)
              obtain ⟨s, hs⟩ : ∃ s : Nat, (p : Int) - 1 - (t : Int) = (s : Int) := ⟨p - 1 - t, by omega⟩
              rw [hs] at q1 q2 q3 ⊢
              have hs7 : s ≤ 7 := by omega
              have HSs := Lib.hid hs
              clear hs htg
              obtain ⟨D, hD⟩ : ∃ D, k / 2 ^ s = D := ⟨_, rfl⟩
              have hDI : (k : Int) / 2 ^ s = (D : Int) := by rw [← hD]; norm_cast
              have hD256 : D < 256 := by rw [← hD]; exact Nat.lt_of_le_of_lt (Nat.div_le_self _ _) (by omega)
              have b1 := bits_one D hD256
              obtain ⟨BT, hBT⟩ : ∃ BT : Int, ((D % 2 : Nat) : Int) = BT := ⟨_, rfl⟩
              rw [hBT] at b1
              have hB0 : 0 ≤ BT := by omega
              have hB1 : BT ≤ 1 := by omega
              have m1 : (48 + BT) % 256 = 48 + BT := by omega
              have HBv : Hid (Value.int .u8 (48 + BT) = .int .u8 (((if D % 2 = 0 then (48 : UInt8) else 49).toNat : Nat) : Int)) := Lib.hid (by
                by_cases h : D % 2 = 0
                · rw [if_pos h]; congr 1; rw [← hBT, h]; rfl
                · rw [if_neg h]; congr 1; rw [← hBT, show D % 2 = 1 by omega]; rfl)
              have HBx : Hid (49 :: bitsW (t + 1) (k / 2 ^ (p - (t + 1))) = (49 :: bitsW t (k / 2 ^ (p - t))) ++ [if D % 2 = 0 then 48 else 49]) := Lib.hid (by rw [bits_next p t k s (by have := HSs.out; omega), hD]; rfl)
              have hW9 : W0.heap.size ≤ wr.heap.size := HB2.out.size
              have htp : t ≤ 8 := by have := HTG.out; omega
              clear hD hBT
              go_wp2_with (at_builtin; refine wpList_append_own_at _ rfl _ _ 30 rfl W0.heap.size 5 j0 (.int .u8 0) 1 1 Try.underlying30 hj hy0 hy1 hy2 rfl (by decide) (.slice (some ⟨G, 0, none⟩) (t + 1) c2) (t + 1) (bvX (49 :: bitsW t (k / 2 ^ (p - t)))) rfl (World.ownsRow.alloc HR.out _) ⟨_, 0, none⟩ 1 1 [.int .u8 (48 + BT)] rfl rfl (cell_oneW _ _ _) ?c2 ?c3 ?c4 ?c5 ?_)
              case c2 => intro u hu; simp at hu; first | (subst hu; rfl) | (rcases hu with rfl | rfl <;> rfl)
              case c3 => unfold maxLen; omega
              case c4 => omega
              case c5 => first | omega | (simp; omega)
              intro v2 w8 hown' hgrow _ _
              obtain ⟨gn, capn, rfl⟩ := formW hown' (by omega)
              have HR8 : Hid (w8.ownsRow W0.heap.size 5 1 (.slice (some ⟨gn, 0, none⟩) (t + 1 + 1) capn) (t + 1 + 1) (bvX (49 :: bitsW (t + 1) (k / 2 ^ (p - (t + 1)))))) := Lib.hid (by rw [HBx.out, bvX_app]; rw [HBv.out] at hown'; exact hown')
              have HB8 : Hid (Below W0.heap.size W0 w8) := Lib.hid ((belowNext HB2.out (belowAlloc (Below.refl _ _) _)).grown hgrow (belowNext HB2.out (belowAlloc (Below.refl _ _) (.cells #[.int .u8 (48 + BT)] 5))).size (fun q hq => (HR.out.lt q hq).1))
              clear hown' hgrow HR HB2
              go_wp2
              go_roundg g2
              case measure => omega
              case rel => exact ⟨t + 1, gn, capn, by have := HTG.out; omega, by have := HSs.out; go_num, rfl, HR8, HB8⟩
            | zero =>
              obtain rfl : t = p := by omega
              have hR := HR.out
              rw [Nat.sub_self, Nat.pow_zero, Nat.div_one] at hR
              have hlen : (49 :: bitsW t k).length = t + 1 := by simp [bits_len]
              have cv := bytesAreX (49 :: bitsW t k) wr G 0 c2 (t + 1) hlen (byCell hlen hR)
              have hm1 : (t : Int) - 1 - (t : Int) = -1 := by omega
              rw [hm1]
              have ct : ∀ W, (Op.stringOp .add (bs (49 :: bitsW t k)) ⟨#[42]⟩).run Try.prog W = .ok (.string (bs ((49 :: bitsW t k) ++ [42]))) W := fun W => catO (49 :: bitsW t k) [42] (by rw [hlen]; simp; omega) W
              have HOr := Lib.hid (ownW_keep HO.out HB2.out)
              have HBr := Lib.hid (belowNext HB.out HB2.out)
              generalize (49 :: bitsW t k) ++ [42] = y at *
              generalize (49 :: bitsW t k : Wd) = y0 at *
              clear hR hlen hm1 HR HB2 htg HO d1 d2 d3 d4
              go_wp2_with fail
              refine (HGx.out _).mono ?_
              rintro e w3 ⟨⟨r, rfl, hr⟩, hb3⟩
              have x0 : w3.cell? ⟨wr.heap.size, 1, none⟩ = some (.string (bs y)) := cellThru hb3 (by simp) (by simp [go_sem])
              have zz : wr.heap.size < w3.heap.size := by have := hb3.size; simp at this; omega
              have HX3 := Lib.hid (HNx.out r hr.out)
              have hb4 : Below wr.heap.size wr w3 := belowNext (belowAlloc (Below.refl _ _) _) hb3
              have HN3 := Lib.hid (ownW_keep HOr.out hb4)
              have HB3 := Lib.hid (belowNext HBr.out hb4)
              have hW9 : w.heap.size ≤ w3.heap.size := HB3.out.size
              have HW : Hid (Value.int .i64 (wrap64 ((k : Int) + 1)) = .int .i64 ((k + 1 : Nat) : Int)) := Lib.hid (by rw [IntWalk.wrap64_in _ (by omega)]; congr 1)
              clear hr hb3 hb4 HOr HBr HNx HGx cv ct
              cases r
              · rw [show (if false = true then [y] else ([] : List Wd)) = [] from rfl, List.append_nil] at HX3
                clear x0 zz hW9 hgl hpw hkE e1 e1n e1p hLl hi hz0 hz1 hz2 hj hy0 hy1 hy2
                go_wp2
                go_roundg g
                case measure => omega
                case rel => exact ⟨k + 1, A, c, by have := HKG.out; omega, HW.out, by rw [HX3.out], by rw [HX3.out]; exact HN3, HB3⟩
              · rw [show (if true = true then [y] else ([] : List Wd)) = [y] from rfl] at HX3
                go_wp2_with (at_builtin; refine wpList_append_own_at _ rfl _ _ 22 rfl w.heap.size 9 i0 (.string ⟨#[]⟩) 1 16 Try.underlying22 hi hz0 hz1 hz2 rfl (by decide) (.slice A M.length c) M.length (strW M) rfl (World.ownsRow.alloc HN3.out _) ⟨_, 0, none⟩ 1 1 [.string (bs y)] rfl rfl (cell_oneW _ _ _) ?c2 ?c3 ?c4 ?c5 ?_)
                case c2 => intro u hu; simp at hu; first | (subst hu; rfl) | (rcases hu with rfl | rfl <;> rfl)
                case c3 => unfold maxLen; omega
                case c4 => omega
                case c5 => first | omega | (simp; omega)
                intro v2 w8 hown' hgrow _ _
                obtain ⟨gn, capn, rfl⟩ := formW hown' (by omega)
                have HN8 : Hid (w8.ownsRow w.heap.size 9 1 (.slice (some ⟨gn, 0, none⟩) (M.length + 1) capn) (M.length + 1) (strW (goodL (L.take (k + 1))))) := Lib.hid (by rw [HX3.out, strW_app]; exact hown')
                have HB8 : Hid (Below w.heap.size w w8) := Lib.hid ((belowNext HB3.out (belowAlloc (Below.refl _ _) _)).grown hgrow (belowNext HB3.out (belowAlloc (Below.refl _ _) (.cells #[.string (bs y)] 9))).size (fun q hq => (HN3.out.lt q hq).1))
                have HXl : Hid ((goodL (L.take (k + 1))).length = M.length + 1) := Lib.hid (by rw [HX3.out]; simp)
                clear hown' hgrow HN3 HB3
                clear x0 zz hW9 hgl hpw hkE e1 e1n e1p hLl hi hz0 hz1 hz2 hj hy0 hy1 hy2
                go_wp2
                go_roundg g
                case measure => omega
                case rel => exact ⟨k + 1, some ⟨gn, 0, none⟩, capn, by have := HKG.out; omega, HW.out, by rw [HXl.out], by rw [HXl.out]; exact HN8, HB8⟩
        | zero =>
          obtain rfl : k = E := by omega
          rw [List.take_of_length_le (by omega)] at HO ⊢
          have HS9 := Lib.hid (strOwn_of rfl HO.out)
          clear HO hkg
          go_wp2
          go_ret2
          exact ⟨A, c, rfl, HS9.out, HB.out⟩
  · have e : admL n = [] ∧ admC n = 2 := by unfold admL admC; rw [if_neg h1, if_neg h1]; exact ⟨rfl, rfl⟩
    rw [e.1, e.2]
    have h : (decide (1 ≤ n) && decide (n ≤ 10)) = false := by
      rw [← Bool.decide_and]
      exact decide_eq_false h1
    rw [h] at HI
    clear e h h1
    go_enter Try.func4, Try.ntmps4
    go_wp2_with fail
    refine (HI.out _).mono ?_
    rintro e w1 ⟨rfl, hb1⟩
    go_wp2
    go_ret2
    exact ⟨none, 0, rfl, ownS_nil, hb1⟩
end Go.Proofs.Ytdemgialagjomaa

/-
  Plain mathematics: no two ray pairs cross, so a wake has both angles of a pair or none; the parent and the depth of a pair as lists tell them. No program in sight.
  Contracts: the wakes around a pair, as the model gathers them.
  Contracts: the parent and the depth of a pair, as the program tells them.
  Contracts: the parent and the depth of a pair, as the model tells them; the walks of both laws.
  Contracts: the depth of a pair, as the model tells it; the walk of the law.
-/
import Derived.Test.YtnciiodgkanpjaaR20
import Derived.Test.YtnciiodgkanpjaaRW
import Derived.Test.YtnciiodgkanpjaaRQ
namespace Go.Proofs.Ytnciiodgkanpjaa
open Go.RowKit

/-- No two pairs of a list cross. -/
def NoX (l : List (Lf4 × Nat)) : Prop := ∀ q ∈ l, ∀ r ∈ l, crossP q.1 r.1 = false
theorem crossP_sym {p q : Lf4} (hp : okP p = true) (hq : okP q = true) : crossP p q = crossP q p := by
  rw [← crossF_eq hp hq, ← crossF_eq hq hp]
  unfold crossF
  exact Bool.or_comm _ _
theorem crossP_self {p : Lf4} (hp : okP p = true) : crossP p p = false := by
  rw [← crossF_eq hp hp]
  unfold crossF
  simp [ltA_irr]
theorem NoX.snoc {l : List (Lf4 × Nat)} {p : Lf4 × Nat} (h : NoX l) (hok : allP (l ++ [p])) (hc : crossAny p.1 l = false) : NoX (l ++ [p]) := by
  have hn : ∀ q ∈ l, crossP p.1 q.1 = false := fun q hq => by
    cases e : crossP p.1 q.1
    · rfl
    · rw [crossAny_mem hq e] at hc; cases hc
  have hp := hok p (by simp)
  intro q hq r hr
  rw [List.mem_append, List.mem_singleton] at hq hr
  rcases hq with hq | rfl <;> rcases hr with hr | rfl
  · exact h q hq r hr
  · rw [crossP_sym (hok q (by simp [hq])) hp]; exact hn q hq
  · exact hn r hr
  · exact crossP_self hp
theorem rowM_NoX {L : List (Lf4 × Nat)} {A : List (Int × Int)} {N i : Nat} {M : List (Nat × Nat)} (hL : allP L) (hA : Asc N A) (hJ : Joined A.length i M) (hi : (upOf M).contains i = false) (h : NoX (plOf L A N M)) : ∀ f k, i < k → k + f ≤ A.length → NoX (plOf L A N (rowM L A N M i f k))
  | 0, _, _, _ => h
  | f + 1, k, hk, hf => by
    simp only [rowM]
    split
    · next hh =>
      unfold fits at hh
      simp only [Bool.and_eq_true, Bool.not_eq_true'] at hh
      have hp := allP_plOf hL hA (hJ.snoc hk (by omega) hi hh.1)
      rw [plOf_snoc] at hp ⊢
      exact h.snoc hp hh.2
    · exact rowM_NoX hL hA hJ hi h f (k + 1) (by omega) (by omega)
theorem allM_NoX {L : List (Lf4 × Nat)} {A : List (Int × Int)} {N : Nat} (hL : allP L) (hA : Asc N A) : ∀ (f i : Nat) (M : List (Nat × Nat)), Joined A.length i M → i + f = A.length → NoX (plOf L A N M) → NoX (plOf L A N (allM L A N f i M))
  | 0, _, _, _, _, h => h
  | f + 1, i, M, hJ, e, h => by
    simp only [allM]
    split
    · exact allM_NoX hL hA f (i + 1) _ hJ.mono (by omega) h
    · next hc =>
      have hc' : (upOf M).contains i = false := by simpa using hc
      exact allM_NoX hL hA f (i + 1) _ (rowM_Joined hJ hc' _ _ (by omega) (by omega)) (by omega) (rowM_NoX hL hA hJ hc' h _ _ (by omega) (by omega))
/-- No two ray pairs cross. -/
theorem upK_free : ∀ m, m ≤ 7 → NoX (upK m)
  | 0, _ => by intro q hq; simp [upK] at hq
  | m + 1, h => by
    rw [upK_succ]
    refine allM_NoX (upK_ok m (by omega)) (angsOf_Asc (by omega)) _ 0 [] (Joined.nil _) (by omega) ?_
    have e : plOf (upK m) (angsOf m) (m + 2) [] = upK m := by simp [plOf]
    rw [e]
    exact upK_free m (by omega)
/-- A wake has both angles of a pair or none. -/
theorem ins_same {m : Nat} (h : m ≤ 7) {q r : Lf4 × Nat} (hq : q ∈ upK m) (hr : r ∈ upK m) : insX (q.1.1, q.1.2.1) r.1 = insX (q.1.2.2.1, q.1.2.2.2) r.1 := by
  have hc := upK_free m h r hr q hq
  have hl := (isLf_yes (upK_ok m h q hq)).2.2
  have hl2 := ltA_asymm hl
  have same : ∀ x : Int × Int, inP x r.1 = true → inP x q.1 = true → insX (q.1.1, q.1.2.1) r.1 = insX (q.1.2.2.1, q.1.2.2.2) r.1 := fun x h1 h2 => by
    rw [upK_one m h x r q hr hq h1 h2]
    unfold insX arcB
    rw [hl]
    simp [ltA_irr]
  obtain ⟨⟨a, b, c, d⟩, k⟩ := q
  obtain ⟨⟨e, f, g, i⟩, j⟩ := r
  unfold crossP crossB at hc
  dsimp only at hc hl hl2 same ⊢
  have eqs : ∀ {a b c d : Int}, eqA a b c d = true → a = c ∧ b = d := fun h => (eqA_iff3 _ _ _ _).1 h
  rcases share_cases e f g i a b c d with ⟨s, e1⟩ | ⟨s, _, e1⟩ | ⟨s, _, _, e1⟩ | ⟨s, _, _, _, e1⟩ | ⟨s, _⟩
  · obtain ⟨rfl, rfl⟩ := eqs e1
    exact same (e, f) ((inP_iff _ _).2 (.inl rfl)) ((inP_iff _ _).2 (.inl rfl))
  · obtain ⟨rfl, rfl⟩ := eqs e1
    exact same (e, f) ((inP_iff _ _).2 (.inl rfl)) ((inP_iff _ _).2 (.inr rfl))
  · obtain ⟨rfl, rfl⟩ := eqs e1
    exact same (g, i) ((inP_iff _ _).2 (.inr rfl)) ((inP_iff _ _).2 (.inl rfl))
  · obtain ⟨rfl, rfl⟩ := eqs e1
    exact same (g, i) ((inP_iff _ _).2 (.inr rfl)) ((inP_iff _ _).2 (.inr rfl))
  · rw [s] at hc
    unfold insX
    simpa using hc
theorem wkOf_same {x y : Int × Int} : ∀ (l out : List Lf4), (∀ p ∈ l, insX x p = insX y p) → wkOf x out l = wkOf y out l
  | [], _, _ => rfl
  | p :: l, out, h => by
    simp only [wkOf]
    rw [h p (List.mem_cons_self ..)]
    exact wkOf_same l _ fun q hq => h q (List.mem_cons_of_mem _ hq)
theorem wkOf_ins {x : Int × Int} {l : List Lf4} {p : Lf4} (h : p ∈ wkOf x [] l) : insX x p = true := by
  have := (wkOf_perm x l []).mem_iff.1 h
  exact (List.mem_filter.1 this).2
/-- The wakes around a pair: those around its lower angle that have the upper one. -/
def arndL (p : Lf4) (l : List Lf4) : List Lf4 := (wkOf (p.1, p.2.1) [] l).filter (insX (p.2.2.1, p.2.2.2))
theorem arnd_all {m : Nat} (h : m ≤ 7) {q : Lf4 × Nat} (hq : q ∈ upK m) : arndL q.1 ((upK m).map (·.1)) = wkL (q.1.1, q.1.2.1) m := by
  unfold arndL wkL
  rw [List.filter_eq_self]
  intro r hr
  have hr2 := wkOf_mem hr
  rw [List.mem_map] at hr2
  obtain ⟨r', h1, rfl⟩ := hr2
  rw [← ins_same h hq h1]
  exact wkOf_ins hr
/-- Around both angles of a pair are the same wakes. -/
theorem wkL_either {m : Nat} (h : m ≤ 7) {q : Lf4 × Nat} (hq : q ∈ upK m) {x : Int × Int} (hx : inP x q.1 = true) : wkL (q.1.1, q.1.2.1) m = wkL x m := by
  rcases (inP_iff x q.1).1 hx with e | e
  · rw [e]
  · rw [← e]
    refine wkOf_same _ _ fun p hp => ?_
    rw [List.mem_map] at hp
    obtain ⟨r, hr, rfl⟩ := hp
    exact ins_same h hq hr
theorem upK_more : ∀ {m k : Nat}, m ≤ k → ∀ {q}, q ∈ upK m → q ∈ upK k
  | m, 0, h, q, hq => by
    have : m = 0 := by omega
    subst this; exact hq
  | m, k + 1, h, q, hq => by
    by_cases e : m = k + 1
    · subst e; exact hq
    · rw [upK_succ]
      unfold plOf
      exact List.mem_append_left _ (upK_more (by omega) hq)
/-- The wakes around the pair of an angle are those around the angle. -/
theorem po_around {n d : Int} (h : isAng n d = true) (h2 : 2 ≤ shortP d) {m : Nat} (hm : shortP d - 1 ≤ m) (h7 : m ≤ 7) : arndL (poP n d) ((upK m).map (·.1)) = wkL (n, d) m := by
  obtain ⟨q, hq, hi, e, _⟩ := po_good h h2
  have hq' := upK_more hm hq
  rw [e, arnd_all h7 hq', wkL_either h7 hq' hi]

theorem take_no {f : Lf4 → Bool} {K : List Lf4} {k : Nat} {p : Lf4} (hq : K[k]? = some p) (h : f p = false) : (K.take (k + 1)).filter f = (K.take k).filter f := by
  rw [List.take_add_one, hq]
  simp [h]
theorem take_yes {f : Lf4 → Bool} {K : List Lf4} {k : Nat} {p : Lf4} (hq : K[k]? = some p) (h : f p = true) : (K.take (k + 1)).filter f = (K.take k).filter f ++ [p] := by
  rw [List.take_add_one, hq]
  simp [h]

set_option maxRecDepth 100000 in
set_option maxHeartbeats 2000000 in
theorem specAround (a b c d : Int) (A : Option Addr) (len cap : Nat) (l : List Lf4) (w : World) (hp : okP (a, b, c, d) = true) (hok : ∀ p ∈ l, okP p = true) (hr : LfRow w w.heap.size A l) (hl : l.length = len) (hm : len ≤ 2000) :
    Calls Try.prog 77 #[leafV a b c d, .slice A len cap] w fun e w' => ∃ A' cap', e = .returned (.slice A' (arndL (a, b, c, d) l).length cap') ∧ w'.ownsRow w.heap.size 52 4 (.slice A' (arndL (a, b, c, d) l).length cap') (arndL (a, b, c, d) l).length (flatP (arndL (a, b, c, d) l)) ∧ Below w.heap.size w w' := by
  have HX := Lib.hid (ok_low hp)
  have HU := Lib.hid (okP_up hp)
  have HE : Hid (arndL (a, b, c, d) l = (wkOf (a, b) [] l).filter (insX (c, d))) := Lib.hid rfl
  have hKl : (wkOf (a, b) [] l).length ≤ 2000 := by have := wkOf_len (a, b) l; omega
  have HOk : Hid (∀ q ∈ wkOf (a, b) [] l, okP q = true) := Lib.hid (fun q hq => hok q (wkOf_mem hq))
  have HS := Lib.hid (fun (W : World) (hrW : LfRow W W.heap.size A l) => specSorted a b A len cap l W (ok_low hp) hok hrW hl hm)
  have HR := Lib.hid hr
  dsimp only at HX HU
  generalize arndL (a, b, c, d) l = R at *
  generalize wkOf (a, b) [] l = K at *
  obtain ⟨i0, hi, hz0, hz1, hz2⟩ := info_parts infoP
  clear hr hl hok hp
  go_enter Try.func77, Try.ntmps77
  go_wp2_with fail
  obtain ⟨wb, hwb⟩ : ∃ wb, w.alloc (.cells #[.int .i64 a, .int .i64 b, .int .i64 c, .int .i64 d] 52) = wb := ⟨_, rfl⟩
  have zb : wb.heap.size = w.heap.size + 1 := by rw [← hwb]; simp
  have c2 : (wb.alloc (.cells #[] 52)).cell? ⟨w.heap.size, 2, none⟩ = some (.int .i64 c) := by rw [← hwb]; simp [go_sem]
  have c3 : (wb.alloc (.cells #[] 52)).cell? ⟨w.heap.size, 3, none⟩ = some (.int .i64 d) := by rw [← hwb]; simp [go_sem]
  have HB0 : Hid (Below w.heap.size w (wb.alloc (.cells #[] 52))) := Lib.hid (by rw [← hwb]; exact belowAlloc (belowAlloc (Below.refl _ _) _) _)
  have zc : (wb.alloc (.cells #[] 52)).heap.size = w.heap.size + 1 + 1 := by simp; omega
  have HO0 : Hid ((wb.alloc (.cells #[] 52)).ownsRow (w.heap.size + 1) 52 4 (.slice (some ⟨w.heap.size + 1, 0, none⟩) ([] : List Lf4).length 0) ([] : List Lf4).length (flatP [])) := Lib.hid (by rw [← zb]; exact ⟨rfl, .inr ⟨wb.heap.size, 0, #[], rfl, Nat.le_refl _, heap_alloc_new wb (.cells #[] 52), by simp, by unfold maxLen; omega, rfl, rfl⟩⟩)
  rw [hwb]
  have hrc := Lib.hid ((HR.out.below HB0.out).more HB0.out.size)
  clear hwb HR
  generalize wb.alloc (.cells #[] 52) = wc at *
  refine (HS.out wc hrc.out).mono ?_
  rintro e w1 ⟨A1, cap1, rfl, hn1, hb1⟩
  have f2 := cellThru hb1 (by omega) c2
  have f3 := cellThru hb1 (by omega) c3
  have HB1 := Lib.hid (belowNext HB0.out hb1)
  have HO1 := Lib.hid (ownTurn HO0.out (belowG hb1) (fun j e => by cases e))
  have HN1 := Lib.hid hn1
  have HD1 : Hid (∀ j, (Value.slice A1 K.length cap1).ownBlock = some j → w.heap.size + 1 ≠ j) := Lib.hid (fun j hj => by have := own_block hn1 j hj; omega)
  have z1 : w.heap.size < w1.heap.size := by have := hb1.size; omega
  clear hb1 hn1 HO0 HB0 hrc HS c2 c3 zb
  rw [zc] at HN1
  clear zc
  go_wp2_with fail
  go_loopg [5, 7] K.length (fun g s5 s7 wr => ∃ (k : Nat) (O : List Lf4) (b' c' : Nat), k + g = K.length ∧ s7 = .int .i64 k ∧ s5 = .slice (some ⟨b', 0, none⟩) O.length c' ∧ Hid (O = (K.take k).filter (insX (c, d))) ∧ Hid (wr.ownsRow (w.heap.size + 1) 52 4 s5 O.length (flatP O)) ∧ Hid (wr.ownsRow (w.heap.size + 1 + 1) 52 4 (.slice A1 K.length cap1) K.length (flatP K)) ∧ Hid (∀ j, (Value.slice A1 K.length cap1).ownBlock = some j → b' ≠ j) ∧ Hid (Below w.heap.size w wr) ∧ w.heap.size < wr.heap.size ∧ wr.cell? ⟨w.heap.size, 2, none⟩ = some (.int .i64 c) ∧ wr.cell? ⟨w.heap.size, 3, none⟩ = some (.int .i64 d))
  case atStart => exact ⟨0, [], w.heap.size + 1, 0, by omega, rfl, rfl, Lib.hid rfl, HO1, HN1, HD1, HB1, z1, f2, f3⟩
  case round =>
    clear HO1 HN1 HD1 HB1 z1 f2 f3
    obtain ⟨k, O, b', c', hkg, rfl, rfl, HO, HW, HN, HD, HB, zr, x2, x3⟩ := hrel
    cases gk with
    | zero =>
      have e : O = R := by
        rw [HO.out, HE.out]
        have : k = K.length := by omega
        rw [this, List.take_length]
      subst e
      have HW2 := Lib.hid (ownMono HW.out (Nat.le_succ w.heap.size))
      have hn : ¬ ((k : Int) < (K.length : Int)) := by omega
      clear HW HO HE
      go_wp2
      go_ret
      exact ⟨_, _, rfl, HW2.out, HB.out⟩
    | succ g =>
      have hlt : k < K.length := by omega
      have hlt2 : (k : Int) < (K.length : Int) := by omega
      obtain ⟨g0, off, p1, p2, p3, p4, rfl, hq, y0, y1, y2, y3, hg0⟩ := row_pairE (rowP_of rfl HN.out) (Below.refl _ _) hlt
      have HP := Lib.hid (HOk.out _ (List.mem_of_getElem? hq))
      have HI := Lib.hid (fun w => specIns c d p1 p2 p3 p4 w HU.out (ok_low HP.out) (okP_up HP.out))
      have HQ := Lib.hid hq
      have hOl : O.length ≤ 2000 := by rw [HO.out]; exact Nat.le_trans (List.length_filter_le _ _) (by rw [List.length_take]; omega)
      obtain ⟨t, ht⟩ : ∃ t, arcB c d p1 p2 p3 p4 = t := ⟨_, rfl⟩
      rw [ht] at HI
      have HT : Hid (insX (c, d) (p1, p2, p3, p4) = t) := Lib.hid ht
      clear hq ht
      go_wp2_with fail
      go_still_tail 6, (by kernel_rfl)
      change wpList _ _ _ _ _ wr.drew
      have BD : Below w.heap.size w wr.drew := HB.out.drew
      have x2' : wr.drew.cell? ⟨w.heap.size, 2, none⟩ = some (.int .i64 c) := x2
      have x3' : wr.drew.cell? ⟨w.heap.size, 3, none⟩ = some (.int .i64 d) := x3
      have hg0' : g0 < wr.drew.heap.size := hg0
      have zr' : w.heap.size < wr.drew.heap.size := zr
      have HWD : Hid (wr.drew.ownsRow (w.heap.size + 1) 52 4 (.slice (some ⟨b', 0, none⟩) O.length c') O.length (flatP O)) := HW
      have HND : Hid (wr.drew.ownsRow (w.heap.size + 1 + 1) 52 4 (.slice (some ⟨g0, off, none⟩) K.length cap1) K.length (flatP K)) := HN
      have yy : wr.drew.cell? ⟨g0, off + k * 4, none⟩ = some (.int .i64 p1) ∧ wr.drew.cell? ⟨g0, off + k * 4 + 1, none⟩ = some (.int .i64 p2) ∧ wr.drew.cell? ⟨g0, off + k * 4 + 2, none⟩ = some (.int .i64 p3) ∧ wr.drew.cell? ⟨g0, off + k * 4 + 3, none⟩ = some (.int .i64 p4) := ⟨y0, y1, y2, y3⟩
      have HY := Lib.hid yy
      clear x2 x3 y0 y1 y2 y3 yy hg0 zr HB HW HN
      generalize wr.drew = wd at *
      go_wp2_with fail
      refine (HI.out _).mono ?_
      rintro e w5 ⟨rfl, hb5⟩
      have f2 := cellThru hb5 zr' x2'
      have f3 := cellThru hb5 zr' x3'
      obtain ⟨v0, v1, v2, v3⟩ := HY.out
      have y0 := cellThru hb5 hg0' v0
      have y1 := cellThru hb5 hg0' v1
      have y2 := cellThru hb5 hg0' v2
      have y3 := cellThru hb5 hg0' v3
      have B5 := Lib.hid (belowNext BD hb5)
      have HW5 := Lib.hid (ownTurn HWD.out (belowG hb5) (fun j e => by cases e))
      have HN5 := Lib.hid (ownTurn HND.out (belowG hb5) (fun j e => by cases e))
      have z5 : w.heap.size < w5.heap.size := Nat.lt_of_lt_of_le zr' hb5.size
      have hg5 : g0 < w5.heap.size := Nat.lt_of_lt_of_le hg0' hb5.size
      clear hb5 v0 v1 v2 v3 HY x2' x3' BD HWD HND zr' hg0'
      cases t
      · have HO5 : Hid (O = (K.take (k + 1)).filter (insX (c, d))) := Lib.hid (HO.out.trans (take_no HQ.out HT.out).symm)
        go_wp2
        go_roundg g
        case measure => omega
        case rel => exact ⟨k + 1, O, b', c', by omega, by go_num, rfl, HO5, HW5, HN5, HD, B5, z5, f2, f3⟩
      · have HO5 : Hid (O ++ [(p1, p2, p3, p4)] = (K.take (k + 1)).filter (insX (c, d))) := Lib.hid (by rw [take_yes HQ.out HT.out, ← HO.out])
        go_wp2_with (at_builtin; refine wpList_append_own_at _ rfl _ _ 47 rfl (w.heap.size + 1) 52 i0 (.agg #[.int .i64 0, .int .i64 0, .int .i64 0, .int .i64 0]) 4 32 Try.underlying47 hi hz0 hz1 hz2 rfl (by decide) _ _ _ rfl (World.ownsRow.alloc HW5.out _) ⟨w5.heap.size, 0, none⟩ 1 1 [.int .i64 p1, .int .i64 p2, .int .i64 p3, .int .i64 p4] rfl rfl ?c1 ?c2 ?c3 ?c4 ?c5 ?_)
        case c1 => exact cell_four_newP _ _ _ _ _ _
        case c2 => intro u hu; simp at hu; rcases hu with rfl | rfl | rfl | rfl <;> rfl
        case c3 => unfold maxLen; omega
        case c4 => omega
        case c5 => simp; omega
        intro v' w11 hown' hgrow _ hblk
        obtain ⟨gn, capn, rfl⟩ := ownsRow_succ hown'
        have hB11 : Below w.heap.size w w11 := (belowAlloc B5.out _).grown hgrow (belowAlloc B5.out _).size (fun j hj => by have := own_block HW5.out j hj; omega)
        have g2 := cellG hgrow (show w.heap.size < (w5.alloc (.cells #[.int .i64 p1, .int .i64 p2, .int .i64 p3, .int .i64 p4] 52)).heap.size by simp; omega) (fun e => by have := own_block HW5.out _ e.symm; omega) (cellThru (belowAlloc (Below.refl _ _) _) (by omega) f2)
        have g3 := cellG hgrow (show w.heap.size < (w5.alloc (.cells #[.int .i64 p1, .int .i64 p2, .int .i64 p3, .int .i64 p4] 52)).heap.size by simp; omega) (fun e => by have := own_block HW5.out _ e.symm; omega) (cellThru (belowAlloc (Below.refl _ _) _) (by omega) f3)
        have HN11 := Lib.hid (ownFar (World.ownsRow.alloc HN5.out (.cells #[.int .i64 p1, .int .i64 p2, .int .i64 p3, .int .i64 p4] 52)) hgrow (fun j e h => HD.out j h (Option.some.inj e)))
        have HD11 : Hid (∀ j, (Value.slice (some ⟨g0, off, none⟩) K.length cap1).ownBlock = some j → gn ≠ j) := Lib.hid (fun j hj => by
          have h1 := own_lt HN5.out j hj
          have h2 := HD.out j hj
          rcases hblk with h | h
          · have h3 : gn = b' := Option.some.inj h
            omega
          · have h3 : gn = w5.heap.size + 1 := (Option.some.inj h).trans (by simp)
            omega)
        have HO11 := Lib.hid hown'
        have z11 : w.heap.size < w11.heap.size := by have := hgrow.size; simp at this; omega
        have HB11 := Lib.hid hB11
        clear hown' hgrow hB11 hblk HW5 HN5 B5 f2 f3
        go_wp2
        go_roundg g
        case measure => omega
        case rel => exact ⟨k + 1, O ++ [(p1, p2, p3, p4)], gn, capn, by omega, by go_num, by rw [List.length_append]; rfl, HO5, Lib.hid (by rw [flatP_app, List.length_append]; exact HO11.out), HN11, HD11, HB11, z11, g2, g3⟩

/-- What ParentOf answers. -/
def prP (n d : Int) : Lf4 := if poC n d = 0 then ((wkL (n, d) 7)[(wkL (n, d) 7).length - 1]?).getD (0, 0, 0, 0) else (0, 0, 0, 0)
def prC (n d : Int) : Int := if poC n d = 0 then (if (wkL (n, d) 7).length = 0 then 4 else 0) else poC n d
theorem pr_cases (n d : Int) : (poC n d ≠ 0 ∧ prP n d = (0, 0, 0, 0) ∧ prC n d = poC n d) ∨ (poC n d = 0 ∧ (wkL (n, d) 7).length = 0 ∧ prP n d = (0, 0, 0, 0) ∧ prC n d = 4) ∨ (poC n d = 0 ∧ ∃ k, (wkL (n, d) 7).length = k + 1 ∧ (wkL (n, d) 7)[k]? = some (prP n d) ∧ prC n d = 0) := by
  unfold prP prC
  by_cases h : poC n d = 0
  · generalize wkL (n, d) 7 = K
    simp only [h, if_true]
    cases K with
    | nil => exact .inr (.inl ⟨trivial, rfl, rfl, rfl⟩)
    | cons p K =>
      refine .inr (.inr ⟨trivial, K.length, rfl, ?_, by simp⟩)
      have e := List.getElem?_eq_getElem (l := p :: K) (i := K.length) (by simp)
      simp only [List.length_cons, Nat.add_sub_cancel]
      rw [e]
      rfl
  · exact .inl ⟨h, by simp [h], by simp [h]⟩
theorem po_arnd {n d : Int} (hc : poC n d = 0) : isAng n d = true ∧ 2 ≤ shortP d ∧ shortP d ≤ 8 ∧ okP (poP n d) = true := by
  have h8 := shortP_le d
  rcases po_cases n d with ⟨h1, h2, h3⟩ | ⟨h1, h2, h3, h4⟩ | ⟨h1, h2, h3, h4⟩
  · omega
  · omega
  · obtain ⟨q, _, _, e, ok, _⟩ := po_good h1 h2
    exact ⟨h1, h2, h8, by rw [e]; exact ok⟩
theorem implWakes8 (n d : Int) (w : World) (ha : isAng n d = true) :
    Calls Try.prog 73 #[ang n d, .int .i64 8] w fun e w' => ∃ A cap, e = .returned (.slice A (wkL (n, d) 7).length cap) ∧ w'.ownsRow w.heap.size 52 4 (.slice A (wkL (n, d) 7).length cap) (wkL (n, d) 7).length (flatP (wkL (n, d) 7)) ∧ Below w.heap.size w w' := implWakes n d 8 w ha (by omega) (by omega)

set_option maxRecDepth 8000 in
set_option maxHeartbeats 1000000 in
theorem implParent (n d : Int) (w : World) :
    Calls Try.prog 37 #[ang n d] w fun e w' => e = .returned (res5 (prP n d) (prC n d)) ∧ Below w.heap.size w w' := by
  have HP := Lib.hid (fun w => implPer n d w)
  rcases pr_cases n d with ⟨h1, h2, h3⟩ | ⟨h1, h2, h3, h4⟩ | ⟨h1, k, h2, h3, h4⟩
  · rw [h2, h3]
    have hcb : (poC n d == 0) = false := beq_eq_false_iff_ne.2 h1
    generalize poC n d = c at *
    generalize ppN n d = N at *
    clear h2 h3
    go_enter Try.func37, Try.ntmps37
    go_wp2_with fail
    refine (HP.out _).mono ?_
    rintro e w1 ⟨rfl, hb1⟩
    obtain ⟨hc1, hf1⟩ := bcell hb1
    have hz1_0 : w.heap.size < w1.heap.size := by have := hb1.size; first | omega | (simp at this; omega)
    have hz1_1 : w.heap.size + 1 < w1.heap.size := by have := hb1.size; first | omega | (simp at this; omega)
    have q1_1_0 : w1.cell? ⟨w.heap.size + 1, 0, none⟩ = some (.int .i64 0) := cellThru hb1 (by simp <;> omega) (by simp [go_sem])
    have q1_1_1 : w1.cell? ⟨w.heap.size + 1, 1, none⟩ = some (.int .i64 0) := cellThru hb1 (by simp <;> omega) (by simp [go_sem])
    have q1_1_2 : w1.cell? ⟨w.heap.size + 1, 2, none⟩ = some (.int .i64 0) := cellThru hb1 (by simp <;> omega) (by simp [go_sem])
    have q1_1_3 : w1.cell? ⟨w.heap.size + 1, 3, none⟩ = some (.int .i64 0) := cellThru hb1 (by simp <;> omega) (by simp [go_sem])
    go_wp2
    refine bodyPost_ret (v := res5 (0, 0, 0, 0) c) (by simp [results, Try.results37, go_sem, q1_1_0, q1_1_1, q1_1_2, q1_1_3]) rfl ⟨rfl, ?_⟩
    (repeat' (first | (with_reducible exact Below.refl _ _) | (with_reducible assumption) | (with_reducible refine belowNext ?_ (by with_reducible assumption)) | (with_reducible refine belowAlloc ?_ _) | (with_reducible refine Below.drew ?_) | (with_reducible refine below_drewN ?_ _) | (with_reducible refine Below.setCell ?_ ?_ _) | go_size | (with_reducible refine sizeOf' ?_) | (with_reducible refine sizeAdd ?_) | (dsimp only; first | (with_reducible refine sizeOf' ?_) | (with_reducible refine sizeAdd ?_))))
  · have HW := Lib.hid (fun w => implWakes8 n d w (po_arnd h1).1)
    rw [h3, h4]
    rw [h1] at HP
    generalize ppN n d = N at *
    generalize wkL (n, d) 7 = K at *
    generalize K.length = len at *
    subst h2
    clear h1 h3 h4
    go_enter Try.func37, Try.ntmps37
    go_wp2_with fail
    refine (HP.out _).mono ?_
    rintro e w1 ⟨rfl, hb1⟩
    obtain ⟨hc1, hf1⟩ := bcell hb1
    have hz1_0 : w.heap.size < w1.heap.size := by have := hb1.size; first | omega | (simp at this; omega)
    have hz1_1 : w.heap.size + 1 < w1.heap.size := by have := hb1.size; first | omega | (simp at this; omega)
    have q1_0_0 : w1.cell? ⟨w.heap.size, 0, none⟩ = some (.int .i64 n) := cellThru hb1 (by simp <;> omega) (by simp [go_sem])
    have q1_0_1 : w1.cell? ⟨w.heap.size, 1, none⟩ = some (.int .i64 d) := cellThru hb1 (by simp <;> omega) (by simp [go_sem])
    have q1_1_0 : w1.cell? ⟨w.heap.size + 1, 0, none⟩ = some (.int .i64 0) := cellThru hb1 (by simp <;> omega) (by simp [go_sem])
    have q1_1_1 : w1.cell? ⟨w.heap.size + 1, 1, none⟩ = some (.int .i64 0) := cellThru hb1 (by simp <;> omega) (by simp [go_sem])
    have q1_1_2 : w1.cell? ⟨w.heap.size + 1, 2, none⟩ = some (.int .i64 0) := cellThru hb1 (by simp <;> omega) (by simp [go_sem])
    have q1_1_3 : w1.cell? ⟨w.heap.size + 1, 3, none⟩ = some (.int .i64 0) := cellThru hb1 (by simp <;> omega) (by simp [go_sem])
    go_wp2_with fail
    refine (HW.out _).mono ?_
    rintro e w2 ⟨A, cap, rfl, ho2, hb2⟩
    obtain ⟨hc2, hf2⟩ := bcell hb2
    have hz2_0 : w.heap.size < w2.heap.size := by have := hb2.size; first | omega | (simp at this; omega)
    have hz2_1 : w.heap.size + 1 < w2.heap.size := by have := hb2.size; first | omega | (simp at this; omega)
    have q2_1_0 : w2.cell? ⟨w.heap.size + 1, 0, none⟩ = some (.int .i64 0) := by first | exact cellThru hb2 hz1_1 q1_1_0 | (refine cellThru hb2 ?_ (cellThru (belowAlloc (Below.refl _ _) _) hz1_1 q1_1_0); first | omega | (simp; omega)) | (refine cellThru hb2 ?_ (cellThru (belowAlloc (belowAlloc (Below.refl _ _) _) _) hz1_1 q1_1_0); first | omega | (simp; omega)) | (refine cellThru hb2 ?_ ?_; (first | omega | (simp; omega) | go_size); simp [go_sem, q1_1_0])
    have q2_1_1 : w2.cell? ⟨w.heap.size + 1, 1, none⟩ = some (.int .i64 0) := by first | exact cellThru hb2 hz1_1 q1_1_1 | (refine cellThru hb2 ?_ (cellThru (belowAlloc (Below.refl _ _) _) hz1_1 q1_1_1); first | omega | (simp; omega)) | (refine cellThru hb2 ?_ (cellThru (belowAlloc (belowAlloc (Below.refl _ _) _) _) hz1_1 q1_1_1); first | omega | (simp; omega)) | (refine cellThru hb2 ?_ ?_; (first | omega | (simp; omega) | go_size); simp [go_sem, q1_1_1])
    have q2_1_2 : w2.cell? ⟨w.heap.size + 1, 2, none⟩ = some (.int .i64 0) := by first | exact cellThru hb2 hz1_1 q1_1_2 | (refine cellThru hb2 ?_ (cellThru (belowAlloc (Below.refl _ _) _) hz1_1 q1_1_2); first | omega | (simp; omega)) | (refine cellThru hb2 ?_ (cellThru (belowAlloc (belowAlloc (Below.refl _ _) _) _) hz1_1 q1_1_2); first | omega | (simp; omega)) | (refine cellThru hb2 ?_ ?_; (first | omega | (simp; omega) | go_size); simp [go_sem, q1_1_2])
    have q2_1_3 : w2.cell? ⟨w.heap.size + 1, 3, none⟩ = some (.int .i64 0) := by first | exact cellThru hb2 hz1_1 q1_1_3 | (refine cellThru hb2 ?_ (cellThru (belowAlloc (Below.refl _ _) _) hz1_1 q1_1_3); first | omega | (simp; omega)) | (refine cellThru hb2 ?_ (cellThru (belowAlloc (belowAlloc (Below.refl _ _) _) _) hz1_1 q1_1_3); first | omega | (simp; omega)) | (refine cellThru hb2 ?_ ?_; (first | omega | (simp; omega) | go_size); simp [go_sem, q1_1_3])
    clear ho2
    go_wp2
    refine bodyPost_ret (v := res5 (0, 0, 0, 0) 4) (by simp [results, Try.results37, go_sem, q2_1_0, q2_1_1, q2_1_2, q2_1_3]) rfl ⟨rfl, ?_⟩
    (repeat' (first | (with_reducible exact Below.refl _ _) | (with_reducible assumption) | (with_reducible refine belowNext ?_ (by with_reducible assumption)) | (with_reducible refine belowAlloc ?_ _) | (with_reducible refine Below.drew ?_) | (with_reducible refine below_drewN ?_ _) | (with_reducible refine Below.setCell ?_ ?_ _) | go_size | (with_reducible refine sizeOf' ?_) | (with_reducible refine sizeAdd ?_) | (dsimp only; first | (with_reducible refine sizeOf' ?_) | (with_reducible refine sizeAdd ?_))))
  · have HW := Lib.hid (fun w => implWakes8 n d w (po_arnd h1).1)
    rw [h4]
    rw [h1] at HP
    generalize prP n d = V at *
    obtain ⟨p1, p2, p3, p4⟩ := V
    generalize ppN n d = N at *
    have hl2 : (wkL (n, d) 7).length ≤ 2000 := (wkL_facts (n, d) (m := 7) (by omega)).2.2.2.2
    generalize wkL (n, d) 7 = K at *
    have HQ := Lib.hid h3
    have HL := Lib.hid h2
    have hlt : k < K.length := by omega
    have e1 : (K.length : Int) - 1 = (k : Int) := by omega
    have e2 : IntKind.i64.wrap (k : Int) = (k : Int) := IntWalk.i64_in _ (by omega)
    have e3 : ¬ ((K.length : Int) = 0) := by omega
    have e4 : ((K.length : Int) == 0) = false := beq_eq_false_iff_ne.2 e3
    clear h1 h3 h4 h2
    go_enter Try.func37, Try.ntmps37
    go_wp2_with fail
    refine (HP.out _).mono ?_
    rintro e w1 ⟨rfl, hb1⟩
    obtain ⟨hc1, hf1⟩ := bcell hb1
    have hz1_0 : w.heap.size < w1.heap.size := by have := hb1.size; first | omega | (simp at this; omega)
    have hz1_1 : w.heap.size + 1 < w1.heap.size := by have := hb1.size; first | omega | (simp at this; omega)
    have q1_0_0 : w1.cell? ⟨w.heap.size, 0, none⟩ = some (.int .i64 n) := cellThru hb1 (by simp <;> omega) (by simp [go_sem])
    have q1_0_1 : w1.cell? ⟨w.heap.size, 1, none⟩ = some (.int .i64 d) := cellThru hb1 (by simp <;> omega) (by simp [go_sem])
    have q1_1_0 : w1.cell? ⟨w.heap.size + 1, 0, none⟩ = some (.int .i64 0) := cellThru hb1 (by simp <;> omega) (by simp [go_sem])
    have q1_1_1 : w1.cell? ⟨w.heap.size + 1, 1, none⟩ = some (.int .i64 0) := cellThru hb1 (by simp <;> omega) (by simp [go_sem])
    have q1_1_2 : w1.cell? ⟨w.heap.size + 1, 2, none⟩ = some (.int .i64 0) := cellThru hb1 (by simp <;> omega) (by simp [go_sem])
    have q1_1_3 : w1.cell? ⟨w.heap.size + 1, 3, none⟩ = some (.int .i64 0) := cellThru hb1 (by simp <;> omega) (by simp [go_sem])
    go_wp2_with fail
    refine (HW.out _).mono ?_
    rintro e w2 ⟨A, cap, rfl, ho2, hb2⟩
    obtain ⟨hc2, hf2⟩ := bcell hb2
    have hz2_0 : w.heap.size < w2.heap.size := by have := hb2.size; first | omega | (simp at this; omega)
    have hz2_1 : w.heap.size + 1 < w2.heap.size := by have := hb2.size; first | omega | (simp at this; omega)
    have q2_1_0 : w2.cell? ⟨w.heap.size + 1, 0, none⟩ = some (.int .i64 0) := by first | exact cellThru hb2 hz1_1 q1_1_0 | (refine cellThru hb2 ?_ (cellThru (belowAlloc (Below.refl _ _) _) hz1_1 q1_1_0); first | omega | (simp; omega)) | (refine cellThru hb2 ?_ (cellThru (belowAlloc (belowAlloc (Below.refl _ _) _) _) hz1_1 q1_1_0); first | omega | (simp; omega)) | (refine cellThru hb2 ?_ ?_; (first | omega | (simp; omega) | go_size); simp [go_sem, q1_1_0])
    have q2_1_1 : w2.cell? ⟨w.heap.size + 1, 1, none⟩ = some (.int .i64 0) := by first | exact cellThru hb2 hz1_1 q1_1_1 | (refine cellThru hb2 ?_ (cellThru (belowAlloc (Below.refl _ _) _) hz1_1 q1_1_1); first | omega | (simp; omega)) | (refine cellThru hb2 ?_ (cellThru (belowAlloc (belowAlloc (Below.refl _ _) _) _) hz1_1 q1_1_1); first | omega | (simp; omega)) | (refine cellThru hb2 ?_ ?_; (first | omega | (simp; omega) | go_size); simp [go_sem, q1_1_1])
    have q2_1_2 : w2.cell? ⟨w.heap.size + 1, 2, none⟩ = some (.int .i64 0) := by first | exact cellThru hb2 hz1_1 q1_1_2 | (refine cellThru hb2 ?_ (cellThru (belowAlloc (Below.refl _ _) _) hz1_1 q1_1_2); first | omega | (simp; omega)) | (refine cellThru hb2 ?_ (cellThru (belowAlloc (belowAlloc (Below.refl _ _) _) _) hz1_1 q1_1_2); first | omega | (simp; omega)) | (refine cellThru hb2 ?_ ?_; (first | omega | (simp; omega) | go_size); simp [go_sem, q1_1_2])
    have q2_1_3 : w2.cell? ⟨w.heap.size + 1, 3, none⟩ = some (.int .i64 0) := by first | exact cellThru hb2 hz1_1 q1_1_3 | (refine cellThru hb2 ?_ (cellThru (belowAlloc (Below.refl _ _) _) hz1_1 q1_1_3); first | omega | (simp; omega)) | (refine cellThru hb2 ?_ (cellThru (belowAlloc (belowAlloc (Below.refl _ _) _) _) hz1_1 q1_1_3); first | omega | (simp; omega)) | (refine cellThru hb2 ?_ ?_; (first | omega | (simp; omega) | go_size); simp [go_sem, q1_1_3])
    obtain ⟨g0, off, u1, u2, u3, u4, rfl, hq, y0, y1, y2, y3, hg0⟩ := row_pairE (rowP_of rfl ho2) (Below.refl _ _) hlt
    obtain ⟨rfl, rfl, rfl, rfl⟩ : u1 = p1 ∧ u2 = p2 ∧ u3 = p3 ∧ u4 = p4 := by
      have := hq.symm.trans HQ.out
      simp at this
      exact this
    clear hq ho2
    go_wp2
    refine bodyPost_ret (v := res5 (u1, u2, u3, u4) 0) (by simp [results, Try.results37, go_sem, q2_1_0, q2_1_1, q2_1_2, q2_1_3]) rfl ⟨rfl, ?_⟩
    (repeat' (first | (with_reducible exact Below.refl _ _) | (with_reducible assumption) | (with_reducible refine belowNext ?_ (by with_reducible assumption)) | (with_reducible refine belowAlloc ?_ _) | (with_reducible refine Below.drew ?_) | (with_reducible refine below_drewN ?_ _) | (with_reducible refine Below.setCell ?_ ?_ _) | go_size | (with_reducible refine sizeOf' ?_) | (with_reducible refine sizeAdd ?_) | (dsimp only; first | (with_reducible refine sizeOf' ?_) | (with_reducible refine sizeAdd ?_))))

/-- What DepthOf answers. -/
def dpN (n d : Int) : Int := if poC n d = 0 then ((wkL (n, d) (shortP d - 1)).length : Int) else 0
set_option maxHeartbeats 1000000 in
theorem implDepth (n d : Int) (w : World) :
    Calls Try.prog 39 #[ang n d] w fun e w' => e = .returned (.tuple #[.int .i64 (dpN n d), .int .i64 (poC n d)]) ∧ Below w.heap.size w w' := by
  have HP := Lib.hid (fun w => implPer n d w)
  by_cases hc : poC n d = 0
  · obtain ⟨h1, h2, h8, _⟩ := po_arnd hc
    have e1 : ppN n d = (shortP d : Int) := by unfold ppN; simp [h1, h2]
    have e2 : dpN n d = ((wkL (n, d) (shortP d - 1)).length : Int) := by unfold dpN; simp [hc]
    have HW := Lib.hid (fun w => implWakes n d (shortP d) w h1 (by omega) h8)
    rw [hc, e2]
    rw [hc, e1] at HP
    generalize wkL (n, d) (shortP d - 1) = K at *
    generalize (shortP d : Int) = S at *
    clear hc h1 h2 h8 e1 e2
    go_enter Try.func39, Try.ntmps39
    go_wp2_with fail
    refine (HP.out _).mono ?_
    rintro e w1 ⟨rfl, hb1⟩
    obtain ⟨hc1, hf1⟩ := bcell hb1
    have hz1_0 : w.heap.size < w1.heap.size := by have := hb1.size; first | omega | (simp at this; omega)
    have q1_0_0 : w1.cell? ⟨w.heap.size, 0, none⟩ = some (.int .i64 n) := cellThru hb1 (by simp <;> omega) (by simp [go_sem])
    have q1_0_1 : w1.cell? ⟨w.heap.size, 1, none⟩ = some (.int .i64 d) := cellThru hb1 (by simp <;> omega) (by simp [go_sem])
    go_wp2_with fail
    refine (HW.out _).mono ?_
    rintro e w2 ⟨A, cap, rfl, ho2, hb2⟩
    obtain ⟨hc2, hf2⟩ := bcell hb2
    have hz2_0 : w.heap.size < w2.heap.size := by have := hb2.size; first | omega | (simp at this; omega)
    clear ho2
    go_wp2
    go_ret2
    refine ⟨rfl, ?_⟩
    (repeat' (first | (with_reducible exact Below.refl _ _) | (with_reducible assumption) | (with_reducible refine belowNext ?_ (by with_reducible assumption)) | (with_reducible refine belowAlloc ?_ _) | (with_reducible refine Below.drew ?_) | (with_reducible refine below_drewN ?_ _) | (with_reducible refine Below.setCell ?_ ?_ _) | go_size | (with_reducible refine sizeOf' ?_) | (with_reducible refine sizeAdd ?_) | (dsimp only; first | (with_reducible refine sizeOf' ?_) | (with_reducible refine sizeAdd ?_))))
  · have e2 : dpN n d = 0 := by unfold dpN; simp [hc]
    rw [e2]
    have hcb : (poC n d == 0) = false := beq_eq_false_iff_ne.2 hc
    generalize poC n d = c at *
    generalize ppN n d = N at *
    clear e2
    go_enter Try.func39, Try.ntmps39
    go_wp2_with fail
    refine (HP.out _).mono ?_
    rintro e w1 ⟨rfl, hb1⟩
    obtain ⟨hc1, hf1⟩ := bcell hb1
    have hz1_0 : w.heap.size < w1.heap.size := by have := hb1.size; first | omega | (simp at this; omega)
    go_wp2
    go_ret2
    refine ⟨rfl, ?_⟩
    (repeat' (first | (with_reducible exact Below.refl _ _) | (with_reducible assumption) | (with_reducible refine belowNext ?_ (by with_reducible assumption)) | (with_reducible refine belowAlloc ?_ _) | (with_reducible refine Below.drew ?_) | (with_reducible refine below_drewN ?_ _) | (with_reducible refine Below.setCell ?_ ?_ _) | go_size | (with_reducible refine sizeOf' ?_) | (with_reducible refine sizeAdd ?_) | (dsimp only; first | (with_reducible refine sizeOf' ?_) | (with_reducible refine sizeAdd ?_))))

theorem pairs_at (m : Nat) (z : Int) (h : m ≤ 7) (hz : ((m + 1 : Nat) : Int) = z) (w : World) :
    Calls Try.prog 75 #[.int .i64 z] w fun e w' => ∃ A cap, e = .returned (.slice A (upK m).length cap) ∧ w'.ownsRow w.heap.size 52 4 (.slice A (upK m).length cap) (upK m).length (flatP ((upK m).map (·.1))) ∧ Below w.heap.size w w' := by
  subst hz
  exact specPairs (m + 1) w (by omega) (by omega)

set_option maxRecDepth 8000 in
set_option maxHeartbeats 1000000 in
theorem specParentM (m : Nat) (hm : m = 7) (n d : Int) (w : World) :
    Calls Try.prog 38 #[ang n d] w fun e w' => e = .returned (res5 (prP n d) (prC n d)) ∧ Below w.heap.size w w' := by
  have HP := Lib.hid (fun w => specPairOf n d w)
  have hpr := pr_cases n d
  rw [← hm] at hpr
  by_cases hc : poC n d = 0
  · obtain ⟨h1, h2, h8, hok⟩ := po_arnd hc
    have HU := Lib.hid (fun w => pairs_at m 8 (by omega) (by omega) w)
    have hll := upK_len m (by omega)
    have hE := po_around h1 h2 (m := m) (by omega) (by omega)
    have hw2 : (wkL (n, d) m).length ≤ 2000 := (wkL_facts (n, d) (m := m) (by omega)).2.2.2.2
    rw [hc] at HP
    generalize prC n d = C at *
    generalize prP n d = V at *
    generalize poP n d = P at *
    obtain ⟨a, b, x, y⟩ := P
    obtain ⟨v1, v2, v3, v4⟩ := V
    have HS := Lib.hid (fun (A : Option Addr) (len cap : Nat) (w : World) (hr : LfRow w w.heap.size A ((upK m).map (·.1))) (hl : ((upK m).map (·.1)).length = len) (hm2 : len ≤ 2000) => specAround a b x y A len cap ((upK m).map (·.1)) w hok (fun p hp => mapOk (m := m) (by omega) p hp) hr hl hm2)
    rw [hE] at HS
    generalize wkL (n, d) m = L at *
    have hll2 : (upK m).length ≤ 2000 := by omega
    generalize upK m = l at *
    have HK : Hid ((L.length = 0 ∧ v1 = 0 ∧ v2 = 0 ∧ v3 = 0 ∧ v4 = 0 ∧ C = 4) ∨ (∃ k, L.length = k + 1 ∧ L[k]? = some (v1, v2, v3, v4) ∧ C = 0)) := Lib.hid (by
      rcases hpr with ⟨q1, _⟩ | ⟨_, q2, q3, q4⟩ | ⟨_, k, q2, q3, q4⟩
      · exact absurd hc q1
      · simp at q3
        exact .inl ⟨q2, q3.1, q3.2.1, q3.2.2.1, q3.2.2.2, q4⟩
      · exact .inr ⟨k, q2, q3, q4⟩)
    clear hm
    clear hc h1 h2 h8 hok hE hpr hll
    go_enter Try.func38, Try.ntmps38
    go_wp2_with fail
    refine (HP.out _).mono ?_
    rintro e w1 ⟨rfl, hb1⟩
    obtain ⟨hc1, hf1⟩ := bcell hb1
    have hz1_0 : w.heap.size < w1.heap.size := by have := hb1.size; first | omega | (simp at this; omega)
    have hz1_1 : w.heap.size + 1 < w1.heap.size := by have := hb1.size; first | omega | (simp at this; omega)
    have q1_1_0 : w1.cell? ⟨w.heap.size + 1, 0, none⟩ = some (.int .i64 0) := cellThru hb1 (by simp <;> omega) (by simp [go_sem])
    have q1_1_1 : w1.cell? ⟨w.heap.size + 1, 1, none⟩ = some (.int .i64 0) := cellThru hb1 (by simp <;> omega) (by simp [go_sem])
    have q1_1_2 : w1.cell? ⟨w.heap.size + 1, 2, none⟩ = some (.int .i64 0) := cellThru hb1 (by simp <;> omega) (by simp [go_sem])
    have q1_1_3 : w1.cell? ⟨w.heap.size + 1, 3, none⟩ = some (.int .i64 0) := cellThru hb1 (by simp <;> omega) (by simp [go_sem])
    have j1_1_0 : w1.frozen? ⟨w.heap.size + 1, 0, none⟩ = false := frozThru hb1 (by simp <;> omega) (by simp [go_sem])
    have j1_1_1 : w1.frozen? ⟨w.heap.size + 1, 1, none⟩ = false := frozThru hb1 (by simp <;> omega) (by simp [go_sem])
    have j1_1_2 : w1.frozen? ⟨w.heap.size + 1, 2, none⟩ = false := frozThru hb1 (by simp <;> omega) (by simp [go_sem])
    have j1_1_3 : w1.frozen? ⟨w.heap.size + 1, 3, none⟩ = false := frozThru hb1 (by simp <;> omega) (by simp [go_sem])
    have B1 : Below w.heap.size w w1 := by
      (repeat' (first | (with_reducible exact Below.refl _ _) | (with_reducible assumption) | (with_reducible refine belowNext ?_ (by with_reducible assumption)) | (with_reducible refine belowAlloc ?_ _) | (with_reducible refine Below.drew ?_) | (with_reducible refine below_drewN ?_ _) | (with_reducible refine Below.setCell ?_ ?_ _) | go_size | (with_reducible refine sizeOf' ?_) | (with_reducible refine sizeAdd ?_) | (dsimp only; first | (with_reducible refine sizeOf' ?_) | (with_reducible refine sizeAdd ?_))))
    have HB3 : Hid (Below w.heap.size w (w1.alloc (.cells #[.int .i64 a, .int .i64 b, .int .i64 x, .int .i64 y] 52))) := Lib.hid (belowAlloc B1 _)
    clear hc1 hf1 hb1 B1
    go_wp2_with fail
    obtain ⟨B6, hB6⟩ : ∃ B, w1.heap.size = B := ⟨_, rfl⟩
    have o0 : (w1.alloc (.cells #[.int .i64 a, .int .i64 b, .int .i64 x, .int .i64 y] 52)).drew.cell? ⟨B6, 0, none⟩ = some (.int .i64 a) := by rw [← hB6]; simp [go_sem]
    have o1 : (w1.alloc (.cells #[.int .i64 a, .int .i64 b, .int .i64 x, .int .i64 y] 52)).drew.cell? ⟨B6, 1, none⟩ = some (.int .i64 b) := by rw [← hB6]; simp [go_sem]
    have o2 : (w1.alloc (.cells #[.int .i64 a, .int .i64 b, .int .i64 x, .int .i64 y] 52)).drew.cell? ⟨B6, 2, none⟩ = some (.int .i64 x) := by rw [← hB6]; simp [go_sem]
    have o3 : (w1.alloc (.cells #[.int .i64 a, .int .i64 b, .int .i64 x, .int .i64 y] 52)).drew.cell? ⟨B6, 3, none⟩ = some (.int .i64 y) := by rw [← hB6]; simp [go_sem]
    have z6 : B6 < (w1.alloc (.cells #[.int .i64 a, .int .i64 b, .int .i64 x, .int .i64 y] 52)).drew.heap.size := by rw [← hB6]; simp
    have z1 : w.heap.size + 1 < B6 := by rw [← hB6]; exact hz1_1
    have z1' := Nat.lt_trans z1 z6
    have r0 : (w1.alloc (.cells #[.int .i64 a, .int .i64 b, .int .i64 x, .int .i64 y] 52)).drew.cell? ⟨w.heap.size + 1, 0, none⟩ = some (.int .i64 0) := cellThru (w1 := (w1.alloc (.cells #[.int .i64 a, .int .i64 b, .int .i64 x, .int .i64 y] 52)).drew) (belowAlloc (Below.refl _ _) _).drew hz1_1 q1_1_0
    have r1 : (w1.alloc (.cells #[.int .i64 a, .int .i64 b, .int .i64 x, .int .i64 y] 52)).drew.cell? ⟨w.heap.size + 1, 1, none⟩ = some (.int .i64 0) := cellThru (w1 := (w1.alloc (.cells #[.int .i64 a, .int .i64 b, .int .i64 x, .int .i64 y] 52)).drew) (belowAlloc (Below.refl _ _) _).drew hz1_1 q1_1_1
    have r2 : (w1.alloc (.cells #[.int .i64 a, .int .i64 b, .int .i64 x, .int .i64 y] 52)).drew.cell? ⟨w.heap.size + 1, 2, none⟩ = some (.int .i64 0) := cellThru (w1 := (w1.alloc (.cells #[.int .i64 a, .int .i64 b, .int .i64 x, .int .i64 y] 52)).drew) (belowAlloc (Below.refl _ _) _).drew hz1_1 q1_1_2
    have r3 : (w1.alloc (.cells #[.int .i64 a, .int .i64 b, .int .i64 x, .int .i64 y] 52)).drew.cell? ⟨w.heap.size + 1, 3, none⟩ = some (.int .i64 0) := cellThru (w1 := (w1.alloc (.cells #[.int .i64 a, .int .i64 b, .int .i64 x, .int .i64 y] 52)).drew) (belowAlloc (Below.refl _ _) _).drew hz1_1 q1_1_3
    rw [hB6]
    have j0 : (w1.alloc (.cells #[.int .i64 a, .int .i64 b, .int .i64 x, .int .i64 y] 52)).drew.frozen? ⟨w.heap.size + 1, 0, none⟩ = false := frozThru (w1 := (w1.alloc (.cells #[.int .i64 a, .int .i64 b, .int .i64 x, .int .i64 y] 52)).drew) (belowAlloc (Below.refl _ _) _).drew hz1_1 j1_1_0
    have j1 : (w1.alloc (.cells #[.int .i64 a, .int .i64 b, .int .i64 x, .int .i64 y] 52)).drew.frozen? ⟨w.heap.size + 1, 1, none⟩ = false := frozThru (w1 := (w1.alloc (.cells #[.int .i64 a, .int .i64 b, .int .i64 x, .int .i64 y] 52)).drew) (belowAlloc (Below.refl _ _) _).drew hz1_1 j1_1_1
    have j2 : (w1.alloc (.cells #[.int .i64 a, .int .i64 b, .int .i64 x, .int .i64 y] 52)).drew.frozen? ⟨w.heap.size + 1, 2, none⟩ = false := frozThru (w1 := (w1.alloc (.cells #[.int .i64 a, .int .i64 b, .int .i64 x, .int .i64 y] 52)).drew) (belowAlloc (Below.refl _ _) _).drew hz1_1 j1_1_2
    have j3 : (w1.alloc (.cells #[.int .i64 a, .int .i64 b, .int .i64 x, .int .i64 y] 52)).drew.frozen? ⟨w.heap.size + 1, 3, none⟩ = false := frozThru (w1 := (w1.alloc (.cells #[.int .i64 a, .int .i64 b, .int .i64 x, .int .i64 y] 52)).drew) (belowAlloc (Below.refl _ _) _).drew hz1_1 j1_1_3
    clear hB6 hz1_0 hz1_1 q1_1_0 q1_1_1 q1_1_2 q1_1_3 j1_1_0 j1_1_1 j1_1_2 j1_1_3
    refine wp_region_any (by kernel_rfl) ?_
    try (change wpAny _ _ _ _ _ _ _ (World.drew _))
    have HB3' : Hid (Below w.heap.size w (w1.alloc (.cells #[.int .i64 a, .int .i64 b, .int .i64 x, .int .i64 y] 52)).drew) := Lib.hid HB3.out.drew
    generalize (w1.alloc (.cells #[.int .i64 a, .int .i64 b, .int .i64 x, .int .i64 y] 52)).drew = wc at *
    clear HB3
    refine wpAny_ready (rs := [0, 1]) (by kernel_rfl) (by simp) ?_
    refine AllReady.cons rfl (fun K hK => ?_) (AllReady.cons rfl (fun K hK => ?_) (AllReady.nil))
    · go_simp
      refine hK _ _ ?_
      clear hK K
      refine wpAny_ready (rs := [1]) (by kernel_rfl) (by simp) ?_
      refine AllReady.cons rfl (fun K hK => ?_) (AllReady.nil)
      go_simp
      go_wp2_with (go_at_call 75; (with_reducible refine (HU.out _).mono ?_); rintro e w4 ⟨A, cap, rfl, ho4, hb4⟩)
      have z4 : B6 < w4.heap.size := Nat.lt_of_lt_of_le z6 hb4.size
      refine wpAny_ready (rs := [2]) (by kernel_rfl) (by simp) ?_
      refine AllReady.cons rfl (fun K hK => ?_) (AllReady.nil)
      go_simp
      go_wp2_with (go_at_call 77; (with_reducible refine (HS.out A _ cap _ (rowP_of (List.length_map _) ho4) (List.length_map _) hll2).mono ?_); rintro e w5 ⟨A5, cap5, rfl, ho5, hb5⟩)
      refine wpAny_take (i := 3) (v := ?_) rfl (by kernel_rfl) (by kernel_rfl) (by kernel_rfl) (fun _ _ _ h => h) (Or.inl ⟨by kernel_rfl, ?_⟩) ?_
      rotate_left
      · intro w; first | (go_simp; done) | (go_simp; with_reducible rfl)
      refine wpAny_done (by kernel_rfl) ?_ _

      have B5 : Below w.heap.size w w5 := belowNext (belowNext HB3'.out hb4) hb5
      have c0 := cellThru hb5 (Nat.lt_trans z1 z4) (cellThru hb4 z1' r0)
      have c1 := cellThru hb5 (Nat.lt_trans z1 z4) (cellThru hb4 z1' r1)
      have c2 := cellThru hb5 (Nat.lt_trans z1 z4) (cellThru hb4 z1' r2)
      have c3 := cellThru hb5 (Nat.lt_trans z1 z4) (cellThru hb4 z1' r3)
      have f0 := frozThru hb5 (Nat.lt_trans z1 z4) (frozThru hb4 z1' j0)
      have f1 := frozThru hb5 (Nat.lt_trans z1 z4) (frozThru hb4 z1' j1)
      have f2 := frozThru hb5 (Nat.lt_trans z1 z4) (frozThru hb4 z1' j2)
      have f3 := frozThru hb5 (Nat.lt_trans z1 z4) (frozThru hb4 z1' j3)
      have z5 : w.heap.size + 1 < w5.heap.size := Nat.lt_of_lt_of_le (Nat.lt_trans z1 z4) hb5.size
      rcases HK.out with ⟨h0, rfl, rfl, rfl, rfl, rfl⟩ | ⟨k, h0, hq, rfl⟩
      · rw [h0]
        clear ho5 ho4
        go_wp2
        refine bodyPost_ret (v := res5 (0, 0, 0, 0) 4) (by simp [results, Try.results38, go_sem, c0, c1, c2, c3]) rfl ⟨rfl, ?_⟩
        have hle1 : w.heap.size ≤ w.heap.size + 1 := Nat.le_succ _
        exact (((B5.setCell hle1 _).setCell hle1 _).setCell hle1 _).setCell hle1 _
      · have hlt : k < L.length := by omega
        have e1 : (L.length : Int) - 1 = (k : Int) := by omega
        have e2 : IntKind.i64.wrap (k : Int) = (k : Int) := IntWalk.i64_in _ (by omega)
        have e3 : ¬ ((L.length : Int) = 0) := by omega
        have e4 : ((L.length : Int) == 0) = false := beq_eq_false_iff_ne.2 e3
        obtain ⟨g0, off, u1, u2, u3, u4, rfl, hq2, y0, y1, y2, y3, hg0⟩ := row_pairE (rowP_of rfl ho5) (Below.refl _ _) hlt
        obtain ⟨rfl, rfl, rfl, rfl⟩ : u1 = v1 ∧ u2 = v2 ∧ u3 = v3 ∧ u4 = v4 := by
          have := hq2.symm.trans hq
          simp at this
          exact this
        have HL0 := Lib.hid h0
        clear hq hq2 ho5 ho4 h0
        go_wp2
        refine bodyPost_ret (v := res5 (u1, u2, u3, u4) 0) (by simp [results, Try.results38, go_sem, c0, c1, c2, c3]) rfl ⟨rfl, ?_⟩
        have hle1 : w.heap.size ≤ w.heap.size + 1 := Nat.le_succ _
        exact (((B5.setCell hle1 _).setCell hle1 _).setCell hle1 _).setCell hle1 _
    · go_simp
      go_wp2_with (go_at_call 75; (with_reducible refine (HU.out _).mono ?_); rintro e w4 ⟨A, cap, rfl, ho4, hb4⟩)
      have z4 : B6 < w4.heap.size := Nat.lt_of_lt_of_le z6 hb4.size
      have p0 := cellThru hb4 z6 o0
      have p1 := cellThru hb4 z6 o1
      have p2 := cellThru hb4 z6 o2
      have p3 := cellThru hb4 z6 o3
      refine wpAny_ready (rs := [0]) (by kernel_rfl) (by simp) ?_
      refine AllReady.cons rfl (fun K hK => ?_) (AllReady.nil)
      go_simp
      refine hK _ _ ?_
      clear hK K
      refine wpAny_ready (rs := [2]) (by kernel_rfl) (by simp) ?_
      refine AllReady.cons rfl (fun K hK => ?_) (AllReady.nil)
      go_simp
      go_wp2_with (go_at_call 77; (with_reducible refine (HS.out A _ cap _ (rowP_of (List.length_map _) ho4) (List.length_map _) hll2).mono ?_); rintro e w5 ⟨A5, cap5, rfl, ho5, hb5⟩)
      refine wpAny_take (i := 3) (v := ?_) rfl (by kernel_rfl) (by kernel_rfl) (by kernel_rfl) (fun _ _ _ h => h) (Or.inl ⟨by kernel_rfl, ?_⟩) ?_
      rotate_left
      · intro w; first | (go_simp; done) | (go_simp; with_reducible rfl)
      refine wpAny_done (by kernel_rfl) ?_ _

      have B5 : Below w.heap.size w w5 := belowNext (belowNext HB3'.out hb4) hb5
      have c0 := cellThru hb5 (Nat.lt_trans z1 z4) (cellThru hb4 z1' r0)
      have c1 := cellThru hb5 (Nat.lt_trans z1 z4) (cellThru hb4 z1' r1)
      have c2 := cellThru hb5 (Nat.lt_trans z1 z4) (cellThru hb4 z1' r2)
      have c3 := cellThru hb5 (Nat.lt_trans z1 z4) (cellThru hb4 z1' r3)
      have f0 := frozThru hb5 (Nat.lt_trans z1 z4) (frozThru hb4 z1' j0)
      have f1 := frozThru hb5 (Nat.lt_trans z1 z4) (frozThru hb4 z1' j1)
      have f2 := frozThru hb5 (Nat.lt_trans z1 z4) (frozThru hb4 z1' j2)
      have f3 := frozThru hb5 (Nat.lt_trans z1 z4) (frozThru hb4 z1' j3)
      have z5 : w.heap.size + 1 < w5.heap.size := Nat.lt_of_lt_of_le (Nat.lt_trans z1 z4) hb5.size
      rcases HK.out with ⟨h0, rfl, rfl, rfl, rfl, rfl⟩ | ⟨k, h0, hq, rfl⟩
      · rw [h0]
        clear ho5 ho4
        go_wp2
        refine bodyPost_ret (v := res5 (0, 0, 0, 0) 4) (by simp [results, Try.results38, go_sem, c0, c1, c2, c3]) rfl ⟨rfl, ?_⟩
        have hle1 : w.heap.size ≤ w.heap.size + 1 := Nat.le_succ _
        exact (((B5.setCell hle1 _).setCell hle1 _).setCell hle1 _).setCell hle1 _
      · have hlt : k < L.length := by omega
        have e1 : (L.length : Int) - 1 = (k : Int) := by omega
        have e2 : IntKind.i64.wrap (k : Int) = (k : Int) := IntWalk.i64_in _ (by omega)
        have e3 : ¬ ((L.length : Int) = 0) := by omega
        have e4 : ((L.length : Int) == 0) = false := beq_eq_false_iff_ne.2 e3
        obtain ⟨g0, off, u1, u2, u3, u4, rfl, hq2, y0, y1, y2, y3, hg0⟩ := row_pairE (rowP_of rfl ho5) (Below.refl _ _) hlt
        obtain ⟨rfl, rfl, rfl, rfl⟩ : u1 = v1 ∧ u2 = v2 ∧ u3 = v3 ∧ u4 = v4 := by
          have := hq2.symm.trans hq
          simp at this
          exact this
        have HL0 := Lib.hid h0
        clear hq hq2 ho5 ho4 h0
        go_wp2
        refine bodyPost_ret (v := res5 (u1, u2, u3, u4) 0) (by simp [results, Try.results38, go_sem, c0, c1, c2, c3]) rfl ⟨rfl, ?_⟩
        have hle1 : w.heap.size ≤ w.heap.size + 1 := Nat.le_succ _
        exact (((B5.setCell hle1 _).setCell hle1 _).setCell hle1 _).setCell hle1 _
  · rcases hpr with ⟨q1, q2, q3⟩ | ⟨q1, _⟩ | ⟨q1, _⟩
    · rw [q2, q3]
      have hcb : (poC n d == 0) = false := beq_eq_false_iff_ne.2 hc
      generalize poC n d = c at *
      generalize poP n d = P at *
      obtain ⟨a, b, x, y⟩ := P
      clear q2 q3 q1
      go_enter Try.func38, Try.ntmps38
      go_wp2_with fail
      refine (HP.out _).mono ?_
      rintro e w1 ⟨rfl, hb1⟩
      obtain ⟨hc1, hf1⟩ := bcell hb1
      have hz1_0 : w.heap.size < w1.heap.size := by have := hb1.size; first | omega | (simp at this; omega)
      have hz1_1 : w.heap.size + 1 < w1.heap.size := by have := hb1.size; first | omega | (simp at this; omega)
      have q1_1_0 : w1.cell? ⟨w.heap.size + 1, 0, none⟩ = some (.int .i64 0) := cellThru hb1 (by simp <;> omega) (by simp [go_sem])
      have q1_1_1 : w1.cell? ⟨w.heap.size + 1, 1, none⟩ = some (.int .i64 0) := cellThru hb1 (by simp <;> omega) (by simp [go_sem])
      have q1_1_2 : w1.cell? ⟨w.heap.size + 1, 2, none⟩ = some (.int .i64 0) := cellThru hb1 (by simp <;> omega) (by simp [go_sem])
      have q1_1_3 : w1.cell? ⟨w.heap.size + 1, 3, none⟩ = some (.int .i64 0) := cellThru hb1 (by simp <;> omega) (by simp [go_sem])
      go_wp2
      refine bodyPost_ret (v := res5 (0, 0, 0, 0) c) (by simp [results, Try.results38, go_sem, q1_1_0, q1_1_1, q1_1_2, q1_1_3, hz1_1]) rfl ⟨rfl, ?_⟩
      (repeat' (first | (with_reducible exact Below.refl _ _) | (with_reducible assumption) | (with_reducible refine belowNext ?_ (by with_reducible assumption)) | (with_reducible refine belowAlloc ?_ _) | (with_reducible refine Below.drew ?_) | (with_reducible refine below_drewN ?_ _) | (with_reducible refine Below.setCell ?_ ?_ _) | go_size | (with_reducible refine sizeOf' ?_) | (with_reducible refine sizeAdd ?_) | (dsimp only; first | (with_reducible refine sizeOf' ?_) | (with_reducible refine sizeAdd ?_))))
    · exact absurd q1 hc
    · exact absurd q1 hc

theorem specParent (n d : Int) (w : World) : Calls Try.prog 38 #[ang n d] w fun e w' => e = .returned (res5 (prP n d) (prC n d)) ∧ Below w.heap.size w w' := specParentM 7 rfl n d w

set_option maxRecDepth 8000 in
set_option maxHeartbeats 1000000 in
theorem specDepth (n d : Int) (w : World) :
    Calls Try.prog 40 #[ang n d] w fun e w' => e = .returned (.tuple #[.int .i64 (dpN n d), .int .i64 (poC n d)]) ∧ Below w.heap.size w w' := by
  have HP := Lib.hid (fun w => specPairOf n d w)
  by_cases hc : poC n d = 0
  · obtain ⟨h1, h2, h8, hok⟩ := po_arnd hc
    obtain ⟨m, hm⟩ : ∃ m, shortP d = m + 1 := ⟨shortP d - 1, by omega⟩
    have HR := Lib.hid (fun w => specPer n d w (ang_red h1))
    have hps : perS (n, d) = m + 1 := ((per_range (ang_red h1)).1 h2).trans hm
    rw [hps] at HR
    have HU := Lib.hid (fun w => pairs_at m ((m + 1 : Nat) : Int) (by omega) rfl w)
    have hll := upK_len m (by omega)
    have hE := po_around h1 h2 (m := m) (by omega) (by omega)
    have e2 : dpN n d = ((wkL (n, d) m).length : Int) := by unfold dpN; rw [if_pos hc, hm]; rfl
    have HB7 : m ≤ 7 := by omega
    rw [hc, e2]
    rw [hc] at HP
    generalize poP n d = P at *
    obtain ⟨a, b, x, y⟩ := P
    have HS := Lib.hid (fun (A : Option Addr) (len cap : Nat) (w : World) (hr : LfRow w w.heap.size A ((upK m).map (·.1))) (hl : ((upK m).map (·.1)).length = len) (hm2 : len ≤ 2000) => specAround a b x y A len cap ((upK m).map (·.1)) w hok (fun p hp => mapOk (m := m) HB7 p hp) hr hl hm2)
    rw [hE] at HS
    generalize wkL (n, d) m = L at *
    have hll2 : (upK m).length ≤ 2000 := by omega
    generalize upK m = l at *
    generalize ((m + 1 : Nat) : Int) = S at *
    clear hc h1 h2 h8 hok hE hll hm hps e2 HB7
    go_enter Try.func40, Try.ntmps40
    go_wp2_with fail
    refine (HP.out _).mono ?_
    rintro e w1 ⟨rfl, hb1⟩
    obtain ⟨hc1, hf1⟩ := bcell hb1
    have hz1_0 : w.heap.size < w1.heap.size := by have := hb1.size; first | omega | (simp at this; omega)
    have q1_0_0 : w1.cell? ⟨w.heap.size, 0, none⟩ = some (.int .i64 n) := cellThru hb1 (by simp <;> omega) (by simp [go_sem])
    have q1_0_1 : w1.cell? ⟨w.heap.size, 1, none⟩ = some (.int .i64 d) := cellThru hb1 (by simp <;> omega) (by simp [go_sem])
    have B1 : Below w.heap.size w w1 := by
      (repeat' (first | (with_reducible exact Below.refl _ _) | (with_reducible assumption) | (with_reducible refine belowNext ?_ (by with_reducible assumption)) | (with_reducible refine belowAlloc ?_ _) | (with_reducible refine Below.drew ?_) | (with_reducible refine below_drewN ?_ _) | (with_reducible refine Below.setCell ?_ ?_ _) | go_size | (with_reducible refine sizeOf' ?_) | (with_reducible refine sizeAdd ?_) | (dsimp only; first | (with_reducible refine sizeOf' ?_) | (with_reducible refine sizeAdd ?_))))
    clear hc1 hf1 hb1
    go_wp2_with fail
    obtain ⟨B6, hB6⟩ : ∃ B, w1.heap.size = B := ⟨_, rfl⟩
    have o2_0 : (w1.alloc (.cells #[.int .i64 a, .int .i64 b, .int .i64 x, .int .i64 y] 52)).drew.cell? ⟨B6, 0, none⟩ = some (.int .i64 a) := by rw [← hB6]; simp [go_sem]
    have o2_1 : (w1.alloc (.cells #[.int .i64 a, .int .i64 b, .int .i64 x, .int .i64 y] 52)).drew.cell? ⟨B6, 1, none⟩ = some (.int .i64 b) := by rw [← hB6]; simp [go_sem]
    have o2_2 : (w1.alloc (.cells #[.int .i64 a, .int .i64 b, .int .i64 x, .int .i64 y] 52)).drew.cell? ⟨B6, 2, none⟩ = some (.int .i64 x) := by rw [← hB6]; simp [go_sem]
    have o2_3 : (w1.alloc (.cells #[.int .i64 a, .int .i64 b, .int .i64 x, .int .i64 y] 52)).drew.cell? ⟨B6, 3, none⟩ = some (.int .i64 y) := by rw [← hB6]; simp [go_sem]
    have z2 : B6 < (w1.alloc (.cells #[.int .i64 a, .int .i64 b, .int .i64 x, .int .i64 y] 52)).drew.heap.size := by rw [← hB6]; simp
    have y2 : w.heap.size < (w1.alloc (.cells #[.int .i64 a, .int .i64 b, .int .i64 x, .int .i64 y] 52)).drew.heap.size := Nat.lt_trans (by rw [← hB6]; exact hz1_0) z2
    have x2_0 : (w1.alloc (.cells #[.int .i64 a, .int .i64 b, .int .i64 x, .int .i64 y] 52)).drew.cell? ⟨w.heap.size, 0, none⟩ = some (.int .i64 n) := cellThru (w1 := (w1.alloc (.cells #[.int .i64 a, .int .i64 b, .int .i64 x, .int .i64 y] 52)).drew) (belowAlloc (Below.refl _ _) _).drew hz1_0 q1_0_0
    have x2_1 : (w1.alloc (.cells #[.int .i64 a, .int .i64 b, .int .i64 x, .int .i64 y] 52)).drew.cell? ⟨w.heap.size, 1, none⟩ = some (.int .i64 d) := cellThru (w1 := (w1.alloc (.cells #[.int .i64 a, .int .i64 b, .int .i64 x, .int .i64 y] 52)).drew) (belowAlloc (Below.refl _ _) _).drew hz1_0 q1_0_1
    have B2 : Below w.heap.size w (w1.alloc (.cells #[.int .i64 a, .int .i64 b, .int .i64 x, .int .i64 y] 52)).drew := (belowAlloc B1 _).drew
    rw [hB6]
    clear hB6 hz1_0 q1_0_0 q1_0_1 B1
    refine wp_region_any (by kernel_rfl) ?_
    try (change wpAny _ _ _ _ _ _ _ (World.drew _))
    generalize (w1.alloc (.cells #[.int .i64 a, .int .i64 b, .int .i64 x, .int .i64 y] 52)).drew = w2 at *
    refine wpAny_ready (rs := [0, 1]) (by kernel_rfl) (by simp) ?_
    refine AllReady.cons rfl (fun K hK => ?_) (AllReady.cons rfl (fun K hK => ?_) (AllReady.nil))
    · go_simp
      refine hK _ _ ?_
      clear hK K
      refine wpAny_ready (rs := [1]) (by kernel_rfl) (by simp) ?_
      refine AllReady.cons rfl (fun K hK => ?_) (AllReady.nil)
      go_simp
      refine hK _ _ ?_
      clear hK K
      refine wpAny_ready (rs := [2]) (by kernel_rfl) (by simp) ?_
      refine AllReady.cons rfl (fun K hK => ?_) (AllReady.nil)
      go_simp
      go_wp2_with (go_at_call 69; (with_reducible refine (HR.out _).mono ?_); rintro e w3 ⟨rfl, hb3⟩)
      have B3 := belowNext B2 hb3
      have z3 := Nat.lt_of_lt_of_le z2 hb3.size
      have y3 := Nat.lt_of_lt_of_le y2 hb3.size
      have o3_0 := cellThru hb3 z2 o2_0
      have o3_1 := cellThru hb3 z2 o2_1
      have o3_2 := cellThru hb3 z2 o2_2
      have o3_3 := cellThru hb3 z2 o2_3
      have x3_0 := cellThru hb3 y2 x2_0
      have x3_1 := cellThru hb3 y2 x2_1
      refine wpAny_ready (rs := [3]) (by kernel_rfl) (by simp) ?_
      refine AllReady.cons rfl (fun K hK => ?_) (AllReady.nil)
      go_simp
      go_wp2_with (go_at_call 75; (with_reducible refine (HU.out _).mono ?_); rintro e w4 ⟨A, cap, rfl, ho4, hb4⟩)
      have B4 := belowNext B3 hb4
      have z4 := Nat.lt_of_lt_of_le z3 hb4.size
      have y4 := Nat.lt_of_lt_of_le y3 hb4.size
      have o4_0 := cellThru hb4 z3 o3_0
      have o4_1 := cellThru hb4 z3 o3_1
      have o4_2 := cellThru hb4 z3 o3_2
      have o4_3 := cellThru hb4 z3 o3_3
      have x4_0 := cellThru hb4 y3 x3_0
      have x4_1 := cellThru hb4 y3 x3_1
      refine wpAny_ready (rs := [4]) (by kernel_rfl) (by simp) ?_
      refine AllReady.cons rfl (fun K hK => ?_) (AllReady.nil)
      go_simp
      go_wp2_with (go_at_call 77; (with_reducible refine (HS.out A _ cap _ (rowP_of (List.length_map _) ho4) (List.length_map _) hll2).mono ?_); rintro e w5 ⟨A5, cap5, rfl, ho5, hb5⟩)
      have B5 := belowNext B4 hb5
      refine wpAny_take (i := 5) (v := ?_) rfl (by kernel_rfl) (by kernel_rfl) (by kernel_rfl) (fun _ _ _ h => h) (Or.inl ⟨by kernel_rfl, ?_⟩) ?_
      rotate_left
      · intro w; first | (go_simp; done) | (go_simp; with_reducible rfl)
      refine wpAny_take (i := 6) (v := ?_) rfl (by kernel_rfl) (by kernel_rfl) (by kernel_rfl) (fun _ _ _ h => h) (Or.inl ⟨by kernel_rfl, ?_⟩) ?_
      rotate_left
      · intro w; first | (go_simp; done) | (go_simp; with_reducible rfl)
      refine wpAny_take (i := 7) (v := ?_) rfl (by kernel_rfl) (by kernel_rfl) (by kernel_rfl) (fun _ _ _ h => h) (Or.inl ⟨by kernel_rfl, ?_⟩) ?_
      rotate_left
      · intro w; first | (go_simp; done) | (go_simp; with_reducible rfl)
      refine wpAny_done (by kernel_rfl) ?_ _
      go_wp2_with fail
      go_ret2
      exact ⟨rfl, B5⟩
    · go_simp
      refine hK _ _ ?_
      clear hK K
      refine wpAny_ready (rs := [0, 2]) (by kernel_rfl) (by simp) ?_
      refine AllReady.cons rfl (fun K hK => ?_) (AllReady.cons rfl (fun K hK => ?_) (AllReady.nil))
      · go_simp
        refine hK _ _ ?_
        clear hK K
        refine wpAny_ready (rs := [2]) (by kernel_rfl) (by simp) ?_
        refine AllReady.cons rfl (fun K hK => ?_) (AllReady.nil)
        go_simp
        go_wp2_with (go_at_call 69; (with_reducible refine (HR.out _).mono ?_); rintro e w3 ⟨rfl, hb3⟩)
        have B3 := belowNext B2 hb3
        have z3 := Nat.lt_of_lt_of_le z2 hb3.size
        have y3 := Nat.lt_of_lt_of_le y2 hb3.size
        have o3_0 := cellThru hb3 z2 o2_0
        have o3_1 := cellThru hb3 z2 o2_1
        have o3_2 := cellThru hb3 z2 o2_2
        have o3_3 := cellThru hb3 z2 o2_3
        have x3_0 := cellThru hb3 y2 x2_0
        have x3_1 := cellThru hb3 y2 x2_1
        refine wpAny_ready (rs := [3]) (by kernel_rfl) (by simp) ?_
        refine AllReady.cons rfl (fun K hK => ?_) (AllReady.nil)
        go_simp
        go_wp2_with (go_at_call 75; (with_reducible refine (HU.out _).mono ?_); rintro e w4 ⟨A, cap, rfl, ho4, hb4⟩)
        have B4 := belowNext B3 hb4
        have z4 := Nat.lt_of_lt_of_le z3 hb4.size
        have y4 := Nat.lt_of_lt_of_le y3 hb4.size
        have o4_0 := cellThru hb4 z3 o3_0
        have o4_1 := cellThru hb4 z3 o3_1
        have o4_2 := cellThru hb4 z3 o3_2
        have o4_3 := cellThru hb4 z3 o3_3
        have x4_0 := cellThru hb4 y3 x3_0
        have x4_1 := cellThru hb4 y3 x3_1
        refine wpAny_ready (rs := [4]) (by kernel_rfl) (by simp) ?_
        refine AllReady.cons rfl (fun K hK => ?_) (AllReady.nil)
        go_simp
        go_wp2_with (go_at_call 77; (with_reducible refine (HS.out A _ cap _ (rowP_of (List.length_map _) ho4) (List.length_map _) hll2).mono ?_); rintro e w5 ⟨A5, cap5, rfl, ho5, hb5⟩)
        have B5 := belowNext B4 hb5
        refine wpAny_take (i := 5) (v := ?_) rfl (by kernel_rfl) (by kernel_rfl) (by kernel_rfl) (fun _ _ _ h => h) (Or.inl ⟨by kernel_rfl, ?_⟩) ?_
        rotate_left
        · intro w; first | (go_simp; done) | (go_simp; with_reducible rfl)
        refine wpAny_take (i := 6) (v := ?_) rfl (by kernel_rfl) (by kernel_rfl) (by kernel_rfl) (fun _ _ _ h => h) (Or.inl ⟨by kernel_rfl, ?_⟩) ?_
        rotate_left
        · intro w; first | (go_simp; done) | (go_simp; with_reducible rfl)
        refine wpAny_take (i := 7) (v := ?_) rfl (by kernel_rfl) (by kernel_rfl) (by kernel_rfl) (fun _ _ _ h => h) (Or.inl ⟨by kernel_rfl, ?_⟩) ?_
        rotate_left
        · intro w; first | (go_simp; done) | (go_simp; with_reducible rfl)
        refine wpAny_done (by kernel_rfl) ?_ _
        go_wp2_with fail
        go_ret2
        exact ⟨rfl, B5⟩
      · go_simp
        go_wp2_with (go_at_call 69; (with_reducible refine (HR.out _).mono ?_); rintro e w3 ⟨rfl, hb3⟩)
        have B3 := belowNext B2 hb3
        have z3 := Nat.lt_of_lt_of_le z2 hb3.size
        have y3 := Nat.lt_of_lt_of_le y2 hb3.size
        have o3_0 := cellThru hb3 z2 o2_0
        have o3_1 := cellThru hb3 z2 o2_1
        have o3_2 := cellThru hb3 z2 o2_2
        have o3_3 := cellThru hb3 z2 o2_3
        have x3_0 := cellThru hb3 y2 x2_0
        have x3_1 := cellThru hb3 y2 x2_1
        refine wpAny_ready (rs := [0, 3]) (by kernel_rfl) (by simp) ?_
        refine AllReady.cons rfl (fun K hK => ?_) (AllReady.cons rfl (fun K hK => ?_) (AllReady.nil))
        · go_simp
          refine hK _ _ ?_
          clear hK K
          refine wpAny_ready (rs := [3]) (by kernel_rfl) (by simp) ?_
          refine AllReady.cons rfl (fun K hK => ?_) (AllReady.nil)
          go_simp
          go_wp2_with (go_at_call 75; (with_reducible refine (HU.out _).mono ?_); rintro e w4 ⟨A, cap, rfl, ho4, hb4⟩)
          have B4 := belowNext B3 hb4
          have z4 := Nat.lt_of_lt_of_le z3 hb4.size
          have y4 := Nat.lt_of_lt_of_le y3 hb4.size
          have o4_0 := cellThru hb4 z3 o3_0
          have o4_1 := cellThru hb4 z3 o3_1
          have o4_2 := cellThru hb4 z3 o3_2
          have o4_3 := cellThru hb4 z3 o3_3
          have x4_0 := cellThru hb4 y3 x3_0
          have x4_1 := cellThru hb4 y3 x3_1
          refine wpAny_ready (rs := [4]) (by kernel_rfl) (by simp) ?_
          refine AllReady.cons rfl (fun K hK => ?_) (AllReady.nil)
          go_simp
          go_wp2_with (go_at_call 77; (with_reducible refine (HS.out A _ cap _ (rowP_of (List.length_map _) ho4) (List.length_map _) hll2).mono ?_); rintro e w5 ⟨A5, cap5, rfl, ho5, hb5⟩)
          have B5 := belowNext B4 hb5
          refine wpAny_take (i := 5) (v := ?_) rfl (by kernel_rfl) (by kernel_rfl) (by kernel_rfl) (fun _ _ _ h => h) (Or.inl ⟨by kernel_rfl, ?_⟩) ?_
          rotate_left
          · intro w; first | (go_simp; done) | (go_simp; with_reducible rfl)
          refine wpAny_take (i := 6) (v := ?_) rfl (by kernel_rfl) (by kernel_rfl) (by kernel_rfl) (fun _ _ _ h => h) (Or.inl ⟨by kernel_rfl, ?_⟩) ?_
          rotate_left
          · intro w; first | (go_simp; done) | (go_simp; with_reducible rfl)
          refine wpAny_take (i := 7) (v := ?_) rfl (by kernel_rfl) (by kernel_rfl) (by kernel_rfl) (fun _ _ _ h => h) (Or.inl ⟨by kernel_rfl, ?_⟩) ?_
          rotate_left
          · intro w; first | (go_simp; done) | (go_simp; with_reducible rfl)
          refine wpAny_done (by kernel_rfl) ?_ _
          go_wp2_with fail
          go_ret2
          exact ⟨rfl, B5⟩
        · go_simp
          go_wp2_with (go_at_call 75; (with_reducible refine (HU.out _).mono ?_); rintro e w4 ⟨A, cap, rfl, ho4, hb4⟩)
          have B4 := belowNext B3 hb4
          have z4 := Nat.lt_of_lt_of_le z3 hb4.size
          have y4 := Nat.lt_of_lt_of_le y3 hb4.size
          have o4_0 := cellThru hb4 z3 o3_0
          have o4_1 := cellThru hb4 z3 o3_1
          have o4_2 := cellThru hb4 z3 o3_2
          have o4_3 := cellThru hb4 z3 o3_3
          have x4_0 := cellThru hb4 y3 x3_0
          have x4_1 := cellThru hb4 y3 x3_1
          refine wpAny_ready (rs := [0]) (by kernel_rfl) (by simp) ?_
          refine AllReady.cons rfl (fun K hK => ?_) (AllReady.nil)
          go_simp
          refine hK _ _ ?_
          clear hK K
          refine wpAny_ready (rs := [4]) (by kernel_rfl) (by simp) ?_
          refine AllReady.cons rfl (fun K hK => ?_) (AllReady.nil)
          go_simp
          go_wp2_with (go_at_call 77; (with_reducible refine (HS.out A _ cap _ (rowP_of (List.length_map _) ho4) (List.length_map _) hll2).mono ?_); rintro e w5 ⟨A5, cap5, rfl, ho5, hb5⟩)
          have B5 := belowNext B4 hb5
          refine wpAny_take (i := 5) (v := ?_) rfl (by kernel_rfl) (by kernel_rfl) (by kernel_rfl) (fun _ _ _ h => h) (Or.inl ⟨by kernel_rfl, ?_⟩) ?_
          rotate_left
          · intro w; first | (go_simp; done) | (go_simp; with_reducible rfl)
          refine wpAny_take (i := 6) (v := ?_) rfl (by kernel_rfl) (by kernel_rfl) (by kernel_rfl) (fun _ _ _ h => h) (Or.inl ⟨by kernel_rfl, ?_⟩) ?_
          rotate_left
          · intro w; first | (go_simp; done) | (go_simp; with_reducible rfl)
          refine wpAny_take (i := 7) (v := ?_) rfl (by kernel_rfl) (by kernel_rfl) (by kernel_rfl) (fun _ _ _ h => h) (Or.inl ⟨by kernel_rfl, ?_⟩) ?_
          rotate_left
          · intro w; first | (go_simp; done) | (go_simp; with_reducible rfl)
          refine wpAny_done (by kernel_rfl) ?_ _
          go_wp2_with fail
          go_ret2
          exact ⟨rfl, B5⟩
  · have e2 : dpN n d = 0 := by unfold dpN; rw [if_neg hc]
    rw [e2]
    have hcb : (poC n d == 0) = false := beq_eq_false_iff_ne.2 hc
    generalize poC n d = c at *
    generalize poP n d = P at *
    obtain ⟨a, b, x, y⟩ := P
    clear e2
    go_enter Try.func40, Try.ntmps40
    go_wp2_with fail
    refine (HP.out _).mono ?_
    rintro e w1 ⟨rfl, hb1⟩
    obtain ⟨hc1, hf1⟩ := bcell hb1
    have hz1_0 : w.heap.size < w1.heap.size := by have := hb1.size; first | omega | (simp at this; omega)
    go_wp2
    go_ret2
    refine ⟨rfl, ?_⟩
    (repeat' (first | (with_reducible exact Below.refl _ _) | (with_reducible assumption) | (with_reducible refine belowNext ?_ (by with_reducible assumption)) | (with_reducible refine belowAlloc ?_ _) | (with_reducible refine Below.drew ?_) | (with_reducible refine below_drewN ?_ _) | (with_reducible refine Below.setCell ?_ ?_ _) | go_size | (with_reducible refine sizeOf' ?_) | (with_reducible refine sizeAdd ?_) | (dsimp only; first | (with_reducible refine sizeOf' ?_) | (with_reducible refine sizeAdd ?_))))

end Go.Proofs.Ytnciiodgkanpjaa

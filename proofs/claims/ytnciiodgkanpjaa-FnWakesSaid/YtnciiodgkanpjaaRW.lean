/-
  Plain mathematics: pairs put into their places one after another. No program in sight.
  Contracts: the wakes around an angle, as the program gathers and sorts them.
  Contracts: the pairs around an angle, as the model puts them into their places.
  Contracts: the wakes around an angle on both sides; the law's walk.
-/
import Derived.Test.YtnciiodgkanpjaaR25
import Derived.Test.YtnciiodgkanpjaaRA
import Derived.Still
import Derived.StillTactics
import Derived.StillTailTactics
namespace Go.Proofs.Ytnciiodgkanpjaa
open Go.RowKit

/-- How many pairs at the head of a list have a lesser lower angle. -/
def lessN (out : List Lf4) (p : Lf4) : Nat := out.findIdx fun q => !lowLt q p
def insP (out : List Lf4) (p : Lf4) : List Lf4 := out.take (lessN out p) ++ p :: out.drop (lessN out p)
/-- The wake of the pair has the angle. -/
def insX (x : Int × Int) (p : Lf4) : Bool := arcB x.1 x.2 p.1 p.2.1 p.2.2.1 p.2.2.2
def wkOf (x : Int × Int) : List Lf4 → List Lf4 → List Lf4
  | out, [] => out
  | out, p :: l => wkOf x (if insX x p then insP out p else out) l
/-- The wakes around an angle, of the periods 2 to m + 1. -/
def wkL (x : Int × Int) (m : Nat) : List Lf4 := wkOf x [] ((upK m).map (·.1))
theorem lessN_le (out : List Lf4) (p : Lf4) : lessN out p ≤ out.length := List.findIdx_le_length
theorem lessN_lt {out : List Lf4} {p : Lf4} {j : Nat} (h : j < lessN out p) {q : Lf4} (hq : out[j]? = some q) : lowLt q p = true := by
  obtain ⟨hj, rfl⟩ := List.getElem?_eq_some_iff.1 hq
  have := List.not_of_lt_findIdx h
  simpa using this
theorem lessN_at {out : List Lf4} {p : Lf4} {q : Lf4} (hq : out[lessN out p]? = some q) : lowLt q p = false := by
  obtain ⟨hj, rfl⟩ := List.getElem?_eq_some_iff.1 hq
  have := List.findIdx_getElem (xs := out) (p := fun q => !lowLt q p) (w := hj)
  have h2 : (!lowLt out[lessN out p] p) = true := this
  cases h3 : lowLt out[lessN out p] p
  · rfl
  · rw [h3] at h2; cases h2
/-- The number of lesser ones is told by what is seen on the way. -/
theorem lessN_stop {out : List Lf4} {p : Lf4} {k : Nat} (hk : k < out.length) (h : ∀ j, j < k → ∀ q, out[j]? = some q → lowLt q p = true) {q : Lf4} (hq : out[k]? = some q) (hn : lowLt q p = false) : lessN out p = k := by
  rcases Nat.lt_trichotomy (lessN out p) k with h1 | h1 | h1
  · have hl : lessN out p < out.length := by omega
    have e := List.getElem?_eq_getElem hl
    have a := h _ h1 _ e
    have b := lessN_at e
    rw [a] at b; cases b
  · exact h1
  · have := lessN_lt h1 hq
    rw [this] at hn; cases hn
theorem lessN_end {out : List Lf4} {p : Lf4} (h : ∀ j, j < out.length → ∀ q, out[j]? = some q → lowLt q p = true) : lessN out p = out.length := by
  rcases Nat.lt_or_ge (lessN out p) out.length with h1 | h1
  · have e := List.getElem?_eq_getElem h1
    have a := h _ h1 _ e
    have b := lessN_at e
    rw [a] at b; cases b
  · have := lessN_le out p; omega
theorem insP_perm (out : List Lf4) (p : Lf4) : (insP out p).Perm (p :: out) := by
  unfold insP
  have h := List.perm_middle (a := p) (l₁ := out.take (lessN out p)) (l₂ := out.drop (lessN out p))
  rwa [List.take_append_drop] at h
theorem insP_len (out : List Lf4) (p : Lf4) : (insP out p).length = out.length + 1 := (insP_perm out p).length_eq
theorem wkOf_perm (x : Int × Int) : ∀ (l out : List Lf4), (wkOf x out l).Perm (out ++ l.filter (insX x))
  | [], out => by simp [wkOf]
  | p :: l, out => by
    simp only [wkOf]
    cases h : insX x p
    · rw [List.filter_cons_of_neg (by rw [h]; simp)]
      exact wkOf_perm x l out
    · rw [List.filter_cons_of_pos h]
      refine (wkOf_perm x l _).trans ?_
      simp only [if_true]
      exact ((insP_perm out p).append_right _).trans List.perm_middle.symm
theorem insP_sorted {out : List Lf4} {p : Lf4} (hok : ∀ q ∈ out, okP q = true) (hp : okP p = true) (hs : out.Pairwise fun x y => lowLt y x = false) : (insP out p).Pairwise fun x y => lowLt y x = false := by
  have hT : ∀ q ∈ out.take (lessN out p), lowLt q p = true := fun q hq => by
    obtain ⟨i, hi, rfl⟩ := List.getElem_of_mem hq
    rw [List.length_take] at hi
    have e : (out.take (lessN out p))[i]? = some (out.take (lessN out p))[i] := List.getElem?_eq_getElem _
    rw [List.getElem?_take_of_lt (by omega)] at e
    exact lessN_lt (by omega) e
  have hD : ∀ q ∈ out.drop (lessN out p), lowLt q p = false := fun q hq => by
    obtain ⟨i, hi, rfl⟩ := List.getElem_of_mem hq
    rw [List.length_drop] at hi
    have e : (out.drop (lessN out p))[i]? = some (out.drop (lessN out p))[i] := List.getElem?_eq_getElem _
    rw [List.getElem?_drop] at e
    generalize (out.drop (lessN out p))[i] = y at *
    have hl : lessN out p < out.length := by omega
    have e0 := List.getElem?_eq_getElem hl
    have n0 := lessN_at e0
    by_cases h0 : i = 0
    · subst h0
      rw [Nat.add_zero] at e
      exact lessN_at e
    · obtain ⟨hj, rfl⟩ := List.getElem?_eq_some_iff.1 e
      have h1 := List.pairwise_iff_getElem.1 hs _ _ hl hj (by omega)
      exact low_ntr (hok _ (List.getElem_mem _)) (hok _ (List.getElem_mem _)) hp h1 n0
  unfold insP
  have hsp := hs
  rw [← List.take_append_drop (lessN out p) out, List.pairwise_append] at hsp
  obtain ⟨s1, s2, s3⟩ := hsp
  rw [List.pairwise_append, List.pairwise_cons]
  refine ⟨s1, ⟨fun q hq => hD q hq, s2⟩, fun a ha b hb => ?_⟩
  rw [List.mem_cons] at hb
  rcases hb with rfl | hb
  · exact low_asym (hT a ha)
  · exact s3 a ha b hb
theorem wkOf_sorted (x : Int × Int) : ∀ (l out : List Lf4), (∀ q ∈ l, okP q = true) → (∀ q ∈ out, okP q = true) → (out.Pairwise fun x y => lowLt y x = false) → (wkOf x out l).Pairwise fun x y => lowLt y x = false
  | [], out, _, _, hs => hs
  | p :: l, out, hl, ho, hs => by
    simp only [wkOf]
    have hp := hl p (List.mem_cons_self ..)
    split
    · refine wkOf_sorted x l _ (fun q hq => hl q (List.mem_cons_of_mem _ hq)) (fun q hq => ?_) (insP_sorted ho hp hs)
      have := (insP_perm out p).mem_iff.1 hq
      rw [List.mem_cons] at this
      rcases this with rfl | h
      · exact hp
      · exact ho q h
    · exact wkOf_sorted x l _ (fun q hq => hl q (List.mem_cons_of_mem _ hq)) ho hs
theorem wkOf_snoc (x : Int × Int) (p : Lf4) : ∀ (l out : List Lf4), wkOf x out (l ++ [p]) = (if insX x p then insP (wkOf x out l) p else wkOf x out l)
  | [], _ => rfl
  | _ :: l, _ => wkOf_snoc x p l _
theorem wkOf_next {x : Int × Int} {l : List Lf4} {k : Nat} {p : Lf4} (h : l[k]? = some p) : wkOf x [] (l.take (k + 1)) = (if insX x p then insP (wkOf x [] (l.take k)) p else wkOf x [] (l.take k)) := by
  rw [List.take_add_one, h]
  exact wkOf_snoc x p _ _
theorem wkOf_len (x : Int × Int) (l : List Lf4) : (wkOf x [] l).length ≤ l.length := by
  rw [(wkOf_perm x l []).length_eq]
  exact List.length_filter_le _ _
theorem wkOf_mem {x : Int × Int} {l : List Lf4} {p : Lf4} (h : p ∈ wkOf x [] l) : p ∈ l := by
  have := (wkOf_perm x l []).mem_iff.1 h
  exact (List.mem_filter.1 this).1
/-- The wakes around an angle: what has the same pairs, in order, is this list. -/
theorem wkL_facts (x : Int × Int) {m : Nat} (h : m ≤ 7) : (wkL x m).Perm (((upK m).filter fun y => insX x y.1).map (·.1)) ∧ ((wkL x m).Pairwise fun x y => lowLt y x = false) ∧ (∀ p ∈ wkL x m, okP p = true) ∧ (∀ p ∈ wkL x m, ∀ q ∈ wkL x m, (p.1, p.2.1) = (q.1, q.2.1) → p = q) ∧ (wkL x m).length ≤ 2000 := by
  refine ⟨?_, wkOf_sorted x _ _ (fun q hq => mapOk h q hq) (by simp) List.Pairwise.nil, fun p hp => mapOk h p (wkOf_mem hp), fun p hp q hq => upK_low h p (wkOf_mem hp) q (wkOf_mem hq), ?_⟩
  · refine (wkOf_perm x _ []).trans ?_
    rw [List.nil_append, List.filter_map]
    exact List.Perm.refl _
  · have h1 := wkOf_len x ((upK m).map (·.1))
    have h2 := upK_len m h
    rw [List.length_map] at h1
    exact Nat.le_trans h1 (by omega)
theorem okP_up {p : Lf4} (h : okP p = true) : angOk p.2.2.1 p.2.2.2 := by
  obtain ⟨h1, h2, h3, h4, _⟩ := (isLf_yes h).2.1
  exact ⟨h1, h2, h3, h4⟩
theorem row_pairE {w W : World} {A : Option Addr} {l : List Lf4} (hr : LfRow w w.heap.size A l) (hB : Below w.heap.size w W) {k : Nat} (hk : k < l.length) :
    ∃ g off p1 p2 p3 p4, A = some ⟨g, off, none⟩ ∧ l[k]? = some (p1, p2, p3, p4) ∧ W.cell? ⟨g, off + k * 4, none⟩ = some (.int .i64 p1) ∧ W.cell? ⟨g, off + k * 4 + 1, none⟩ = some (.int .i64 p2) ∧ W.cell? ⟨g, off + k * 4 + 2, none⟩ = some (.int .i64 p3) ∧ W.cell? ⟨g, off + k * 4 + 3, none⟩ = some (.int .i64 p4) ∧ g < W.heap.size := by
  obtain ⟨⟨p1, p2, p3, p4⟩, hq⟩ : ∃ q, l[k]? = some q := ⟨_, List.getElem?_eq_getElem hk⟩
  have hne : l ≠ [] := by intro h; rw [h] at hk; simp at hk
  obtain ⟨g, off, rfl, hg, hc⟩ := hr hne
  obtain ⟨x0, x1, x2, x3⟩ := hc k p1 p2 p3 p4 hq
  exact ⟨g, off, p1, p2, p3, p4, rfl, hq, (hB.cell (p := ⟨g, off + k * 4, none⟩) hg).trans x0, (hB.cell (p := ⟨g, off + k * 4 + 1, none⟩) hg).trans x1, (hB.cell (p := ⟨g, off + k * 4 + 2, none⟩) hg).trans x2, (hB.cell (p := ⟨g, off + k * 4 + 3, none⟩) hg).trans x3, Nat.lt_of_lt_of_le hg hB.size⟩
theorem flatP_take : ∀ (l : List Lf4) (k : Nat), flatP (l.take k) = (flatP l).take (k * 4)
  | [], k => by simp [flatP]
  | p :: l, 0 => by simp [flatP]
  | p :: l, k + 1 => by
    rw [List.take_succ_cons, show (k + 1) * 4 = k * 4 + 1 + 1 + 1 + 1 by omega]
    simp only [flatP, List.take_succ_cons, flatP_take l k]
theorem flatP_drop : ∀ (l : List Lf4) (k : Nat), flatP (l.drop k) = (flatP l).drop (k * 4)
  | [], k => by simp [flatP]
  | p :: l, 0 => by simp
  | p :: l, k + 1 => by
    rw [List.drop_succ_cons, show (k + 1) * 4 = k * 4 + 1 + 1 + 1 + 1 by omega]
    simp only [flatP, List.drop_succ_cons, flatP_drop l k]

theorem okP_uppers {p : Lf4} (h : okP p = true) : angOk p.2.2.1 p.2.2.2 := by
  obtain ⟨h1, h2, h3, h4, _⟩ := (isLf_yes h).2.1
  exact ⟨h1, h2, h3, h4⟩

set_option maxRecDepth 100000 in
set_option maxHeartbeats 1000000 in
theorem implWakes (n d : Int) (N : Nat) (w : World) (ha : isAng n d = true) (h1 : 1 ≤ N) (h8 : N ≤ 8) :
    Calls Try.prog 73 #[ang n d, .int .i64 N] w fun e w' => ∃ A cap, e = .returned (.slice A (wkL (n, d) (N - 1)).length cap) ∧ w'.ownsRow w.heap.size 52 4 (.slice A (wkL (n, d) (N - 1)).length cap) (wkL (n, d) (N - 1)).length (flatP (wkL (n, d) (N - 1))) ∧ Below w.heap.size w w' := by
  have HU := Lib.hid (fun w => implUpTo N w h1 h8)
  have HOk := Lib.hid (upK_ok (N - 1) (by omega))
  have HNd := Lib.hid (upK_nd (N - 1) (by omega))
  have HK := Lib.hid (wkL_facts (n, d) (m := N - 1) (by omega))
  have hll := upK_len (N - 1) (by omega)
  have HX := Lib.hid (isAng_ok ha)
  generalize wkL (n, d) (N - 1) = K at *
  generalize upK (N - 1) = l at *
  obtain ⟨i0, hi, hz0, hz1, hz2⟩ := info_parts infoP
  have hl2 : l.length ≤ 2000 := by omega
  have hN : 0 ≤ (N : Int) ∧ (N : Int) ≤ 8 := by omega
  generalize (N : Int) = I at *
  have HAr := Lib.hid (fun (x : Lf4 × Nat) (hx : x ∈ l) w => implArcW n d x.1.1 x.1.2.1 x.1.2.2.1 x.1.2.2.2 w HX.out.wide (ok_low (HOk.out x hx)).wide (okP_uppers (HOk.out x hx)).wide)
  clear hll ha h1 h8
  go_enter Try.func73, Try.ntmps73
  go_wp2_with fail
  have zb : w.heap.size < (w.alloc (.cells #[.int .i64 n, .int .i64 d] 25)).heap.size := by simp
  have HB0 : Hid (Below w.heap.size w (w.alloc (.cells #[.int .i64 n, .int .i64 d] 25))) := Lib.hid (belowAlloc (Below.refl _ _) _)
  have c0 : (w.alloc (.cells #[.int .i64 n, .int .i64 d] 25)).cell? ⟨w.heap.size, 0, none⟩ = some (.int .i64 n) := by simp [go_sem]
  have c1 : (w.alloc (.cells #[.int .i64 n, .int .i64 d] 25)).cell? ⟨w.heap.size, 1, none⟩ = some (.int .i64 d) := by simp [go_sem]
  obtain ⟨wb, hwb⟩ : ∃ wb, w.alloc (.cells #[.int .i64 n, .int .i64 d] 25) = wb := ⟨_, rfl⟩
  rw [hwb] at zb HB0 c0 c1 ⊢
  refine (HU.out _).mono ?_
  rintro e w2 ⟨rfl, hm2, hb2⟩
  obtain ⟨B, hB⟩ : ∃ B, wb.heap.size = B := ⟨_, rfl⟩
  have HM2 := Lib.hid hm2
  have HB2 := Lib.hid (belowNext HB0.out hb2)
  have d0 := cellThru hb2 zb c0
  have d1 := cellThru hb2 zb c1
  rw [hB] at HM2 zb ⊢
  clear hm2 hb2 HB0 c0 c1 hB hwb
  go_wp2_with (at_range; refine wpList_range_own _ rfl _ 86 rfl 52 2 rpLaw Try.underlying86 _ B l.length _ rfl HM2.out ?_; intro w0 hrg0 hg0 hs0)
  go_frame
  have hrz : B < w2.heap.size := by
    have := HM2.out.lt
    exact this
  have HRG := Lib.hid hrg0
  have HB0 : Hid (Below w.heap.size w w0) := Lib.hid (HB2.out.grown hg0 HB2.out.size (fun j hj => by cases hj))
  have z0 : w2.heap.size < w0.heap.size := by omega
  have e0 := cellG hg0 (show w.heap.size < _ by omega) (fun e => by cases e) d0
  have e1 := cellG hg0 (show w.heap.size < _ by omega) (fun e => by cases e) d1
  clear hrg0 hg0 hs0 HM2 HB2 d0 d1
  generalize w2.heap.size = r at *
  go_loopg [5] (Maps.size (pD l)) (fun g s5 wr => ∃ (left : Lit → Bool) (acc : List Lf4) (A : Option Addr) (cap : Nat), s5 = .slice A acc.length cap ∧ Hid (wr.ranges Try.prog 52 (plainElem Try.prog 2) B r l.length (pD l) left g) ∧ Hid (Gath l (fun y => insX (n, d) y.1) left acc) ∧ Hid (wr.ownsRow (r + 1) 52 4 s5 acc.length (flatP acc)) ∧ Hid (Below w.heap.size w wr) ∧ r < wr.heap.size ∧ wr.cell? ⟨w.heap.size, 0, none⟩ = some (.int .i64 n) ∧ wr.cell? ⟨w.heap.size, 1, none⟩ = some (.int .i64 d))
  case atStart => exact ⟨_, [], none, 0, rfl, HRG, Lib.hid (Gath.start fun y hy => pD_has.2 ⟨y, hy, rfl⟩), Lib.hid own_none, HB0, z0, e0, e1⟩
  case round =>
    clear HRG HB0 z0 e0 e1
    obtain ⟨left, acc, A, cap, rfl, HRG, HG, HO, HB, zr, x0, x1⟩ := hrel
    have hrg := HRG.out
    have hal : acc.length ≤ 2000 := Nat.le_trans HG.out.len hl2
    go_wp2_with (at_next; refine wpList_next_pairs _ rfl _ rfl B r l.length l HOk.out left _ rfl hrg ?_ ?_; intro hl0; rotate_left; intro x c5 w5 cnt5 hx hlx hat hrg5 hlt5 hg5 hs5 hen; have HX5 := Lib.hid (And.intro hx (And.intro hlx (And.intro hrg5 hlt5))); have HO5 := Lib.hid (ownTurn HO.out hg5 (fun j hj => by have := Option.some.inj hj; omega)); have HB5 := Lib.hid (HB.out.grown hg5 HB.out.size (fun j hj => by have := Option.some.inj hj; omega)); have z5 : r < w5.heap.size := (by omega); have y5 : w.heap.size < w5.heap.size := (by omega); have y0 := cellG hg5 (show w.heap.size < _ by omega) (fun e => by have := Option.some.inj e; omega) x0; have y1 := cellG hg5 (show w.heap.size < _ by omega) (fun e => by have := Option.some.inj e; omega) x1; clear hx hlx hat hrg5 hlt5 hg5 hs5 x0 x1; rotate_left)
    · have hpm : acc.Perm K := (HG.out.done hl0 HNd.out).trans HK.out.1.symm
      refine (implSortP w.heap.size A acc.length cap acc wr (ownMono HO.out (by omega)) rfl (HG.out.ok HOk.out) (by omega)).mono ?_
      rintro e w9 ⟨rfl, H⟩
      obtain ⟨l', hp, hs, ho, hb⟩ := H.out
      obtain rfl : l' = K := sort_unique HK.out.2.2.1 HK.out.2.2.2.1 hs HK.out.2.1 (hp.trans hpm)
      have HO9 := Lib.hid ho
      have HB9 := Lib.hid (HB.out.trans hb)
      have hlen := hpm.length_eq
      rw [hlen] at HO9 ⊢
      clear H ho hb hp hs hpm
      go_wp2
      go_ret
      exact ⟨A, cap, rfl, HO9.out, HB9.out⟩
    · refine (HAr.out x HX5.out.1 _).mono ?_
      rintro e w6 ⟨rfl, hb6⟩
      have HT : Hid (insX (n, d) x.1 = arcB n d x.1.1 x.1.2.1 x.1.2.2.1 x.1.2.2.2) := Lib.hid rfl
      have HR6 := Lib.hid ((HX5.out.2.2.1.alloc (.cells #[.int .i64 x.1.1, .int .i64 x.1.2.1, .int .i64 x.1.2.2.1, .int .i64 x.1.2.2.2] 52)).kept (belowG hb6) (by simp) (by simp))
      have HO6 := Lib.hid (ownTurn (World.ownsRow.alloc HO5.out (.cells #[.int .i64 x.1.1, .int .i64 x.1.2.1, .int .i64 x.1.2.2.1, .int .i64 x.1.2.2.2] 52)) (belowG hb6) (fun j e => by cases e))
      have HB6 := Lib.hid (belowNext (belowAlloc HB5.out (.cells #[.int .i64 x.1.1, .int .i64 x.1.2.1, .int .i64 x.1.2.2.1, .int .i64 x.1.2.2.2] 52)) hb6)
      have q0 : w6.cell? ⟨w5.heap.size, 0, none⟩ = some (.int .i64 x.1.1) := cellThru hb6 (by simp) (by simp [go_sem])
      have q1 : w6.cell? ⟨w5.heap.size, 1, none⟩ = some (.int .i64 x.1.2.1) := cellThru hb6 (by simp) (by simp [go_sem])
      have q2 : w6.cell? ⟨w5.heap.size, 2, none⟩ = some (.int .i64 x.1.2.2.1) := cellThru hb6 (by simp) (by simp [go_sem])
      have q3 : w6.cell? ⟨w5.heap.size, 3, none⟩ = some (.int .i64 x.1.2.2.2) := cellThru hb6 (by simp) (by simp [go_sem])
      have f0 : w6.cell? ⟨w.heap.size, 0, none⟩ = some (.int .i64 n) := cellThru hb6 (by simp; omega) (cellThru (belowAlloc (Below.refl _ _) _) y5 y0)
      have f1 : w6.cell? ⟨w.heap.size, 1, none⟩ = some (.int .i64 d) := cellThru hb6 (by simp; omega) (cellThru (belowAlloc (Below.refl _ _) _) y5 y1)
      have z6 : r < w6.heap.size := by have := hb6.size; simp at this; omega
      clear hb6 HO5 HB5 y0 y1
      generalize arcB n d x.1.1 x.1.2.1 x.1.2.2.1 x.1.2.2.2 = t at *
      cases t
      · go_wp2
        go_roundg cnt5
        case measure => exact HX5.out.2.2.2
        case rel => exact ⟨fun z => left z && !z.sameKey (kp x.1), acc, A, cap, rfl, HR6, Lib.hid (HG.out.no HOk.out HX5.out.1 (fun y hy e => by rw [e]; exact HT.out)), HO6, HB6, z6, f0, f1⟩
      · go_wp2_with (at_builtin; refine wpList_append_own_at _ rfl _ _ 47 rfl (r + 1) 52 i0 (.agg #[.int .i64 0, .int .i64 0, .int .i64 0, .int .i64 0]) 4 32 Try.underlying47 hi hz0 hz1 hz2 rfl (by decide) _ _ _ rfl (World.ownsRow.alloc HO6.out _) ⟨w6.heap.size, 0, none⟩ 1 1 [.int .i64 x.1.1, .int .i64 x.1.2.1, .int .i64 x.1.2.2.1, .int .i64 x.1.2.2.2] rfl rfl ?c1 ?c2 ?c3 ?c4 ?c5 ?_)
        case c1 => exact cell_four_newP _ _ _ _ _ _
        case c2 => intro u hu; simp at hu; rcases hu with rfl | rfl | rfl | rfl <;> rfl
        case c3 => unfold maxLen; omega
        case c4 => omega
        case c5 => simp; omega
        intro v' w11 hown' hgrow _ _
        obtain ⟨gn, capn, rfl⟩ := ownsRow_succ hown'
        have hB11 : Below w.heap.size w w11 := (belowAlloc HB6.out _).grown hgrow (belowAlloc HB6.out _).size (fun j hj => by have := own_block HO6.out j hj; omega)
        have HR11 := Lib.hid ((HR6.out.alloc (.cells #[.int .i64 x.1.1, .int .i64 x.1.2.1, .int .i64 x.1.2.2.1, .int .i64 x.1.2.2.2] 52)).kept hgrow (fun e => by have := own_block HO6.out _ e.symm; omega) (fun e => by have := own_block HO6.out _ e.symm; omega))
        have g0 : w11.cell? ⟨w.heap.size, 0, none⟩ = some (.int .i64 n) := cellG hgrow (by simp; omega) (fun e => by have := own_block HO6.out _ e.symm; omega) (cellThru (belowAlloc (Below.refl _ _) _) (by omega) f0)
        have g1 : w11.cell? ⟨w.heap.size, 1, none⟩ = some (.int .i64 d) := cellG hgrow (by simp; omega) (fun e => by have := own_block HO6.out _ e.symm; omega) (cellThru (belowAlloc (Below.refl _ _) _) (by omega) f1)
        have HO11 := Lib.hid hown'
        have z11 : r < w11.heap.size := by have := hgrow.size; simp at this; omega
        have HB11 := Lib.hid hB11
        clear hown' hgrow hB11 HR6 HO6 HB6 f0 f1
        go_wp2
        go_roundg cnt5
        case measure => exact HX5.out.2.2.2
        case rel => exact ⟨fun z => left z && !z.sameKey (kp x.1), acc ++ [x.1], _, _, by rw [List.length_append]; rfl, HR11, Lib.hid (HG.out.yes HOk.out HX5.out.1 HX5.out.2.1 HT.out), Lib.hid (by rw [flatP_app, List.length_append]; exact HO11.out), HB11, z11, g0, g1⟩

/-- A row that turns is another one. -/
theorem ownFar {w w1 : World} {row : Option Nat} {lo : Nat} {e : TypeId} {k : Nat} {v : Value} {n : Nat} {xs : List Value} (h : w.ownsRow lo e k v n xs) (hg : w.grownBy w1 row) (hr : ∀ j, row = some j → v.ownBlock ≠ some j) : w1.ownsRow lo e k v n xs := by
  obtain ⟨hx, h2⟩ := h
  rcases h2 with h3 | ⟨g, cap, cur, e1, hlo, hc, hrest⟩
  · exact ⟨hx, .inl h3⟩
  · have hlt : g < w.heap.size := (Array.getElem?_eq_some_iff.1 hc).1
    exact ⟨hx, .inr ⟨g, cap, cur, e1, hlo, (hg.block g hlt (fun e2 => hr g e2.symm (by rw [e1]; rfl))).trans hc, hrest⟩⟩
theorem own_lt {w : World} {lo : Nat} {e : TypeId} {k : Nat} {v : Value} {n : Nat} {xs : List Value} (h : w.ownsRow lo e k v n xs) : ∀ j, v.ownBlock = some j → j < w.heap.size := by
  intro j e1
  rcases h.2 with ⟨hv, _⟩ | ⟨g0, c0, cur, hv, hlo, hc, _⟩
  · rw [hv] at e1; simp [Value.ownBlock] at e1
  · rw [hv] at e1
    simp [Value.ownBlock] at e1
    subst e1
    exact (Array.getElem?_eq_some_iff.1 hc).1
theorem flatP_one : ∀ (l : List Lf4), ∀ u ∈ flatP l, u.oneCell' = true
  | [], u, h => by simp [flatP] at h
  | p :: l, u, h => by
    simp only [flatP, List.mem_cons] at h
    rcases h with rfl | rfl | rfl | rfl | h
    · rfl
    · rfl
    · rfl
    · rfl
    · exact flatP_one l u h
/-- Cells to be appended, read out of a row that is held. -/
theorem news_of_row {w : World} {lo g n cap : Nat} {e : TypeId} {xs : List Value} (h : w.ownsRow lo e 4 (.slice (some ⟨g, 0, none⟩) n cap) n xs) (o : Nat) (news : List Value) (hn : ∀ i u, news[i]? = some u → xs[o + i]? = some u) :
    ∀ i u, news[i]? = some u → w.cell? ((⟨g, o, none⟩ : Addr).add i) = some u := by
  intro i u hu
  have hadd : (⟨g, o, none⟩ : Addr).add i = ⟨g, o + i, none⟩ := by unfold Addr.add; split <;> simp_all
  have hx := hn i u hu
  have hl := (List.getElem?_eq_some_iff.1 hx).1
  rw [h.1] at hl
  rw [hadd]
  exact (h.cellAt (o + i) hl).trans hx
/-- An append at a step of a region that draws its order; nothing may be appended. -/
theorem step_append_at {P : Program} (w : World) {ops : Array Oper} {o : Oper} {a : Act} {K : Act → World → Prop} {Q : Exit → Act → World → Prop} {E : Prop} (hgd : o.guard = none) (s x : Operand) (t : TypeId)
    (ho : o.op = .call { callee := .builtin .append, args := #[s, x], argTypes := #[t, t] })
    (base : Nat) (e : TypeId) (i : TypeInfo) (z : Value) (size bytes : Nat) (ht : P.underlying t = some (.slice e)) (hi : P.info? e = some i) (hz : i.zero = some z)
    (hsize : i.size = size) (hby : i.bytes = bytes) (hzs : z.cells.size = size) (hsz : 0 < size)
    (v : Value) (n : Nat) (xs : List Value) (hs : a.eval s = v) (hown : w.ownsRow base e size v n xs)
    (ad : Addr) (m c : Nat) (news : List Value) (hx : a.eval x = .slice (some ad) m c) (hl : news.length = m * size) (hnews : ∀ j u, news[j]? = some u → w.cell? (ad.add j) = some u) (h1 : ∀ u ∈ news, u.oneCell' = true)
    (h63 : n + m ≤ maxLen) (hbytes : (n + m) * bytes ≤ 140737488355328) (hbase : base ≤ w.heap.size)
    (h : ∀ v' w', w'.ownsRow base e size v' (n + m) (xs ++ news) → w.grownBy w' v.ownBlock → K (a.put o.dst v') w') :
    if Region.wanted o (yielded ops a.tmps) = true then Oper.wp P o a w K Q else E := by
  obtain ⟨v', w', hr, h2, h3, _, _⟩ := run_append_own_at (P := P) w base t o.type e i z size bytes ht hi hz hsize hby hzs hsz v n xs hown ad m c news hl hnews h1 h63 hbytes hbase
  have hw : Region.wanted o (yielded ops a.tmps) = true := by simp [Region.wanted, hgd]
  rw [if_pos hw]
  unfold Oper.wp execOp
  simp only [ho, resolve, invoke, builtin, Sem.run_bind, Sem.run_pure, Result.andThen_ok, List.map_toArray, List.map_cons, List.map_nil, hs, hx, hr]
  exact h v' w' h2 h3
/-- What the condition of the inner loop tells. -/
def StopRes (w1 : World) (O : List Lf4) (p : Lf4) (j : Nat) (v : Value) (W : World) : Prop := ∃ t : Bool, v = .bool t ∧ Hid ((t = true → ∃ q, O[j]? = some q ∧ lowLt q p = true) ∧ (t = false → lessN O p = j)) ∧ Below w1.heap.size w1 W

set_option maxRecDepth 100000 in
set_option maxHeartbeats 2000000 in
theorem specSorted (n d : Int) (A : Option Addr) (len cap : Nat) (l : List Lf4) (w : World) (ha : angOk n d) (hok : ∀ p ∈ l, okP p = true) (hr : LfRow w w.heap.size A l) (hl : l.length = len) (hm : len ≤ 2000) :
    Calls Try.prog 74 #[ang n d, .slice A len cap] w fun e w' => ∃ A' cap', e = .returned (.slice A' (wkOf (n, d) [] l).length cap') ∧ w'.ownsRow w.heap.size 52 4 (.slice A' (wkOf (n, d) [] l).length cap') (wkOf (n, d) [] l).length (flatP (wkOf (n, d) [] l)) ∧ Below w.heap.size w w' := by
  have HR := Lib.hid hr
  have HL := Lib.hid hl
  have HOk := Lib.hid hok
  have HX := Lib.hid ha
  obtain ⟨i0, hi, hz0, hz1, hz2⟩ := info_parts infoP
  clear hr hl hok ha
  go_enter Try.func74, Try.ntmps74
  go_wp2_with fail
  obtain ⟨wb, hwb⟩ : ∃ wb, w.alloc (.cells #[.int .i64 n, .int .i64 d] 25) = wb := ⟨_, rfl⟩
  have zb : wb.heap.size = w.heap.size + 1 := by rw [← hwb]; simp
  have c0 : (wb.alloc (.cells #[] 52)).cell? ⟨w.heap.size, 0, none⟩ = some (.int .i64 n) := by rw [← hwb]; simp [go_sem]
  have c1 : (wb.alloc (.cells #[] 52)).cell? ⟨w.heap.size, 1, none⟩ = some (.int .i64 d) := by rw [← hwb]; simp [go_sem]
  have HB0 : Hid (Below w.heap.size w (wb.alloc (.cells #[] 52))) := Lib.hid (by rw [← hwb]; exact belowAlloc (belowAlloc (Below.refl _ _) _) _)
  have z0 : w.heap.size < (wb.alloc (.cells #[] 52)).heap.size := by simp; omega
  have HS : Hid ((wb.alloc (.cells #[] 52)).ownsRow (w.heap.size + 1) 52 4 (.slice (some ⟨w.heap.size + 1, 0, none⟩) ([] : List Lf4).length 0) ([] : List Lf4).length (flatP [])) := Lib.hid (by rw [← zb]; exact ⟨rfl, .inr ⟨wb.heap.size, 0, #[], rfl, Nat.le_refl _, heap_alloc_new wb (.cells #[] 52), by simp, by unfold maxLen; omega, rfl, rfl⟩⟩)
  rw [hwb]
  clear hwb
  generalize wb.alloc (.cells #[] 52) = wc at *
  clear zb
  go_loopg [5, 6] len (fun g s5 s6 wr => ∃ (k : Nat) (O : List Lf4) (b c : Nat), k + g = len ∧ s6 = .int .i64 k ∧ s5 = .slice (some ⟨b, 0, none⟩) O.length c ∧ Hid (O = wkOf (n, d) [] (l.take k)) ∧ Hid (wr.ownsRow (w.heap.size + 1) 52 4 s5 O.length (flatP O)) ∧ Hid (Below w.heap.size w wr) ∧ w.heap.size < wr.heap.size ∧ wr.cell? ⟨w.heap.size, 0, none⟩ = some (.int .i64 n) ∧ wr.cell? ⟨w.heap.size, 1, none⟩ = some (.int .i64 d))
  case atStart => exact ⟨0, [], w.heap.size + 1, 0, by omega, rfl, rfl, Lib.hid rfl, HS, HB0, z0, c0, c1⟩
  case round =>
    clear HS HB0 z0 c0 c1
    obtain ⟨k, O, b, c, hkg, rfl, rfl, HO, HW, HB, zr, x0, x1⟩ := hrel
    cases gk with
    | zero =>
      obtain rfl : k = len := by omega
      have e : O = wkOf (n, d) [] l := by rw [HO.out, ← HL.out, List.take_length]
      have HW2 := Lib.hid (ownMono HW.out (Nat.le_succ w.heap.size))
      rw [e] at HW2 ⊢
      clear HO HW e
      go_wp2
      go_ret
      exact ⟨_, _, rfl, HW2.out, HB.out⟩
    | succ g =>
      have hlt : k < len := by omega
      obtain ⟨g0, off, p1, p2, p3, p4, rfl, hq, y0, y1, y2, y3, hg0⟩ := row_pairE HR.out HB.out (k := k) (by have := HL.out; omega)
      have HP := Lib.hid (HOk.out _ (List.mem_of_getElem? hq))
      have HI := Lib.hid (fun w => specIns n d p1 p2 p3 p4 w HX.out (ok_low HP.out) (okP_up HP.out))
      have HNx := Lib.hid (wkOf_next (x := (n, d)) hq)
      have HQ := Lib.hid hq
      have hOl : O.length ≤ k := by rw [HO.out]; exact Nat.le_trans (wkOf_len _ _) (by rw [List.length_take]; omega)
      have HOkO : Hid (∀ q ∈ O, okP q = true) := Lib.hid (fun q hq => by rw [HO.out] at hq; exact HOk.out q (List.mem_of_mem_take (wkOf_mem hq)))
      obtain ⟨t, ht⟩ : ∃ t, arcB n d p1 p2 p3 p4 = t := ⟨_, rfl⟩
      rw [ht] at HI
      have HT : Hid (insX (n, d) (p1, p2, p3, p4) = t) := Lib.hid ht
      clear hq ht
      go_wp2_with fail
      go_still_tail 5, (by kernel_rfl)
      change wpList _ _ _ _ _ wr.drew
      have BD : Below w.heap.size w wr.drew := HB.out.drew
      have x0' : wr.drew.cell? ⟨w.heap.size, 0, none⟩ = some (.int .i64 n) := x0
      have x1' : wr.drew.cell? ⟨w.heap.size, 1, none⟩ = some (.int .i64 d) := x1
      have hg0' : g0 < wr.drew.heap.size := hg0
      have zr' : w.heap.size < wr.drew.heap.size := zr
      have HWD : Hid (wr.drew.ownsRow (w.heap.size + 1) 52 4 (.slice (some ⟨b, 0, none⟩) O.length c) O.length (flatP O)) := HW
      have yy : wr.drew.cell? ⟨g0, off + k * 4, none⟩ = some (.int .i64 p1) ∧ wr.drew.cell? ⟨g0, off + k * 4 + 1, none⟩ = some (.int .i64 p2) ∧ wr.drew.cell? ⟨g0, off + k * 4 + 2, none⟩ = some (.int .i64 p3) ∧ wr.drew.cell? ⟨g0, off + k * 4 + 3, none⟩ = some (.int .i64 p4) := ⟨y0, y1, y2, y3⟩
      have HY := Lib.hid yy
      clear x0 x1 y0 y1 y2 y3 yy hg0 zr HB HW
      generalize wr.drew = wd at *
      go_wp2_with fail
      refine (HI.out _).mono ?_
      rintro e w1 ⟨rfl, hb1⟩
      have f0 := cellThru hb1 zr' x0'
      have f1 := cellThru hb1 zr' x1'
      obtain ⟨v0, v1, v2, v3⟩ := HY.out
      have y0 := cellThru hb1 hg0' v0
      have y1 := cellThru hb1 hg0' v1
      have y2 := cellThru hb1 hg0' v2
      have y3 := cellThru hb1 hg0' v3
      have B1 := Lib.hid (belowNext BD hb1)
      have HW1 := Lib.hid (ownTurn HWD.out (belowG hb1) (fun j e => by cases e))
      have z1 : w.heap.size < w1.heap.size := Nat.lt_of_lt_of_le zr' hb1.size
      have hg1 : g0 < w1.heap.size := Nat.lt_of_lt_of_le hg0' hb1.size
      clear hb1 v0 v1 v2 v3 HY x0' x1' BD HWD zr' hg0'
      cases t
      · have E := HNx.out
        rw [HT.out] at E
        go_wp2
        go_roundg g
        case measure => omega
        case rel => exact ⟨k + 1, O, b, c, by omega, by go_num, rfl, Lib.hid (HO.out.trans E.symm), HW1, B1, z1, f0, f1⟩
      · have E := HNx.out
        rw [HT.out] at E
        have HE : Hid (insP O (p1, p2, p3, p4) = wkOf (n, d) [] (l.take (k + 1))) := Lib.hid (by rw [HO.out]; exact E.symm)
        clear E HT HNx
        have hOm : O.length ≤ 2000 := by omega
        have hbw : b < w1.heap.size := own_lt HW1.out b rfl
        go_wp2_with fail
        go_loopg [7] O.length (fun g2 s7 wx => ∃ j : Nat, j + g2 = O.length ∧ s7 = .int .i64 j ∧ Hid (∀ i, i < j → ∀ q, O[i]? = some q → lowLt q (p1, p2, p3, p4) = true) ∧ Hid (Below w1.heap.size w1 wx))
        case atStart => exact ⟨0, by omega, rfl, Lib.hid (fun i h => absurd h (by omega)), Lib.hid (Below.refl _ _)⟩
        case round =>
          obtain ⟨j, hjg, rfl, HJ, BX⟩ := hrel
          have a0 := cellThru BX.out hg1 y0
          have a1 := cellThru BX.out hg1 y1
          have hg2 : g0 < wr.heap.size := Nat.lt_of_lt_of_le hg1 BX.out.size
          have hb2 : b < wr.heap.size := Nat.lt_of_lt_of_le hbw BX.out.size
          go_upto_region 7 with fail
          go_cut [39] (fun s39 wy => StopRes w1 O (p1, p2, p3, p4) j s39 wy)
          case first =>
            cases gk with
            | zero =>
              have HST : Hid (lessN O (p1, p2, p3, p4) = j) := Lib.hid (by
                obtain rfl : j = O.length := by omega
                exact lessN_end HJ.out)
              have hn : ¬ ((j : Int) < (O.length : Int)) := by omega
              have hn2 : ((j : Int) < (O.length : Int)) = False := by simp; omega
              have hn3 : ¬ (j < O.length) := by omega
              clear hjg
              refine wp_region_any (by kernel_rfl) ?_
              try (change wpAny _ _ _ _ _ _ _ (World.drew _))
              refine wpAny_take (i := 0) (v := ?_) rfl (by kernel_rfl) (by kernel_rfl) (by kernel_rfl) (fun _ _ _ h => h) (Or.inl ⟨by kernel_rfl, ?_⟩) ?_
              rotate_left
              · intro w; first | (go_simp; done) | (go_simp; with_reducible rfl)
              refine wpAny_take (i := 1) (v := ?_) rfl (by kernel_rfl) (by kernel_rfl) (by kernel_rfl) (fun _ _ _ h => h) (Or.inl ⟨by kernel_rfl, ?_⟩) ?_
              rotate_left
              · intro w; first | (go_simp; done) | (go_simp; with_reducible rfl)
              refine wpAny_take (i := 2) (v := ?_) rfl (by kernel_rfl) (by kernel_rfl) (by kernel_rfl) (fun _ _ _ h => h) (Or.inl ⟨by kernel_rfl, ?_⟩) ?_
              rotate_left
              · intro w; first | (go_simp; done) | (go_simp; with_reducible rfl)
              refine wpAny_take (i := 3) (v := ?_) rfl (by kernel_rfl) (by kernel_rfl) (by kernel_rfl) (fun _ _ _ h => h) (Or.inl ⟨by kernel_rfl, ?_⟩) ?_
              rotate_left
              · intro w; first | (go_simp; done) | (go_simp; with_reducible rfl)
              refine wpAny_take (i := 4) (v := ?_) rfl (by kernel_rfl) (by kernel_rfl) (by kernel_rfl) (fun _ _ _ h => h) (Or.inl ⟨by kernel_rfl, ?_⟩) ?_
              rotate_left
              · intro w; first | (go_simp; done) | (go_simp; with_reducible rfl)
              refine wpAny_take (i := 5) (v := undef) rfl (by kernel_rfl) (by kernel_rfl) (by kernel_rfl) (fun _ _ _ h => h) (Or.inr ⟨by kernel_rfl, rfl⟩) ?_
              go_simp
              refine wpAny_take (i := 6) (v := undef) rfl (by kernel_rfl) (by kernel_rfl) (by kernel_rfl) (fun _ _ _ h => h) (Or.inr ⟨by kernel_rfl, rfl⟩) ?_
              go_simp
              refine wpAny_take (i := 7) (v := undef) rfl (by kernel_rfl) (by kernel_rfl) (by kernel_rfl) (fun _ _ _ h => h) (Or.inr ⟨by kernel_rfl, rfl⟩) ?_
              go_simp
              refine wpAny_take (i := 8) (v := undef) rfl (by kernel_rfl) (by kernel_rfl) (by kernel_rfl) (fun _ _ _ h => h) (Or.inr ⟨by kernel_rfl, rfl⟩) ?_
              go_simp
              refine wpAny_take (i := 9) (v := undef) rfl (by kernel_rfl) (by kernel_rfl) (by kernel_rfl) (fun _ _ _ h => h) (Or.inr ⟨by kernel_rfl, rfl⟩) ?_
              go_simp
              refine wpAny_take (i := 10) (v := undef) rfl (by kernel_rfl) (by kernel_rfl) (by kernel_rfl) (fun _ _ _ h => h) (Or.inr ⟨by kernel_rfl, rfl⟩) ?_
              go_simp
              refine wpAny_take (i := 11) (v := undef) rfl (by kernel_rfl) (by kernel_rfl) (by kernel_rfl) (fun _ _ _ h => h) (Or.inr ⟨by kernel_rfl, rfl⟩) ?_
              go_simp
              refine wpAny_take (i := 12) (v := undef) rfl (by kernel_rfl) (by kernel_rfl) (by kernel_rfl) (fun _ _ _ h => h) (Or.inr ⟨by kernel_rfl, rfl⟩) ?_
              go_simp
              refine wpAny_take (i := 13) (v := undef) rfl (by kernel_rfl) (by kernel_rfl) (by kernel_rfl) (fun _ _ _ h => h) (Or.inr ⟨by kernel_rfl, rfl⟩) ?_
              go_simp
              refine wpAny_take (i := 14) (v := undef) rfl (by kernel_rfl) (by kernel_rfl) (by kernel_rfl) (fun _ _ _ h => h) (Or.inr ⟨by kernel_rfl, rfl⟩) ?_
              go_simp
              refine wpAny_take (i := 15) (v := undef) rfl (by kernel_rfl) (by kernel_rfl) (by kernel_rfl) (fun _ _ _ h => h) (Or.inr ⟨by kernel_rfl, rfl⟩) ?_
              go_simp
              refine wpAny_take (i := 16) (v := ?_) rfl (by kernel_rfl) (by kernel_rfl) (by kernel_rfl) (fun _ _ _ h => h) (Or.inl ⟨by kernel_rfl, ?_⟩) ?_
              rotate_left
              · intro w; first | (go_simp; done) | (go_simp; with_reducible rfl)
              refine wpAny_done (by kernel_rfl) ?_ _
              have B1 : Below w1.heap.size w1 wr.drew := BX.out.drew
              go_wp2_with fail
              go_meet
              exact ⟨false, rfl, Lib.hid ⟨fun h => (by cases h), fun _ => HST.out⟩, B1⟩
            | succ g2 =>
              have hjl : j < O.length := by omega
              obtain ⟨⟨q1, q2, q3, q4⟩, hq⟩ : ∃ q, O[j]? = some q := ⟨_, List.getElem?_eq_getElem hjl⟩
              obtain ⟨r0, r1, _, _⟩ := flatP_at hq
              have o0 := cellThru BX.out hbw ((HW1.out.cellAt (j * 4) (by omega)).trans r0)
              have o1 := cellThru BX.out hbw ((HW1.out.cellAt (j * 4 + 1) (by omega)).trans r1)
              have HLe := Lib.hid (fun w => specLess q1 q2 p1 p2 w (ok_low (HOkO.out _ (List.mem_of_getElem? hq))) (ok_low HP.out))
              obtain ⟨t, ht⟩ : ∃ t, ltA q1 q2 p1 p2 = t := ⟨_, rfl⟩
              rw [ht] at HLe
              have HT1 : Hid (t = true → ∃ q, O[j]? = some q ∧ lowLt q (p1, p2, p3, p4) = true) := Lib.hid (fun h => ⟨_, hq, ht.trans h⟩)
              have HT0 : Hid (t = false → lessN O (p1, p2, p3, p4) = j) := Lib.hid (fun h => lessN_stop hjl HJ.out hq (ht.trans h))
              clear hq ht r0 r1
              refine wp_region_any (by kernel_rfl) ?_
              try (change wpAny _ _ _ _ _ _ _ (World.drew _))
              refine wpAny_take (i := 0) (v := ?_) rfl (by kernel_rfl) (by kernel_rfl) (by kernel_rfl) (fun _ _ _ h => h) (Or.inl ⟨by kernel_rfl, ?_⟩) ?_
              rotate_left
              · intro w; first | (go_simp; done) | (go_simp; with_reducible rfl)
              refine wpAny_take (i := 1) (v := ?_) rfl (by kernel_rfl) (by kernel_rfl) (by kernel_rfl) (fun _ _ _ h => h) (Or.inl ⟨by kernel_rfl, ?_⟩) ?_
              rotate_left
              · intro w; first | (go_simp; done) | (go_simp; with_reducible rfl)
              refine wpAny_take (i := 2) (v := ?_) rfl (by kernel_rfl) (by kernel_rfl) (by kernel_rfl) (fun _ _ _ h => h) (Or.inl ⟨by kernel_rfl, ?_⟩) ?_
              rotate_left
              · intro w; first | (go_simp; done) | (go_simp; with_reducible rfl)
              refine wpAny_take (i := 3) (v := ?_) rfl (by kernel_rfl) (by kernel_rfl) (by kernel_rfl) (fun _ _ _ h => h) (Or.inl ⟨by kernel_rfl, ?_⟩) ?_
              rotate_left
              · intro w; first | (go_simp; done) | (go_simp; with_reducible rfl)
              refine wpAny_take (i := 4) (v := ?_) rfl (by kernel_rfl) (by kernel_rfl) (by kernel_rfl) (fun _ _ _ h => h) (Or.inl ⟨by kernel_rfl, ?_⟩) ?_
              rotate_left
              · intro w; first | (go_simp; done) | (go_simp; with_reducible rfl)
              refine wpAny_take (i := 5) (v := ?_) rfl (by kernel_rfl) (by kernel_rfl) (by kernel_rfl) (fun _ _ _ h => h) (Or.inl ⟨by kernel_rfl, ?_⟩) ?_
              rotate_left
              · intro w; first | (go_simp; done) | (go_simp; with_reducible rfl)
              refine wpAny_take (i := 6) (v := ?_) rfl (by kernel_rfl) (by kernel_rfl) (by kernel_rfl) (fun _ _ _ h => h) (Or.inl ⟨by kernel_rfl, ?_⟩) ?_
              rotate_left
              · intro w; first | (go_simp; done) | (go_simp; with_reducible rfl)
              refine wpAny_take (i := 7) (v := ?_) rfl (by kernel_rfl) (by kernel_rfl) (by kernel_rfl) (fun _ _ _ h => h) (Or.inl ⟨by kernel_rfl, ?_⟩) ?_
              rotate_left
              · intro w; first | (go_simp; done) | (go_simp; with_reducible rfl)
              refine wpAny_take (i := 8) (v := ?_) rfl (by kernel_rfl) (by kernel_rfl) (by kernel_rfl) (fun _ _ _ h => h) (Or.inl ⟨by kernel_rfl, ?_⟩) ?_
              rotate_left
              · intro w; first | (go_simp; done) | (go_simp; with_reducible rfl)
              refine wpAny_take (i := 10) (v := ?_) rfl (by kernel_rfl) (by kernel_rfl) (by kernel_rfl) (fun _ _ _ h => h) (Or.inl ⟨by kernel_rfl, ?_⟩) ?_
              rotate_left
              · intro w; first | (go_simp; done) | (go_simp; with_reducible rfl)
              refine wpAny_take (i := 11) (v := ?_) rfl (by kernel_rfl) (by kernel_rfl) (by kernel_rfl) (fun _ _ _ h => h) (Or.inl ⟨by kernel_rfl, ?_⟩) ?_
              rotate_left
              · intro w; first | (go_simp; done) | (go_simp; with_reducible rfl)
              refine wpAny_take (i := 12) (v := ?_) rfl (by kernel_rfl) (by kernel_rfl) (by kernel_rfl) (fun _ _ _ h => h) (Or.inl ⟨by kernel_rfl, ?_⟩) ?_
              rotate_left
              · intro w; first | (go_simp; done) | (go_simp; with_reducible rfl)
              refine wpAny_take (i := 13) (v := ?_) rfl (by kernel_rfl) (by kernel_rfl) (by kernel_rfl) (fun _ _ _ h => h) (Or.inl ⟨by kernel_rfl, ?_⟩) ?_
              rotate_left
              · intro w; first | (go_simp; done) | (go_simp; with_reducible rfl)
              refine wpAny_ready (rs := [9, 14]) (by kernel_rfl) (by simp) ?_
              refine AllReady.cons rfl (fun K hK => ?_) (AllReady.cons rfl (fun K hK => ?_) AllReady.nil)
              · go_simp
                refine hK _ _ ?_
                clear hK K
                refine wpAny_ready (rs := [14]) (by kernel_rfl) (by simp) ?_
                refine AllReady.cons rfl (fun K hK => ?_) AllReady.nil
                go_simp
                refine hK _ _ ?_
                clear hK K
                refine wpAny_ready (rs := [15]) (by kernel_rfl) (by simp) ?_
                refine AllReady.cons rfl (fun K hK => ?_) AllReady.nil
                go_simp
                go_wp2_with (go_at_call 88; (with_reducible refine (HLe.out _).mono ?_); rintro e w2 ⟨rfl, hb2⟩)
                refine wpAny_take (i := 16) (v := ?_) rfl (by kernel_rfl) (by kernel_rfl) (by kernel_rfl) (fun _ _ _ h => h) (Or.inl ⟨by kernel_rfl, ?_⟩) ?_
                rotate_left
                · intro w; first | (go_simp; done) | (go_simp; with_reducible rfl)
                refine wpAny_done (by kernel_rfl) ?_ _
                have B1 : Below w1.heap.size w1 w2 := belowNext BX.out.drew hb2
                go_wp2_with fail
                go_meet
                exact ⟨t, rfl, Lib.hid ⟨fun h => HT1.out h, fun h => HT0.out h⟩, B1⟩
              · go_simp
                refine hK _ _ ?_
                clear hK K
                refine wpAny_ready (rs := [9]) (by kernel_rfl) (by simp) ?_
                refine AllReady.cons rfl (fun K hK => ?_) AllReady.nil
                go_simp
                refine hK _ _ ?_
                clear hK K
                refine wpAny_ready (rs := [15]) (by kernel_rfl) (by simp) ?_
                refine AllReady.cons rfl (fun K hK => ?_) AllReady.nil
                go_simp
                go_wp2_with (go_at_call 88; (with_reducible refine (HLe.out _).mono ?_); rintro e w2 ⟨rfl, hb2⟩)
                refine wpAny_take (i := 16) (v := ?_) rfl (by kernel_rfl) (by kernel_rfl) (by kernel_rfl) (fun _ _ _ h => h) (Or.inl ⟨by kernel_rfl, ?_⟩) ?_
                rotate_left
                · intro w; first | (go_simp; done) | (go_simp; with_reducible rfl)
                refine wpAny_done (by kernel_rfl) ?_ _
                have B1 : Below w1.heap.size w1 w2 := belowNext BX.out.drew hb2
                go_wp2_with fail
                go_meet
                exact ⟨t, rfl, Lib.hid ⟨fun h => HT1.out h, fun h => HT0.out h⟩, B1⟩
          case rest =>
            obtain ⟨t, ht, HQ, B2⟩ := hcut
            subst ht
            cases t
            · have hL := HQ.out.2 rfl
              have HB2 := Lib.hid B2
              have hjO : j ≤ O.length := by omega
              have hcO : O.length ≤ c := ownsCap HW1.out
              have s0 := cellThru HB2.out hg1 y0
              have s1 := cellThru HB2.out hg1 y1
              have s2 := cellThru HB2.out hg1 y2
              have s3 := cellThru HB2.out hg1 y3
              have e0 := cellThru HB2.out z1 f0
              have e1 := cellThru HB2.out z1 f1
              have HWc : Hid (wc.ownsRow (w.heap.size + 1) 52 4 (.slice (some ⟨b, 0, none⟩) O.length c) O.length (flatP O)) := Lib.hid (ownTurn HW1.out (belowG HB2.out) (fun j e => by cases e))
              have HBc := Lib.hid (B1.out.trans (HB2.out.mono B1.out.size))
              have zc : w.heap.size < wc.heap.size := Nat.lt_of_lt_of_le z1 HB2.out.size
              have hbc : b < wc.heap.size := Nat.lt_of_lt_of_le hbw HB2.out.size
              have hgc : g0 < wc.heap.size := Nat.lt_of_lt_of_le hg1 HB2.out.size
              have HLs := Lib.hid hL
              clear HQ B2 a0 a1 hg2 hb2 hL BX HJ HB2 B1 HW1 z1 hbw hg1 y0 y1 y2 y3 f0 f1
              by_cases hcj : c = j
              · have hm0 : O.length = j := by omega
                have hd : O.drop j = [] := by rw [← hm0]; exact List.drop_length
                go_wp2_with fail
                refine wp_region_any (by kernel_rfl) ?_
                try (change wpAny _ _ _ _ _ _ _ (World.drew _))
                refine wpAny_take (i := 0) (v := ?_) rfl (by kernel_rfl) (by kernel_rfl) (by kernel_rfl) (fun _ _ _ h => h) (Or.inl ⟨by kernel_rfl, ?_⟩) ?_
                rotate_left
                · intro w; first | (go_simp; done) | (go_simp; with_reducible rfl)
                refine wpAny_take (i := 1) (v := ?_) rfl (by kernel_rfl) (by kernel_rfl) (by kernel_rfl) (fun _ _ _ h => h) (Or.inl ⟨by kernel_rfl, ?_⟩) ?_
                rotate_left
                · intro w; first | (go_simp; done) | (go_simp; with_reducible rfl)
                refine wpAny_take (i := 2) (v := ?_) rfl (by kernel_rfl) (by kernel_rfl) (by kernel_rfl) (fun _ _ _ h => h) (Or.inl ⟨by kernel_rfl, ?_⟩) ?_
                rotate_left
                · intro w; first | (go_simp; done) | (go_simp; with_reducible rfl)
                refine wpAny_take (i := 5) (v := ?_) rfl (by kernel_rfl) (by kernel_rfl) (by kernel_rfl) (fun _ _ _ h => h) (Or.inl ⟨by kernel_rfl, ?_⟩) ?_
                rotate_left
                · intro w; first | (go_simp; done) | (go_simp; with_reducible rfl)
                refine wpAny_take (i := 6) (v := ?_) rfl (by kernel_rfl) (by kernel_rfl) (by kernel_rfl) (fun _ _ _ h => h) (Or.inl ⟨by kernel_rfl, ?_⟩) ?_
                rotate_left
                · intro w; first | (go_simp; done) | (go_simp; with_reducible rfl)
                refine wpAny_take (i := 7) (v := ?_) rfl (by kernel_rfl) (by kernel_rfl) (by kernel_rfl) (fun _ _ _ h => h) (Or.inl ⟨by kernel_rfl, ?_⟩) ?_
                rotate_left
                · intro w; first | (go_simp; done) | (go_simp; with_reducible rfl)
                refine wpAny_ready (rs := [3]) (by kernel_rfl) (by simp) ?_
                refine AllReady.cons rfl (fun K hK => ?_) AllReady.nil
                go_simp
                refine hK _ _ ?_
                clear hK K
                refine wpAny_ready (rs := [4]) (by kernel_rfl) (by simp) ?_
                refine AllReady.cons rfl (fun K hK => ?_) AllReady.nil
                go_simp
                refine hK _ _ ?_
                clear hK K
                refine wpAny_ready (rs := [8]) (by kernel_rfl) (by simp) ?_
                refine AllReady.cons rfl (fun K hK => ?_) AllReady.nil
                refine step_append_at _ rfl (.tmp 46) (.tmp 49) 47 rfl wc.heap.size 52 i0 (.agg #[.int .i64 0, .int .i64 0, .int .i64 0, .int .i64 0]) 4 32 Try.underlying47 hi hz0 hz1 hz2 rfl (by decide) (.slice (some ⟨wc.heap.size, 0, none⟩) 1 1) 1 [.int .i64 p1, .int .i64 p2, .int .i64 p3, .int .i64 p4] rfl ⟨rfl, .inr ⟨wc.heap.size, 1, #[.int .i64 p1, .int .i64 p2, .int .i64 p3, .int .i64 p4], rfl, Nat.le_refl _, heap_alloc_new wc (.cells #[.int .i64 p1, .int .i64 p2, .int .i64 p3, .int .i64 p4] 52), by omega, by unfold maxLen; omega, rfl, rfl⟩⟩ _ _ _ (flatP (O.drop j)) rfl ?r1 ?r2 ?r3 ?r4 ?r5 ?r6 ?_
                case r1 => have e := flatP_len (O.drop j); rw [List.length_drop] at e; omega
                case r2 => rw [hd]; intro i u hu; simp [flatP] at hu
                case r3 => exact flatP_one _
                case r4 => unfold maxLen; omega
                case r5 => omega
                case r6 => simp
                intro v9 w9 hown9 hgrow9
                refine hK _ _ ?_
                clear hK K
                refine wpAny_take (i := 9) (v := ?_) rfl (by kernel_rfl) (by kernel_rfl) (by kernel_rfl) (fun _ _ _ h => h) (Or.inl ⟨by kernel_rfl, ?_⟩) ?_
                rotate_left
                · intro w; first | (go_simp; done) | (go_simp; with_reducible rfl)
                refine wpAny_done (by kernel_rfl) ?_ _
                have hown9' : w9.ownsRow wc.heap.size 52 4 v9 (O.length - j + 1) (flatP ((p1, p2, p3, p4) :: O.drop j)) := by
                  have e0 : O.length - j + 1 = 1 + (O.length - j) := by omega
                  rw [e0]
                  rw [show O.length - j = 0 by omega]
                  exact hown9
                obtain ⟨gr, cr, rfl⟩ := ownsRow_succ hown9'
                have hgr : wc.heap.size ≤ gr := own_block hown9' gr rfl
                have hgl : gr < w9.heap.size := own_lt hown9' gr rfl
                have HR9 := Lib.hid hown9'
                have hs9 : wc.heap.size < w9.heap.size := by have := hgrow9.size; simp at this; omega
                have HW9 : Hid (w9.ownsRow (w.heap.size + 1) 52 4 (.slice (some ⟨b, 0, none⟩) O.length c) O.length (flatP O)) := Lib.hid (ownFar (show World.ownsRow ((wc.alloc (.cells #[.int .i64 p1, .int .i64 p2, .int .i64 p3, .int .i64 p4] 52)).drew) (w.heap.size + 1) 52 4 (.slice (some ⟨b, 0, none⟩) O.length c) O.length (flatP O) from World.ownsRow.alloc HWc.out _) hgrow9 (fun j e => by simp [Value.ownBlock] at e ⊢; omega))
                have HB9 : Hid (Below w.heap.size w w9) := Lib.hid ((belowAlloc HBc.out (.cells #[.int .i64 p1, .int .i64 p2, .int .i64 p3, .int .i64 p4] 52)).drew.grown hgrow9 (by simp; omega) (fun j e => by simp [Value.ownBlock] at e; omega))
                have h0 := cellG hgrow9 (show w.heap.size < (wc.alloc (.cells #[.int .i64 p1, .int .i64 p2, .int .i64 p3, .int .i64 p4] 52)).drew.heap.size by simp; omega) (fun e => by simp [Value.ownBlock] at e; omega) (cellThru (w1 := (wc.alloc (.cells #[.int .i64 p1, .int .i64 p2, .int .i64 p3, .int .i64 p4] 52)).drew) (belowAlloc (Below.refl _ _) _).drew zc e0)
                have h1 := cellG hgrow9 (show w.heap.size < (wc.alloc (.cells #[.int .i64 p1, .int .i64 p2, .int .i64 p3, .int .i64 p4] 52)).drew.heap.size by simp; omega) (fun e => by simp [Value.ownBlock] at e; omega) (cellThru (w1 := (wc.alloc (.cells #[.int .i64 p1, .int .i64 p2, .int .i64 p3, .int .i64 p4] 52)).drew) (belowAlloc (Below.refl _ _) _).drew zc e1)
                have hcO2 : j ≤ c := by omega
                clear hown9 hown9' hgrow9 s0 s1 s2 s3 e0 e1 HWc HBc hgc
                go_wp2_with (at_builtin; refine wpList_append_own_at _ rfl _ _ 47 rfl wc.heap.size 52 i0 (.agg #[.int .i64 0, .int .i64 0, .int .i64 0, .int .i64 0]) 4 32 Try.underlying47 hi hz0 hz1 hz2 rfl (by decide) (.slice (some ⟨w9.heap.size, 0, none⟩) 0 0) 0 [] rfl ⟨rfl, .inr ⟨w9.heap.size, 0, #[], rfl, Nat.le_of_lt hs9, heap_alloc_new w9 (.cells #[] 52), by omega, by unfold maxLen; omega, rfl, rfl⟩⟩ ⟨b, 0, none⟩ j _ (flatP (O.take j)) rfl ?r1 ?r2 ?r3 ?r4 ?r5 ?r6 ?_)
                case r1 => have e := flatP_len (O.take j); rw [List.length_take] at e; omega
                case r2 => exact news_of_row (World.ownsRow.alloc HW9.out _) 0 _ (fun i u hu => by rw [flatP_take] at hu; rw [Nat.zero_add]; rw [List.getElem?_take] at hu; split at hu; exact hu; cases hu)
                case r3 => exact flatP_one _
                case r4 => unfold maxLen; omega
                case r5 => omega
                case r6 => simp; omega
                intro v10 w10 hown10 hgrow10 _ _
                have HR10 : Hid (w10.ownsRow wc.heap.size 52 4 (.slice (some ⟨gr, 0, none⟩) (O.length - j + 1) cr) (O.length - j + 1) (flatP ((p1, p2, p3, p4) :: O.drop j))) := Lib.hid (ownFar (World.ownsRow.alloc HR9.out (.cells #[] 52)) hgrow10 (fun j e => by simp [Value.ownBlock] at e ⊢; omega))
                have HB10 : Hid (Below w.heap.size w w10) := Lib.hid ((belowAlloc HB9.out (.cells #[] 52)).grown hgrow10 (by simp; omega) (fun j e => by simp [Value.ownBlock] at e; omega))
                have k0 := cellG hgrow10 (show w.heap.size < (w9.alloc (.cells #[] 52)).heap.size by simp; omega) (fun e => by simp [Value.ownBlock] at e; omega) (cellThru (belowAlloc (Below.refl _ _) _) (by omega) h0)
                have k1 := cellG hgrow10 (show w.heap.size < (w9.alloc (.cells #[] 52)).heap.size by simp; omega) (fun e => by simp [Value.ownBlock] at e; omega) (cellThru (belowAlloc (Below.refl _ _) _) (by omega) h1)
                have hs10 : wc.heap.size < w10.heap.size := by have := hgrow10.size; simp at this; omega
                have HO10 := Lib.hid hown10
                clear hown10 hgrow10 HR9 HW9 HB9 h0 h1
                go_wp2_with (at_builtin; refine wpList_append_own_at _ rfl _ _ 47 rfl wc.heap.size 52 i0 (.agg #[.int .i64 0, .int .i64 0, .int .i64 0, .int .i64 0]) 4 32 Try.underlying47 hi hz0 hz1 hz2 rfl (by decide) v10 j (flatP (O.take j)) rfl HO10.out ⟨gr, 0, none⟩ _ _ (flatP ((p1, p2, p3, p4) :: O.drop j)) rfl ?r1 ?r2 ?r3 ?r4 ?r5 ?r6 ?_)
                case r1 => have e := flatP_len ((p1, p2, p3, p4) :: O.drop j); rw [List.length_cons, List.length_drop] at e; omega
                case r2 => exact news_of_row HR10.out 0 _ (fun i u hu => by rw [Nat.zero_add]; exact hu)
                case r3 => exact flatP_one _
                case r4 => unfold maxLen; omega
                case r5 => omega
                case r6 => omega
                intro v11 w11 hown11 hgrow11 _ _
                have hown11' : w11.ownsRow wc.heap.size 52 4 v11 (O.length + 1) (flatP (insP O (p1, p2, p3, p4))) := by
                  have e1 : j + (O.length - j + 1) = O.length + 1 := by omega
                  have e2 : flatP (O.take j) ++ flatP ((p1, p2, p3, p4) :: O.drop j) = flatP (insP O (p1, p2, p3, p4)) := by unfold insP; rw [HLs.out, flatP_app]
                  rw [hd] at e2
                  rw [show O.length + 1 = j + 1 by omega, ← e2]
                  exact hown11
                obtain ⟨gn, cn, rfl⟩ := ownsRow_succ hown11'
                have HB11 : Hid (Below w.heap.size w w11) := Lib.hid (HB10.out.grown hgrow11 (by omega) (fun j e => by have := own_block HO10.out j e; omega))
                have l0 := cellG hgrow11 (show w.heap.size < w10.heap.size by omega) (fun e => by have := own_block HO10.out _ e.symm; omega) k0
                have l1 := cellG hgrow11 (show w.heap.size < w10.heap.size by omega) (fun e => by have := own_block HO10.out _ e.symm; omega) k1
                have z11 : w.heap.size < w11.heap.size := by have := hgrow11.size; omega
                have HW11 : Hid (w11.ownsRow (w.heap.size + 1) 52 4 (.slice (some ⟨gn, 0, none⟩) (O.length + 1) cn) (insP O (p1, p2, p3, p4)).length (flatP (insP O (p1, p2, p3, p4)))) := Lib.hid (by rw [insP_len]; exact ownMono hown11' (by omega))
                clear hown11 hown11' hgrow11 HO10 HR10 HB10 k0 k1
                go_wp2
                go_roundg g
                case measure => omega
                case rel => exact ⟨k + 1, insP O (p1, p2, p3, p4), gn, cn, by omega, by go_num, by rw [insP_len], HE, HW11, HB11, z11, l0, l1⟩
              · go_wp2_with fail
                refine wp_region_any (by kernel_rfl) ?_
                try (change wpAny _ _ _ _ _ _ _ (World.drew _))
                refine wpAny_take (i := 0) (v := ?_) rfl (by kernel_rfl) (by kernel_rfl) (by kernel_rfl) (fun _ _ _ h => h) (Or.inl ⟨by kernel_rfl, ?_⟩) ?_
                rotate_left
                · intro w; first | (go_simp; done) | (go_simp; with_reducible rfl)
                refine wpAny_take (i := 1) (v := ?_) rfl (by kernel_rfl) (by kernel_rfl) (by kernel_rfl) (fun _ _ _ h => h) (Or.inl ⟨by kernel_rfl, ?_⟩) ?_
                rotate_left
                · intro w; first | (go_simp; done) | (go_simp; with_reducible rfl)
                refine wpAny_take (i := 2) (v := ?_) rfl (by kernel_rfl) (by kernel_rfl) (by kernel_rfl) (fun _ _ _ h => h) (Or.inl ⟨by kernel_rfl, ?_⟩) ?_
                rotate_left
                · intro w; first | (go_simp; done) | (go_simp; with_reducible rfl)
                refine wpAny_take (i := 5) (v := ?_) rfl (by kernel_rfl) (by kernel_rfl) (by kernel_rfl) (fun _ _ _ h => h) (Or.inl ⟨by kernel_rfl, ?_⟩) ?_
                rotate_left
                · intro w; first | (go_simp; done) | (go_simp; with_reducible rfl)
                refine wpAny_take (i := 6) (v := ?_) rfl (by kernel_rfl) (by kernel_rfl) (by kernel_rfl) (fun _ _ _ h => h) (Or.inl ⟨by kernel_rfl, ?_⟩) ?_
                rotate_left
                · intro w; first | (go_simp; done) | (go_simp; with_reducible rfl)
                refine wpAny_take (i := 7) (v := ?_) rfl (by kernel_rfl) (by kernel_rfl) (by kernel_rfl) (fun _ _ _ h => h) (Or.inl ⟨by kernel_rfl, ?_⟩) ?_
                rotate_left
                · intro w; first | (go_simp; done) | (go_simp; with_reducible rfl)
                refine wpAny_ready (rs := [3]) (by kernel_rfl) (by simp) ?_
                refine AllReady.cons rfl (fun K hK => ?_) AllReady.nil
                go_simp
                refine hK _ _ ?_
                clear hK K
                refine wpAny_ready (rs := [4]) (by kernel_rfl) (by simp) ?_
                refine AllReady.cons rfl (fun K hK => ?_) AllReady.nil
                go_simp
                refine hK _ _ ?_
                clear hK K
                refine wpAny_ready (rs := [8]) (by kernel_rfl) (by simp) ?_
                refine AllReady.cons rfl (fun K hK => ?_) AllReady.nil
                refine step_append_at _ rfl (.tmp 46) (.tmp 49) 47 rfl wc.heap.size 52 i0 (.agg #[.int .i64 0, .int .i64 0, .int .i64 0, .int .i64 0]) 4 32 Try.underlying47 hi hz0 hz1 hz2 rfl (by decide) (.slice (some ⟨wc.heap.size, 0, none⟩) 1 1) 1 [.int .i64 p1, .int .i64 p2, .int .i64 p3, .int .i64 p4] rfl ⟨rfl, .inr ⟨wc.heap.size, 1, #[.int .i64 p1, .int .i64 p2, .int .i64 p3, .int .i64 p4], rfl, Nat.le_refl _, heap_alloc_new wc (.cells #[.int .i64 p1, .int .i64 p2, .int .i64 p3, .int .i64 p4] 52), by omega, by unfold maxLen; omega, rfl, rfl⟩⟩ _ _ _ (flatP (O.drop j)) rfl ?r1 ?r2 ?r3 ?r4 ?r5 ?r6 ?_
                case r1 => have e := flatP_len (O.drop j); rw [List.length_drop] at e; omega
                case r2 => exact news_of_row (show World.ownsRow ((wc.alloc (.cells #[.int .i64 p1, .int .i64 p2, .int .i64 p3, .int .i64 p4] 52)).drew) (w.heap.size + 1) 52 4 (.slice (some ⟨b, 0, none⟩) O.length c) O.length (flatP O) from World.ownsRow.alloc HWc.out _) (j * 4) _ (fun i u hu => by rw [flatP_drop, List.getElem?_drop] at hu; exact hu)
                case r3 => exact flatP_one _
                case r4 => unfold maxLen; omega
                case r5 => omega
                case r6 => simp
                intro v9 w9 hown9 hgrow9
                refine hK _ _ ?_
                clear hK K
                refine wpAny_take (i := 9) (v := ?_) rfl (by kernel_rfl) (by kernel_rfl) (by kernel_rfl) (fun _ _ _ h => h) (Or.inl ⟨by kernel_rfl, ?_⟩) ?_
                rotate_left
                · intro w; first | (go_simp; done) | (go_simp; with_reducible rfl)
                refine wpAny_done (by kernel_rfl) ?_ _
                have hown9' : w9.ownsRow wc.heap.size 52 4 v9 (O.length - j + 1) (flatP ((p1, p2, p3, p4) :: O.drop j)) := by
                  have e0 : O.length - j + 1 = 1 + (O.length - j) := by omega
                  rw [e0]
                  exact hown9
                obtain ⟨gr, cr, rfl⟩ := ownsRow_succ hown9'
                have hgr : wc.heap.size ≤ gr := own_block hown9' gr rfl
                have hgl : gr < w9.heap.size := own_lt hown9' gr rfl
                have HR9 := Lib.hid hown9'
                have hs9 : wc.heap.size < w9.heap.size := by have := hgrow9.size; simp at this; omega
                have HW9 : Hid (w9.ownsRow (w.heap.size + 1) 52 4 (.slice (some ⟨b, 0, none⟩) O.length c) O.length (flatP O)) := Lib.hid (ownFar (show World.ownsRow ((wc.alloc (.cells #[.int .i64 p1, .int .i64 p2, .int .i64 p3, .int .i64 p4] 52)).drew) (w.heap.size + 1) 52 4 (.slice (some ⟨b, 0, none⟩) O.length c) O.length (flatP O) from World.ownsRow.alloc HWc.out _) hgrow9 (fun j e => by simp [Value.ownBlock] at e ⊢; omega))
                have HB9 : Hid (Below w.heap.size w w9) := Lib.hid ((belowAlloc HBc.out (.cells #[.int .i64 p1, .int .i64 p2, .int .i64 p3, .int .i64 p4] 52)).drew.grown hgrow9 (by simp; omega) (fun j e => by simp [Value.ownBlock] at e; omega))
                have h0 := cellG hgrow9 (show w.heap.size < (wc.alloc (.cells #[.int .i64 p1, .int .i64 p2, .int .i64 p3, .int .i64 p4] 52)).drew.heap.size by simp; omega) (fun e => by simp [Value.ownBlock] at e; omega) (cellThru (w1 := (wc.alloc (.cells #[.int .i64 p1, .int .i64 p2, .int .i64 p3, .int .i64 p4] 52)).drew) (belowAlloc (Below.refl _ _) _).drew zc e0)
                have h1 := cellG hgrow9 (show w.heap.size < (wc.alloc (.cells #[.int .i64 p1, .int .i64 p2, .int .i64 p3, .int .i64 p4] 52)).drew.heap.size by simp; omega) (fun e => by simp [Value.ownBlock] at e; omega) (cellThru (w1 := (wc.alloc (.cells #[.int .i64 p1, .int .i64 p2, .int .i64 p3, .int .i64 p4] 52)).drew) (belowAlloc (Below.refl _ _) _).drew zc e1)
                have hcO2 : j ≤ c := by omega
                clear hown9 hown9' hgrow9 s0 s1 s2 s3 e0 e1 HWc HBc hgc
                go_wp2_with (at_builtin; refine wpList_append_own_at _ rfl _ _ 47 rfl wc.heap.size 52 i0 (.agg #[.int .i64 0, .int .i64 0, .int .i64 0, .int .i64 0]) 4 32 Try.underlying47 hi hz0 hz1 hz2 rfl (by decide) (.slice (some ⟨w9.heap.size, 0, none⟩) 0 0) 0 [] rfl ⟨rfl, .inr ⟨w9.heap.size, 0, #[], rfl, Nat.le_of_lt hs9, heap_alloc_new w9 (.cells #[] 52), by omega, by unfold maxLen; omega, rfl, rfl⟩⟩ ⟨b, 0, none⟩ j _ (flatP (O.take j)) rfl ?r1 ?r2 ?r3 ?r4 ?r5 ?r6 ?_)
                case r1 => have e := flatP_len (O.take j); rw [List.length_take] at e; omega
                case r2 => exact news_of_row (World.ownsRow.alloc HW9.out _) 0 _ (fun i u hu => by rw [flatP_take] at hu; rw [Nat.zero_add]; rw [List.getElem?_take] at hu; split at hu; exact hu; cases hu)
                case r3 => exact flatP_one _
                case r4 => unfold maxLen; omega
                case r5 => omega
                case r6 => simp; omega
                intro v10 w10 hown10 hgrow10 _ _
                have HR10 : Hid (w10.ownsRow wc.heap.size 52 4 (.slice (some ⟨gr, 0, none⟩) (O.length - j + 1) cr) (O.length - j + 1) (flatP ((p1, p2, p3, p4) :: O.drop j))) := Lib.hid (ownFar (World.ownsRow.alloc HR9.out (.cells #[] 52)) hgrow10 (fun j e => by simp [Value.ownBlock] at e ⊢; omega))
                have HB10 : Hid (Below w.heap.size w w10) := Lib.hid ((belowAlloc HB9.out (.cells #[] 52)).grown hgrow10 (by simp; omega) (fun j e => by simp [Value.ownBlock] at e; omega))
                have k0 := cellG hgrow10 (show w.heap.size < (w9.alloc (.cells #[] 52)).heap.size by simp; omega) (fun e => by simp [Value.ownBlock] at e; omega) (cellThru (belowAlloc (Below.refl _ _) _) (by omega) h0)
                have k1 := cellG hgrow10 (show w.heap.size < (w9.alloc (.cells #[] 52)).heap.size by simp; omega) (fun e => by simp [Value.ownBlock] at e; omega) (cellThru (belowAlloc (Below.refl _ _) _) (by omega) h1)
                have hs10 : wc.heap.size < w10.heap.size := by have := hgrow10.size; simp at this; omega
                have HO10 := Lib.hid hown10
                clear hown10 hgrow10 HR9 HW9 HB9 h0 h1
                go_wp2_with (at_builtin; refine wpList_append_own_at _ rfl _ _ 47 rfl wc.heap.size 52 i0 (.agg #[.int .i64 0, .int .i64 0, .int .i64 0, .int .i64 0]) 4 32 Try.underlying47 hi hz0 hz1 hz2 rfl (by decide) v10 j (flatP (O.take j)) rfl HO10.out ⟨gr, 0, none⟩ _ _ (flatP ((p1, p2, p3, p4) :: O.drop j)) rfl ?r1 ?r2 ?r3 ?r4 ?r5 ?r6 ?_)
                case r1 => have e := flatP_len ((p1, p2, p3, p4) :: O.drop j); rw [List.length_cons, List.length_drop] at e; omega
                case r2 => exact news_of_row HR10.out 0 _ (fun i u hu => by rw [Nat.zero_add]; exact hu)
                case r3 => exact flatP_one _
                case r4 => unfold maxLen; omega
                case r5 => omega
                case r6 => omega
                intro v11 w11 hown11 hgrow11 _ _
                have hown11' : w11.ownsRow wc.heap.size 52 4 v11 (O.length + 1) (flatP (insP O (p1, p2, p3, p4))) := by
                  have e1 : j + (O.length - j + 1) = O.length + 1 := by omega
                  have e2 : flatP (O.take j) ++ flatP ((p1, p2, p3, p4) :: O.drop j) = flatP (insP O (p1, p2, p3, p4)) := by unfold insP; rw [HLs.out, flatP_app]
                  rw [e1, e2] at hown11
                  exact hown11
                obtain ⟨gn, cn, rfl⟩ := ownsRow_succ hown11'
                have HB11 : Hid (Below w.heap.size w w11) := Lib.hid (HB10.out.grown hgrow11 (by omega) (fun j e => by have := own_block HO10.out j e; omega))
                have l0 := cellG hgrow11 (show w.heap.size < w10.heap.size by omega) (fun e => by have := own_block HO10.out _ e.symm; omega) k0
                have l1 := cellG hgrow11 (show w.heap.size < w10.heap.size by omega) (fun e => by have := own_block HO10.out _ e.symm; omega) k1
                have z11 : w.heap.size < w11.heap.size := by have := hgrow11.size; omega
                have HW11 : Hid (w11.ownsRow (w.heap.size + 1) 52 4 (.slice (some ⟨gn, 0, none⟩) (O.length + 1) cn) (insP O (p1, p2, p3, p4)).length (flatP (insP O (p1, p2, p3, p4)))) := Lib.hid (by rw [insP_len]; exact ownMono hown11' (by omega))
                clear hown11 hown11' hgrow11 HO10 HR10 HB10 k0 k1
                go_wp2
                go_roundg g
                case measure => omega
                case rel => exact ⟨k + 1, insP O (p1, p2, p3, p4), gn, cn, by omega, by go_num, by rw [insP_len], HE, HW11, HB11, z11, l0, l1⟩
            · obtain ⟨q, hq, hlq⟩ := HQ.out.1 rfl
              have hjl : j < O.length := (List.getElem?_eq_some_iff.1 hq).1
              obtain ⟨g2, rfl⟩ : ∃ g2, gk = g2 + 1 := ⟨gk - 1, by omega⟩
              have HJ2 : Hid (∀ i, i < j + 1 → ∀ q, O[i]? = some q → lowLt q (p1, p2, p3, p4) = true) := Lib.hid (fun i h q' hq' => by
                by_cases hij : i = j
                · subst hij
                  rw [hq] at hq'
                  injection hq' with e
                  rw [← e]; exact hlq
                · exact HJ.out i (by omega) q' hq')
              have HB2 := Lib.hid B2
              clear HQ hq hlq B2 a0 a1 hg2 hb2
              go_wp2
              go_roundg g2
              case measure => omega
              case rel => exact ⟨j + 1, by omega, by go_num, HJ2, HB2⟩

/-- What WakesAround answers. -/
def waL (n d m : Int) : List Lf4 := if isAng n d then (if 2 ≤ m ∧ m ≤ 8 then wkL (n, d) (m.toNat - 1) else []) else []
def waC (n d m : Int) : Int := if isAng n d then (if 2 ≤ m ∧ m ≤ 8 then 0 else 2) else 1
theorem wa_yes {n d : Int} {N : Nat} (h : isAng n d = true) (h1 : 2 ≤ N) (h8 : N ≤ 8) : waL n d (N : Int) = wkL (n, d) (N - 1) ∧ waC n d (N : Int) = 0 := by
  have h' : (2 : Int) ≤ (N : Int) ∧ (N : Int) ≤ 8 := by omega
  unfold waL waC
  rw [h, if_pos rfl, if_pos rfl, if_pos h', if_pos h']
  exact ⟨rfl, rfl⟩
theorem wa_range {n d m : Int} (h : isAng n d = true) (h1 : ¬ (2 ≤ m ∧ m ≤ 8)) : waL n d m = [] ∧ waC n d m = 2 := by
  unfold waL waC
  rw [h, if_neg h1, if_neg h1]
  exact ⟨rfl, rfl⟩
theorem wa_no {n d : Int} (m : Int) (h : isAng n d = false) : waL n d m = [] ∧ waC n d m = 1 := by
  unfold waL waC
  rw [h]
  exact ⟨rfl, rfl⟩
theorem waL_len (n d m : Int) : (waL n d m).length ≤ 1000000000000 := by
  unfold waL
  split
  · split
    · next h => have := (wkL_facts (n, d) (m := m.toNat - 1) (by omega)).2.2.2.2; omega
    · simp
  · simp

set_option maxHeartbeats 1000000 in
theorem implWakesOf (n d m : Int) (w : World) : Calls Try.prog 34 #[ang n d, .int .i64 m] w (ResRp w (waL n d m) (waC n d m)) := by
  have HI := Lib.hid (fun w => implIs n d w)
  have HPP := Lib.hid (fun w => implIsPP m w)
  cases ha : isAng n d
  · rw [(wa_no m ha).1, (wa_no m ha).2]
    rw [ha] at HI
    clear ha
    go_enter Try.func34, Try.ntmps34
    go_wp2_with fail
    refine (HI.out _).mono ?_
    rintro e w1 ⟨rfl, hb1⟩
    obtain ⟨hc1, hf1⟩ := bcell hb1
    have hz1_0 : w.heap.size < w1.heap.size := by have := hb1.size; first | omega | (simp at this; omega)
    go_wp2
    go_ret2
    exact ⟨none, 0, rfl, lfOwn_nil, by
      (repeat' (first | (with_reducible exact Below.refl _ _) | (with_reducible assumption) | (with_reducible refine belowNext ?_ (by with_reducible assumption)) | (with_reducible refine belowAlloc ?_ _) | (with_reducible refine Below.drew ?_) | (with_reducible refine below_drewN ?_ _) | (with_reducible refine Below.setCell ?_ ?_ _) | go_size | (with_reducible refine sizeOf' ?_) | (with_reducible refine sizeAdd ?_) | (dsimp only; first | (with_reducible refine sizeOf' ?_) | (with_reducible refine sizeAdd ?_))))⟩
  · rw [ha] at HI
    by_cases h : 2 ≤ m ∧ m ≤ 8
    · obtain ⟨N, rfl⟩ : ∃ N : Nat, m = (N : Int) := ⟨m.toNat, by omega⟩
      rw [(wa_yes ha (by omega) (by omega)).1, (wa_yes ha (by omega) (by omega)).2]
      have HW := Lib.hid (fun w => implWakes n d N w ha (by omega) (by omega))
      generalize wkL (n, d) (N - 1) = K at *
      have t : (decide ((2 : Int) ≤ (N : Int)) && decide ((N : Int) ≤ 8)) = true := by simp; omega
      rw [t] at HPP
      generalize (N : Int) = I at *
      clear ha t
      go_enter Try.func34, Try.ntmps34
      go_wp2_with fail
      refine (HI.out _).mono ?_
      rintro e w1 ⟨rfl, hb1⟩
      obtain ⟨hc1, hf1⟩ := bcell hb1
      have hz1_0 : w.heap.size < w1.heap.size := by have := hb1.size; first | omega | (simp at this; omega)
      have q1_0_0 : w1.cell? ⟨w.heap.size, 0, none⟩ = some (.int .i64 n) := cellThru hb1 (by simp <;> omega) (by simp [go_sem])
      have q1_0_1 : w1.cell? ⟨w.heap.size, 1, none⟩ = some (.int .i64 d) := cellThru hb1 (by simp <;> omega) (by simp [go_sem])
      go_wp2_with fail
      refine (HPP.out _).mono ?_
      rintro e w3 ⟨rfl, rfl⟩
      have B1 : Below w.heap.size w w1 := by
        (repeat' (first | (with_reducible exact Below.refl _ _) | (with_reducible assumption) | (with_reducible refine belowNext ?_ (by with_reducible assumption)) | (with_reducible refine belowAlloc ?_ _) | (with_reducible refine Below.drew ?_) | (with_reducible refine below_drewN ?_ _) | (with_reducible refine Below.setCell ?_ ?_ _) | go_size | (with_reducible refine sizeOf' ?_) | (with_reducible refine sizeAdd ?_) | (dsimp only; first | (with_reducible refine sizeOf' ?_) | (with_reducible refine sizeAdd ?_))))
      clear hc1 hf1 hb1
      go_wp2_with fail
      refine (HW.out _).mono ?_
      rintro e w4 ⟨A, cap, rfl, ho, hb4⟩
      have HO := Lib.hid (ownP_of rfl (ownMono ho B1.size))
      clear ho
      go_wp2
      go_ret2
      exact ⟨A, cap, rfl, HO.out, belowNext B1 hb4⟩
    · rw [(wa_range ha h).1, (wa_range ha h).2]
      have t : (decide ((2 : Int) ≤ m) && decide (m ≤ 8)) = false := by simp; omega
      rw [t] at HPP
      clear ha t
      go_enter Try.func34, Try.ntmps34
      go_wp2_with fail
      refine (HI.out _).mono ?_
      rintro e w1 ⟨rfl, hb1⟩
      obtain ⟨hc1, hf1⟩ := bcell hb1
      have hz1_0 : w.heap.size < w1.heap.size := by have := hb1.size; first | omega | (simp at this; omega)
      go_wp2_with fail
      refine (HPP.out _).mono ?_
      rintro e w3 ⟨rfl, rfl⟩
      go_wp2
      go_ret2
      exact ⟨none, 0, rfl, lfOwn_nil, by
        (repeat' (first | (with_reducible exact Below.refl _ _) | (with_reducible assumption) | (with_reducible refine belowNext ?_ (by with_reducible assumption)) | (with_reducible refine belowAlloc ?_ _) | (with_reducible refine Below.drew ?_) | (with_reducible refine below_drewN ?_ _) | (with_reducible refine Below.setCell ?_ ?_ _) | go_size | (with_reducible refine sizeOf' ?_) | (with_reducible refine sizeAdd ?_) | (dsimp only; first | (with_reducible refine sizeOf' ?_) | (with_reducible refine sizeAdd ?_))))⟩

set_option maxRecDepth 8000 in
set_option maxHeartbeats 1000000 in
theorem specWakesOf (n d m : Int) (w : World) : Calls Try.prog 35 #[ang n d, .int .i64 m] w (ResRp w (waL n d m) (waC n d m)) := by
  have HI := Lib.hid (fun w => specIs1 n d w)
  have HPP := Lib.hid (fun w => inRange m 2 8 w)
  cases ha : isAng n d
  · rw [(wa_no m ha).1, (wa_no m ha).2]
    rw [ha] at HI
    clear ha
    go_enter Try.func35, Try.ntmps35
    go_wp2_with fail
    refine (HI.out _).mono ?_
    rintro e w1 ⟨rfl, hb1⟩
    obtain ⟨hc1, hf1⟩ := bcell hb1
    have hz1_0 : w.heap.size < w1.heap.size := by have := hb1.size; first | omega | (simp at this; omega)
    go_wp2
    go_ret2
    exact ⟨none, 0, rfl, lfOwn_nil, by
      (repeat' (first | (with_reducible exact Below.refl _ _) | (with_reducible assumption) | (with_reducible refine belowNext ?_ (by with_reducible assumption)) | (with_reducible refine belowAlloc ?_ _) | (with_reducible refine Below.drew ?_) | (with_reducible refine below_drewN ?_ _) | (with_reducible refine Below.setCell ?_ ?_ _) | go_size | (with_reducible refine sizeOf' ?_) | (with_reducible refine sizeAdd ?_) | (dsimp only; first | (with_reducible refine sizeOf' ?_) | (with_reducible refine sizeAdd ?_))))⟩
  · rw [ha] at HI
    by_cases h : 2 ≤ m ∧ m ≤ 8
    · obtain ⟨N, rfl⟩ : ∃ N : Nat, m = (N : Int) := ⟨m.toNat, by omega⟩
      rw [(wa_yes ha (by omega) (by omega)).1, (wa_yes ha (by omega) (by omega)).2]
      have HU := Lib.hid (fun w => specPairs N w (by omega) (by omega))
      have HL : Hid (wkOf (n, d) [] ((upK (N - 1)).map (·.1)) = wkL (n, d) (N - 1)) := Lib.hid rfl
      have hll := upK_len (N - 1) (by omega)
      have HS := Lib.hid (fun (A : Option Addr) (len cap : Nat) (w : World) (hr : LfRow w w.heap.size A ((upK (N - 1)).map (·.1))) (hl : ((upK (N - 1)).map (·.1)).length = len) (hm : len ≤ 2000) => specSorted n d A len cap ((upK (N - 1)).map (·.1)) w (isAng_ok ha) (fun p hp => mapOk (m := N - 1) (by omega) p hp) hr hl hm)
      rw [HL.out] at HS
      generalize wkL (n, d) (N - 1) = K at *
      have hll2 : (upK (N - 1)).length ≤ 2000 := by omega
      generalize upK (N - 1) = l at *
      have t : (decide ((2 : Int) ≤ (N : Int)) && decide ((N : Int) ≤ 8)) = true := by simp; omega
      rw [t] at HPP
      generalize (N : Int) = I at *
      clear ha t hll HL
      go_enter Try.func35, Try.ntmps35
      go_wp2_with fail
      refine (HI.out _).mono ?_
      rintro e w1 ⟨rfl, hb1⟩
      obtain ⟨hc1, hf1⟩ := bcell hb1
      have hz1_0 : w.heap.size < w1.heap.size := by have := hb1.size; first | omega | (simp at this; omega)
      have q1_0_0 : w1.cell? ⟨w.heap.size, 0, none⟩ = some (.int .i64 n) := cellThru hb1 (by simp <;> omega) (by simp [go_sem])
      have q1_0_1 : w1.cell? ⟨w.heap.size, 1, none⟩ = some (.int .i64 d) := cellThru hb1 (by simp <;> omega) (by simp [go_sem])
      go_wp2_with fail
      refine (HPP.out _).mono ?_
      rintro e w3 ⟨rfl, rfl⟩
      have B1 : Below w.heap.size w w1 := by
        (repeat' (first | (with_reducible exact Below.refl _ _) | (with_reducible assumption) | (with_reducible refine belowNext ?_ (by with_reducible assumption)) | (with_reducible refine belowAlloc ?_ _) | (with_reducible refine Below.drew ?_) | (with_reducible refine below_drewN ?_ _) | (with_reducible refine Below.setCell ?_ ?_ _) | go_size | (with_reducible refine sizeOf' ?_) | (with_reducible refine sizeAdd ?_) | (dsimp only; first | (with_reducible refine sizeOf' ?_) | (with_reducible refine sizeAdd ?_))))
      have b0 : w.heap.size < w1.drew.heap.size := hz1_0
      clear hc1 hf1 hb1
      go_wp2_with fail
      refine wp_region_any (by kernel_rfl) ?_
      try (change wpAny _ _ _ _ _ _ _ (World.drew _))
      refine wpAny_take (i := 1) (v := ?_) rfl (by kernel_rfl) (by kernel_rfl) (by kernel_rfl) (fun _ _ _ h => h) (Or.inl ⟨by kernel_rfl, ?_⟩) ?_
      rotate_left
      · intro w; first | (go_simp; done) | (go_simp; with_reducible rfl)
      refine wpAny_ready (rs := [0, 2]) (by kernel_rfl) (by simp) ?_
      refine AllReady.cons rfl (fun K hK => ?_) (AllReady.cons rfl (fun K hK => ?_) AllReady.nil)
      · go_simp
        refine hK _ _ ?_
        clear hK K
        refine wpAny_ready (rs := [2]) (by kernel_rfl) (by simp) ?_
        refine AllReady.cons rfl (fun K hK => ?_) AllReady.nil
        go_simp
        go_wp2_with (go_at_call 75; (with_reducible refine (HU.out _).mono ?_); rintro e w4 ⟨A, cap, rfl, ho4, hb4⟩)
        have b4 : w.heap.size < w4.heap.size := Nat.lt_of_lt_of_le b0 hb4.size
        refine wpAny_ready (rs := [3]) (by kernel_rfl) (by simp) ?_
        refine AllReady.cons rfl (fun K hK => ?_) AllReady.nil
        go_simp
        go_wp2_with (go_at_call 74; (with_reducible refine (HS.out A _ cap _ (rowP_of (List.length_map _) ho4) (List.length_map _) hll2).mono ?_); rintro e w5 ⟨A5, cap5, rfl, ho5, hb5⟩)
        refine wpAny_take (i := 4) (v := ?_) rfl (by kernel_rfl) (by kernel_rfl) (by kernel_rfl) (fun _ _ _ h => h) (Or.inl ⟨by kernel_rfl, ?_⟩) ?_
        rotate_left
        · intro w; first | (go_simp; done) | (go_simp; with_reducible rfl)
        refine wpAny_take (i := 5) (v := ?_) rfl (by kernel_rfl) (by kernel_rfl) (by kernel_rfl) (fun _ _ _ h => h) (Or.inl ⟨by kernel_rfl, ?_⟩) ?_
        rotate_left
        · intro w; first | (go_simp; done) | (go_simp; with_reducible rfl)
        refine wpAny_done (by kernel_rfl) ?_ _
        go_wp2_with fail
        go_ret2
        exact ⟨A5, cap5, rfl, ownP_of rfl (ownMono ho5 (Nat.le_of_lt b4)), belowNext (belowNext B1.drew hb4) hb5⟩
      · go_simp
        go_wp2_with (go_at_call 75; (with_reducible refine (HU.out _).mono ?_); rintro e w4 ⟨A, cap, rfl, ho4, hb4⟩)
        have b4 : w.heap.size < w4.heap.size := Nat.lt_of_lt_of_le b0 hb4.size
        have y0 := cellThru hb4 b0 (show w1.drew.cell? ⟨w.heap.size, 0, none⟩ = _ from q1_0_0)
        have y1 := cellThru hb4 b0 (show w1.drew.cell? ⟨w.heap.size, 1, none⟩ = _ from q1_0_1)
        refine wpAny_ready (rs := [0]) (by kernel_rfl) (by simp) ?_
        refine AllReady.cons rfl (fun K hK => ?_) AllReady.nil
        go_simp
        refine hK _ _ ?_
        clear hK K
        refine wpAny_ready (rs := [3]) (by kernel_rfl) (by simp) ?_
        refine AllReady.cons rfl (fun K hK => ?_) AllReady.nil
        go_simp
        go_wp2_with (go_at_call 74; (with_reducible refine (HS.out A _ cap _ (rowP_of (List.length_map _) ho4) (List.length_map _) hll2).mono ?_); rintro e w5 ⟨A5, cap5, rfl, ho5, hb5⟩)
        refine wpAny_take (i := 4) (v := ?_) rfl (by kernel_rfl) (by kernel_rfl) (by kernel_rfl) (fun _ _ _ h => h) (Or.inl ⟨by kernel_rfl, ?_⟩) ?_
        rotate_left
        · intro w; first | (go_simp; done) | (go_simp; with_reducible rfl)
        refine wpAny_take (i := 5) (v := ?_) rfl (by kernel_rfl) (by kernel_rfl) (by kernel_rfl) (fun _ _ _ h => h) (Or.inl ⟨by kernel_rfl, ?_⟩) ?_
        rotate_left
        · intro w; first | (go_simp; done) | (go_simp; with_reducible rfl)
        refine wpAny_done (by kernel_rfl) ?_ _
        go_wp2_with fail
        go_ret2
        exact ⟨A5, cap5, rfl, ownP_of rfl (ownMono ho5 (Nat.le_of_lt b4)), belowNext (belowNext B1.drew hb4) hb5⟩
    · rw [(wa_range ha h).1, (wa_range ha h).2]
      have t : (decide ((2 : Int) ≤ m) && decide (m ≤ 8)) = false := by simp; omega
      rw [t] at HPP
      clear ha t
      go_enter Try.func35, Try.ntmps35
      go_wp2_with fail
      refine (HI.out _).mono ?_
      rintro e w1 ⟨rfl, hb1⟩
      obtain ⟨hc1, hf1⟩ := bcell hb1
      have hz1_0 : w.heap.size < w1.heap.size := by have := hb1.size; first | omega | (simp at this; omega)
      go_wp2_with fail
      refine (HPP.out _).mono ?_
      rintro e w3 ⟨rfl, rfl⟩
      go_wp2
      go_ret2
      exact ⟨none, 0, rfl, lfOwn_nil, by
        (repeat' (first | (with_reducible exact Below.refl _ _) | (with_reducible assumption) | (with_reducible refine belowNext ?_ (by with_reducible assumption)) | (with_reducible refine belowAlloc ?_ _) | (with_reducible refine Below.drew ?_) | (with_reducible refine below_drewN ?_ _) | (with_reducible refine Below.setCell ?_ ?_ _) | go_size | (with_reducible refine sizeOf' ?_) | (with_reducible refine sizeAdd ?_) | (dsimp only; first | (with_reducible refine sizeOf' ?_) | (with_reducible refine sizeAdd ?_))))⟩

end Go.Proofs.Ytnciiodgkanpjaa

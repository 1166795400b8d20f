/-
  Contracts: angles in order, none twice, as the model does it.
-/
import Derived.Test.YtkpgfafmaoaefaaW32
import Derived.Test.YtkpgfafmaoaefaaW9
import Derived.Deep.LoopGhost
namespace Go.Proofs.Ytkpgfafmaoaefaa
open Go.RowKit

/-- A row of one's own lies still where the blocks of old do. -/
theorem ownKeepA {W1 W2 : World} {e : TypeId} {size : Nat} {v : Value} {n : Nat} {xs : List Value} {lo : Nat} (h : W1.ownsRow lo e size v n xs) (hb : Below W1.heap.size W1 W2) : W2.ownsRow lo e size v n xs := by
  refine ⟨h.1, ?_⟩
  rcases h.2 with ⟨a, b⟩ | ⟨g, cap, cur, a, b, c, d⟩
  · exact .inl ⟨a, b⟩
  · exact .inr ⟨g, cap, cur, a, b, (hb.block g (Array.getElem?_eq_some_iff.1 c).1).trans c, d⟩
/-- All of a list put in their places. -/
def insAll (l : List (Int × Int)) : List (Int × Int) := l.foldl insA []
theorem insAll_next {l : List (Int × Int)} {k : Nat} {p : Int × Int} (h : l[k]? = some p) : insAll (l.take (k + 1)) = insA (insAll (l.take k)) p := by
  unfold insAll
  rw [List.take_add_one, h, Option.toList_some, List.foldl_append]
  rfl
theorem insA_le (out : List (Int × Int)) (p : Int × Int) : (insA out p).length ≤ out.length + 1 := by
  by_cases h : out[lessNA out p]? = some p
  · rw [insA_old h]; omega
  · rw [insA_len h]; omega
theorem insA_mem {out : List (Int × Int)} {p q : Int × Int} : q ∈ insA out p ↔ q = p ∨ q ∈ out := by
  by_cases h : out[lessNA out p]? = some p
  · rw [insA_old h]
    have := List.mem_of_getElem? h
    constructor
    · exact fun x => .inr x
    · rintro (rfl | x)
      · exact this
      · exact x
  · rw [insA_new h]
    have e : q ∈ out ↔ q ∈ out.take (lessNA out p) ∨ q ∈ out.drop (lessNA out p) := by
      rw [← List.mem_append, List.take_append_drop]
    rw [List.mem_append, List.mem_cons, e]
    constructor
    · rintro (h | h | h)
      · exact .inr (.inl h)
      · exact .inl h
      · exact .inr (.inr h)
    · rintro (h | h | h)
      · exact .inr (.inl h)
      · exact .inl h
      · exact .inr (.inr h)
theorem foldA_len : ∀ (l o : List (Int × Int)), (l.foldl insA o).length ≤ o.length + l.length
  | [], o => Nat.le_refl _
  | p :: l, o => by
    have h1 := foldA_len l (insA o p)
    have h2 := insA_le o p
    simp only [List.foldl_cons, List.length_cons]
    omega
theorem insAll_len (l : List (Int × Int)) : (insAll l).length ≤ l.length := by
  have := foldA_len l []
  simpa [insAll] using this
theorem foldA_mem : ∀ (l o : List (Int × Int)) (q : Int × Int), q ∈ l.foldl insA o ↔ q ∈ l ∨ q ∈ o
  | [], o, q => by simp
  | p :: l, o, q => by
    rw [List.foldl_cons, foldA_mem l (insA o p) q, insA_mem, List.mem_cons]
    constructor
    · rintro (h | h | h)
      · exact .inl (.inr h)
      · exact .inl (.inl h)
      · exact .inr h
    · rintro ((h | h) | h)
      · exact .inr (.inl h)
      · exact .inl h
      · exact .inr (.inr h)
theorem insAll_mem (l : List (Int × Int)) (q : Int × Int) : q ∈ insAll l ↔ q ∈ l := by
  unfold insAll
  rw [foldA_mem]
  simp
theorem allAng_ins {l : List (Int × Int)} (h : allAng l = true) : allAng (insAll l) = true := by
  unfold allAng at *
  rw [List.all_eq_true] at *
  exact fun x hx => h x ((insAll_mem l x).1 hx)
theorem allAng_next {l : List (Int × Int)} {k : Nat} {n d : Int} (h : allAng (l.take k) = true) (hq : l[k]? = some (n, d)) (hi : isAng n d = true) : allAng (l.take (k + 1)) = true := by
  unfold allAng at *
  rw [List.take_add_one, hq, Option.toList_some, List.all_append, h]
  simp [hi]

set_option maxRecDepth 100000 in
set_option maxHeartbeats 1000000 in
theorem specSortA (A : Option Addr) (len cap : Nat) (l : List (Int × Int)) (w : World) (hr : AngRow w w.heap.size A l) (hl : l.length = len) (hm : len ≤ 1100000) (R : List (Int × Int)) (C : Int) (h : (allAng l = true ∧ R = insAll l ∧ C = 0) ∨ (allAng l = false ∧ R = [] ∧ C = 1)) :
    Calls Try.prog 43 #[.slice A len cap] w (ResAng w R C) := by
  have HR := Lib.hid hr
  have HL := Lib.hid hl
  have H := Lib.hid h
  clear hr hl h
  go_enter Try.func43, Try.ntmps43
  go_wp2_with fail
  have HB0 : Hid (Below w.heap.size w (w.alloc (.cells #[] 29))) := Lib.hid (belowAlloc (Below.refl _ _) _)
  have HS : Hid ((w.alloc (.cells #[] 29)).ownsRow w.heap.size 29 2 (.slice (some ⟨w.heap.size, 0, none⟩) ([] : List (Int × Int)).length 0) ([] : List (Int × Int)).length (flatA [])) := Lib.hid ⟨rfl, .inr ⟨w.heap.size, 0, #[], rfl, Nat.le_refl _, heap_alloc_new w (.cells #[] 29), by simp, by unfold maxLen; omega, rfl, rfl⟩⟩
  generalize w.alloc (.cells #[] 29) = wc at *
  go_loopg [4, 5] len (fun g s4 s5 wr => ∃ (k : Nat) (O : List (Int × Int)) (b c : Nat), k + g = len ∧ s5 = .int .i64 k ∧ s4 = .slice (some ⟨b, 0, none⟩) O.length c ∧ Hid (O = insAll (l.take k)) ∧ Hid (allAng (l.take k) = true) ∧ Hid (wr.ownsRow w.heap.size 29 2 s4 O.length (flatA O)) ∧ Hid (Below w.heap.size w wr))
  case atStart => exact ⟨0, [], w.heap.size, 0, by omega, rfl, rfl, Lib.hid rfl, Lib.hid rfl, HS, HB0⟩
  case round =>
    clear HS HB0
    obtain ⟨k, O, b, c, hkg, rfl, rfl, HO, HA, HW, HB⟩ := hrel
    cases gk with
    | zero =>
      obtain rfl : k = len := by omega
      have e2 : l.take k = l := by rw [← HL.out, List.take_length]
      rw [e2] at HO HA
      obtain ⟨rfl, rfl⟩ : O = R ∧ C = 0 := by
        rcases H.out with ⟨_, h1, h2⟩ | ⟨h1, _⟩
        · exact ⟨HO.out.trans h1.symm, h2⟩
        · have := HA.out; rw [h1] at this; cases this
      have HW2 := Lib.hid (ownA_of rfl HW.out)
      clear HO HA HW e2
      go_wp2
      go_ret2
      exact ⟨_, c, rfl, HW2.out, HB.out⟩
    | succ g =>
      have hlt : k < len := by omega
      obtain ⟨⟨n, d⟩, hq⟩ : ∃ q, l[k]? = some q := ⟨_, List.getElem?_eq_getElem (by have := HL.out; omega)⟩
      obtain ⟨b0, off, rfl, hb0, hc⟩ := HR.out (by rintro rfl; cases hq)
      obtain ⟨x0, x1⟩ := hc k n d hq
      have y0 := cellThru HB.out hb0 x0
      have y1 := cellThru HB.out hb0 x1
      have HQ := Lib.hid hq
      have hOl : O.length ≤ k := by rw [HO.out]; exact Nat.le_trans (insAll_len _) (by rw [List.length_take]; omega)
      have hb1 : b0 < wr.heap.size := Nat.lt_of_lt_of_le hb0 HB.out.size
      clear hq hc x0 x1
      cases hi : isAng n d
      · have HI := Lib.hid hi
        clear hi
        obtain ⟨rfl, rfl⟩ : R = [] ∧ C = 1 := by
          rcases H.out with ⟨h1, _⟩ | ⟨_, h1, h2⟩
          · rw [allAng_no HQ.out HI.out] at h1; cases h1
          · exact ⟨h1, h2⟩
        go_wp2_with fail
        refine (specIs1 n d _).mono ?_
        rintro e w2 ⟨rfl, hb2⟩
        rw [HI.out]
        have HB3 := Lib.hid (belowNext HB.out hb2)
        clear hb2 y0 y1
        go_wp2
        go_ret2
        exact ⟨none, 0, rfl, (fun h => absurd rfl h), HB3.out⟩
      · have HI := Lib.hid hi
        clear hi
        go_wp2_with fail
        refine (specIs1 n d _).mono ?_
        rintro e w2 ⟨rfl, hb2⟩
        rw [HI.out]
        have HB3 := Lib.hid (belowNext HB.out hb2)
        have hs3 := HB3.out.size
        have z0 := cellThru hb2 hb1 y0
        have z1 := cellThru hb2 hb1 y1
        have hb3 : b0 < w2.heap.size := Nat.lt_of_lt_of_le hb1 hb2.size
        have hlt2 : b < wr.heap.size := own_ltL HW.out b rfl
        have HW3 : Hid (w2.ownsRow w.heap.size 29 2 (.slice (some ⟨b, 0, none⟩) O.length c) O.length (flatA O)) := Lib.hid (ownKeepA HW.out hb2)
        have HOk : Hid (allAng O = true) := Lib.hid (by rw [HO.out]; exact allAng_ins HA.out)
        have HE : Hid (insA O (n, d) = insAll (l.take (k + 1))) := Lib.hid (by rw [HO.out]; exact (insAll_next HQ.out).symm)
        have HAN : Hid (allAng (l.take (k + 1)) = true) := Lib.hid (allAng_next HA.out HQ.out HI.out)
        clear hb2 y0 y1 HW HB HA HO hb1 hlt2
        go_wp2_with fail
        refine (specInsA w.heap.size b c O n d _ hs3 HOk.out HI.out (by omega) HW3.out).mono ?_
        rintro e w4 ⟨b4, c4, rfl, ho4, hb4⟩
        have HB4 := Lib.hid (belowNext HB3.out hb4)
        have HW4 := Lib.hid ho4
        clear hb4 ho4 z0 z1 HB3 HW3
        go_wp2
        go_roundg g
        case measure => omega
        case rel => exact ⟨k + 1, insA O (n, d), b4, c4, by omega, by go_num, rfl, HE, HAN, HW4, HB4⟩
end Go.Proofs.Ytkpgfafmaoaefaa

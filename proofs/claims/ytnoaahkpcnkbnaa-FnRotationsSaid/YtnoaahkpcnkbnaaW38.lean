/-
  Contracts: angles sorted by slices.SortFunc; SortAngles, on the program's side.
-/
import Derived.Test.YtnoaahkpcnkbnaaW35
import Derived.Test.YtnoaahkpcnkbnaaShelfT
namespace Go.Proofs.Ytnoaahkpcnkbnaa
open Go.RowKit

set_option maxHeartbeats 1000000 in
theorem cmpAngG (n d m c : Int) (w : World) (h1 : angOk n d) (h2 : angOk m c) :
    Calls Try.prog 42 #[ang n d, ang m c] w fun e w' => e = .returned (.int .i64 (cmpI (n * c) (m * d))) ∧ ∃ q os', w' = Go.Sort.grow (w.drewN q) os' := by
  obtain ⟨a1, a2, a3, a4⟩ := h1
  obtain ⟨b1, b2, b3, b4⟩ := h2
  obtain ⟨p1, p2⟩ := mul_bound (a := n) (b := c) (by omega) (by omega) (by omega) (by omega)
  obtain ⟨q1, q2⟩ := mul_bound (a := m) (b := d) (by omega) (by omega) (by omega) (by omega)
  have HC := Lib.hid (fun w => cmpInt (n * c) (m * d) w)
  generalize cmpI (n * c) (m * d) = C at *
  go_enter Try.func42, Try.ntmps42
  go_wp2_with fail
  refine (HC.out _).mono ?_
  rintro e w1 ⟨rfl, rfl⟩
  go_wp2
  go_ret
  exact ⟨rfl, 0, _, by rw [Go.Sort.alloc_eq_grow, Go.Sort.alloc_eq_grow, Go.Sort.grow_grow]; rfl⟩

/-- The order of angles that the program sorts by. -/
abbrev OkA : Type := { p : Int × Int // isAng p.1 p.2 = true }
theorem okA_one : isAng 0 1 = true := by decide +kernel
instance : Inhabited OkA := ⟨⟨(0, 1), okA_one⟩⟩
def encA (x : OkA) : List Value := [.int .i64 x.1.1, .int .i64 x.1.2]
def cfA (x y : OkA) : Int := cmpI (x.1.1 * y.1.2) (y.1.1 * x.1.2)
theorem ltOf_cfA (x y : OkA) : ltOf cfA x y = lessA x.1 y.1 := by
  show decide (cmpI (x.1.1 * y.1.2) (y.1.1 * x.1.2) < 0) = decide (x.1.1 * y.1.2 < y.1.1 * x.1.2)
  rw [decide_eq_decide]
  constructor
  · intro h
    rcases Int.lt_or_le (x.1.1 * y.1.2) (y.1.1 * x.1.2) with h1 | h1
    · exact h1
    · have := cmpI_nonneg (x := x.1.1 * y.1.2) (y := y.1.1 * x.1.2) (by omega)
      omega
  · exact fun h => cmpI_neg h
theorem swoA : Go.Sort.SWO (ltOf cfA) where
  irrefl x := by rw [ltOf_cfA]; exact lessA_self _
  trans x y z h1 h2 := by rw [ltOf_cfA] at *; exact lessA_tr x.2 y.2 z.2 h1 h2
  ntrans x y z h1 h2 := by
    rw [ltOf_cfA] at *
    rcases lessA_tot x.2 y.2 h1 with e1 | e1
    · rw [e1]; exact h2
    · rcases lessA_tot y.2 z.2 h2 with e2 | e2
      · rw [← e2]; exact h1
      · exact lessA_asym (lessA_tr z.2 y.2 x.2 e2 e1)
theorem cmpLaysA (blk off size : Nat) (w : World) : CmpLays Try.prog 42 #[] encA 2 cfA blk off size w := fun _ _ _ _ x y => cmpAngG x.1.1 x.1.2 y.1.1 y.1.2 _ (isAng_ok x.2) (isAng_ok y.2)
theorem okListA : ∀ l : List (Int × Int), (∀ p ∈ l, isAng p.1 p.2 = true) → ∃ L : List OkA, L.map (fun x => x.1) = l
  | [], _ => ⟨[], rfl⟩
  | p :: l, h => by
    obtain ⟨L, hL⟩ := okListA l (fun q hq => h q (List.mem_cons_of_mem _ hq))
    exact ⟨⟨p, h p (List.mem_cons_self ..)⟩ :: L, by simp [hL]⟩
theorem flatA_get {L : List OkA} {t : Nat} (h : t < L.length * 2) : (flatA (L.map fun x => x.1))[t]? = some (Go.Sort.flatK encA 2 L.toArray)[t]! := by
  rw [Go.Sort.get_flatK encA 2 L.toArray t (by simpa using h)]
  have hi : t / 2 < L.length := by omega
  have hx : (L.map fun x => x.1)[t / 2]? = some ((L[t / 2]).1.1, (L[t / 2]).1.2) := by
    rw [List.getElem?_map, List.getElem?_eq_getElem hi]; rfl
  obtain ⟨h0, h1⟩ := flatA_at hx
  have eL : L.toArray[t / 2]! = L[t / 2] := by rw [getElem!_pos _ _ (by simpa using hi)]; simp
  rw [eL]
  obtain ⟨y, hy⟩ : ∃ y, L[t / 2] = y := ⟨_, rfl⟩
  rw [hy] at h0 h1 ⊢
  have at' : ∀ k, t % 2 = k → (flatA (L.map fun x => x.1))[t]? = (flatA (L.map fun x => x.1))[t / 2 * 2 + k]? := fun k hk => congrArg (fun i => (flatA (L.map fun x => x.1))[i]?) (by omega)
  rcases (show t % 2 = 0 ∨ t % 2 = 1 by omega) with e | e
  · rw [at' 0 e, e]; exact h0
  · rw [at' 1 e, e]; exact h1

/-- The world behind a sort: the row holds the angles in their new order. -/
theorem sorted_ownA {w : World} {lo g n cap m : Nat} {l : List (Int × Int)} {D : List OkA} {os : Array Obj} (hlen : D.length = n)
    (h : w.ownsRow lo 32 2 (.slice (some ⟨g, 0, none⟩) n cap) n (flatA l)) :
    (sortWorldK encA 2 w g 0 m D.toArray os).ownsRow lo 32 2 (.slice (some ⟨g, 0, none⟩) n cap) n (flatA (D.map fun x => x.1)) ∧ Below lo w (sortWorldK encA 2 w g 0 m D.toArray os) := by
  obtain ⟨hx, h2⟩ := h
  rcases h2 with ⟨e, _⟩ | ⟨g', cap', cur, e, hlo, hc, hnc, hcm, hcs, htk⟩
  · cases e
  · obtain ⟨rfl, rfl⟩ : g = g' ∧ cap = cap' := by
      injection e with e1 e2 e3
      injection e1 with e1
      injection e1 with e1
      exact ⟨e1, e3⟩
    have hlt : g < w.heap.size := (Array.getElem?_eq_some_iff.1 hc).1
    have hh : (sortWorldK encA 2 w g 0 m D.toArray os).heap = w.heap.modify g (Go.Sort.onCells (Go.Sort.putCells id 0 (Go.Sort.flatK encA 2 D.toArray))) ++ os := rfl
    constructor
    · refine ⟨by rw [flatA_len, List.length_map, hlen], .inr ⟨g, cap, Go.Sort.putCells id 0 (Go.Sort.flatK encA 2 D.toArray) cur, rfl, hlo, ?_, hnc, hcm, ?_, ?_⟩⟩
      · rw [hh, Array.getElem?_append_left (by simpa using hlt), Array.getElem?_modify, if_pos rfl, hc]
        rfl
      · simp [Go.Sort.putCells, hcs]
      · apply List.ext_getElem?
        intro t
        rw [List.getElem?_take]
        by_cases ht : t < n * 2
        · rw [if_pos ht, flatA_get (by omega)]
          have hcap : n * 2 ≤ cap * 2 := Nat.mul_le_mul_right 2 hnc
          have htc : t < cur.size := by omega
          simp only [Go.Sort.putCells, Array.getElem?_toList, Array.getElem?_mapIdx]
          rw [Array.getElem?_eq_getElem htc, Option.map_some, if_pos ⟨Nat.zero_le _, by rw [Go.Sort.size_flatK]; simp; omega⟩]
          rfl
        · rw [if_neg ht, List.getElem?_eq_none (by rw [flatA_len, List.length_map]; omega)]
    · refine ⟨rfl, rfl, rfl, by rw [hh]; simp, fun k hk => ?_⟩
      rw [hh, Array.getElem?_append_left (by simp; omega), Array.getElem?_modify, if_neg (by omega)]

set_option maxHeartbeats 1000000 in
theorem implSortFn (lo : Nat) (A : Option Addr) (n cap : Nat) (l : List (Int × Int)) (W : World) (ho : W.ownsRow lo 32 2 (.slice A n cap) n (flatA l)) (hl : l.length = n) (hk : ∀ p ∈ l, isAng p.1 p.2 = true) (hn : n ≤ 1100000) :
    Calls Try.prog 63 #[.slice A n cap, .func (Fn.func 42) #[] #[]] W fun e w' => e = .returned (.tuple #[]) ∧ Hid (∃ l' : List (Int × Int), l'.Perm l ∧ (l'.Pairwise fun x y => lessA y x = false) ∧ w'.ownsRow lo 32 2 (.slice A n cap) n (flatA l') ∧ Below lo W w') := by
  rcases Nat.eq_zero_or_pos n with h0 | h0
  · subst h0
    obtain rfl : l = [] := List.eq_nil_of_length_eq_zero hl
    refine (Try.slices_SortFuncA_none A cap _ W).mono ?_
    rintro e w' ⟨rfl, rfl⟩
    exact ⟨rfl, Lib.hid ⟨[], List.Perm.refl _, List.Pairwise.nil, ho, Below.refl _ _⟩⟩
  · obtain ⟨g, c, hv, hlo, hg⟩ := ho.form h0
    obtain ⟨rfl, rfl⟩ : A = some ⟨g, 0, none⟩ ∧ cap = c := by injection hv with hA hn hc; exact ⟨hA, hc⟩
    obtain ⟨L, hL⟩ := okListA l hk
    have hLn : L.length = n := by rw [← hl, ← hL, List.length_map]
    have hH : Go.Sort.HoldsK encA 2 W g 0 L.toArray := by
      intro t ht
      rw [Go.Sort.size_flatK] at ht
      have ht' : t < L.length * 2 := by simpa using ht
      rw [Nat.zero_add]
      exact ⟨(ho.cellAt t (by omega)).trans (by rw [← hL]; exact flatA_get ht'), ho.frozenAt t⟩
    have hsz : L.toArray.size = n := by simpa using hLn
    have hcon := Try.slices_SortFuncA 2 Try.isAgg32 Try.sizeOf32 encA (fun _ => rfl) (fun x v hv => by simp [encA] at hv; rcases hv with rfl | rfl <;> rfl) cfA swoA 42 #[] g 0 cap L.toArray W (enters_of Try.func42 (by kernel_rfl) rfl) (cmpLaysA g 0 _ W) hH hg (by rw [hsz]; omega)
    rw [hsz] at hcon
    refine hcon.mono ?_
    rintro e w' ⟨rfl, d', m, os, hp, hs, rfl⟩
    obtain ⟨hz, _, hperm⟩ := hp
    have e1 : d'.extract 0 n = d' := by rw [← hsz, ← hz]; exact Array.extract_size
    have e2 : L.toArray.extract 0 n = L.toArray := by rw [← hsz]; exact Array.extract_size
    rw [e1, e2] at hperm
    have hp2 : d'.toList.Perm L := by simpa using hperm
    have hDn : d'.toList.length = n := by rw [← hLn]; exact hp2.length_eq
    have hd : d'.toList.toArray = d' := by simp
    have H := sorted_ownA (m := m) (os := os) hDn ho
    rw [hd] at H
    refine ⟨rfl, Lib.hid ⟨d'.toList.map (fun x => x.1), by rw [← hL]; exact hp2.map _, ?_, H.1, H.2⟩⟩
    rw [List.pairwise_map, List.pairwise_iff_getElem]
    intro i j hi hj hij
    have := hs i j (Nat.zero_le _) hij (by omega)
    rw [ltOf_cfA] at this
    rw [getElem!_pos d' i (by simpa using hi), getElem!_pos d' j (by simpa using hj)] at this
    simpa using this

theorem implSortA (A : Option Addr) (len cap : Nat) (l : List (Int × Int)) (w : World) (hr : AngRow w w.heap.size A l) (hl : l.length = len) (hm : len ≤ 1100000) (R : List (Int × Int)) (C : Int) (h : (allAng l = true ∧ R = insAll l ∧ C = 0) ∨ (allAng l = false ∧ R = [] ∧ C = 1)) :
    Calls Try.prog 61 #[.slice A len cap] w (ResAng w R C) := implSortA0 implSortFn A len cap l w hr hl hm R C h
end Go.Proofs.Ytnoaahkpcnkbnaa

/-
  Arcs between ascending numbers, and when two rows of numbers are linked (plain mathematics, no program in sight).
  Lists of sets of angles; contracts: whether they are in number and order as told, on both sides.
  Contracts: whether sets are in number and order as told (the model's).
-/
import Derived.Test.YtnoaahkpcnkbnaaQQ
namespace Go.Proofs.Ytnoaahkpcnkbnaa
open Go.RowKit

/-- Ascending numbers. -/
def UpI (f : Nat → Int) (m : Nat) : Prop := ∀ i j, i < j → j < m → f i < f j
/-- x lies in the arc from the number i forward to the next one. -/
def arcI (f : Nat → Int) (m i : Nat) (x : Int) : Prop := if f i < f ((i + 1) % m) then f i < x ∧ x < f ((i + 1) % m) else f i < x ∨ x < f ((i + 1) % m)
/-- All of g lie in one arc of f. -/
def InOne (f : Nat → Int) (m : Nat) (g : Nat → Int) (n : Nat) : Prop := ∃ i, i < m ∧ ∀ j, j < n → arcI f m i (g j)
/-- The numbers of g are in more than one arc of f. -/
def LinkI (f : Nat → Int) (m : Nat) (g : Nat → Int) (n : Nat) : Prop := ∃ i, i < m ∧ (∃ j, j < n ∧ arcI f m i (g j)) ∧ ∃ j, j < n ∧ ¬ arcI f m i (g j)
theorem arc_in {f : Nat → Int} {m i : Nat} {x : Int} (hf : UpI f m) (hi : i + 1 < m) : arcI f m i x ↔ f i < x ∧ x < f (i + 1) := by
  unfold arcI
  rw [Nat.mod_eq_of_lt hi, if_pos (hf i (i + 1) (by omega) hi)]
theorem arc_last {f : Nat → Int} {m i : Nat} {x : Int} (hf : UpI f m) (hi : i + 1 = m) : arcI f m i x ↔ f i < x ∨ x < f 0 := by
  unfold arcI
  rw [hi, Nat.mod_self]
  have h : ¬ f i < f 0 := by
    rcases Nat.eq_zero_or_pos i with e | e
    · subst e; omega
    · have := hf 0 i e (by omega); omega
  rw [if_neg h]
theorem up_le {f : Nat → Int} {m i j : Nat} (hf : UpI f m) (hij : i ≤ j) (hj : j < m) : f i ≤ f j := by
  rcases Nat.lt_or_ge i j with h | h
  · have := hf i j h hj; omega
  · have : i = j := by omega
    subst this; omega
theorem arc_between (f : Nat → Int) (x : Int) : ∀ m, f 0 < x → x < f m → (∀ i, i ≤ m → f i ≠ x) → ∃ i, i < m ∧ f i < x ∧ x < f (i + 1)
  | 0, h1, h2, _ => by omega
  | m + 1, h1, h2, h3 => by
    rcases Int.lt_or_le x (f m) with h | h
    · obtain ⟨i, hi, h4⟩ := arc_between f x m h1 h (fun i hi => h3 i (by omega))
      exact ⟨i, by omega, h4⟩
    · have := h3 m (by omega)
      exact ⟨m, by omega, by omega, h2⟩
theorem arc_some {f : Nat → Int} {m : Nat} {x : Int} (hf : UpI f m) (hm : 0 < m) (hx : ∀ i, i < m → f i ≠ x) : ∃ i, i < m ∧ arcI f m i x := by
  obtain ⟨k, rfl⟩ : ∃ k, m = k + 1 := ⟨m - 1, by omega⟩
  have h0 := hx 0 (by omega)
  have hk := hx k (by omega)
  by_cases h : f 0 < x ∧ x < f k
  · obtain ⟨i, hi, h1, h2⟩ := arc_between f x k h.1 h.2 (fun i hi => hx i (by omega))
    exact ⟨i, by omega, (arc_in hf (by omega)).2 ⟨h1, h2⟩⟩
  · refine ⟨k, by omega, (arc_last hf rfl).2 ?_⟩
    omega
theorem arc_one {f : Nat → Int} {m i j : Nat} {x : Int} (hf : UpI f m) (hi : i < m) (hj : j < m) (h1 : arcI f m i x) (h2 : arcI f m j x) : i = j := by
  rcases Nat.lt_or_ge (i + 1) m with a | a
  · rw [arc_in hf a] at h1
    rcases Nat.lt_or_ge (j + 1) m with b | b
    · rw [arc_in hf b] at h2
      rcases Nat.lt_trichotomy i j with c | c | c
      · have := up_le hf (show i + 1 ≤ j by omega) hj; omega
      · exact c
      · have := up_le hf (show j + 1 ≤ i by omega) hi; omega
    · rw [arc_last hf (by omega)] at h2
      have p := up_le hf (show i + 1 ≤ j by omega) hj
      have q := up_le hf (Nat.zero_le i) hi
      omega
  · rw [arc_last hf (by omega)] at h1
    rcases Nat.lt_or_ge (j + 1) m with b | b
    · rw [arc_in hf b] at h2
      have p := up_le hf (show j + 1 ≤ i by omega) hi
      have q := up_le hf (Nat.zero_le j) hj
      omega
    · omega
theorem inOne_link {f g : Nat → Int} {m n : Nat} (hf : UpI f m) (hm : 0 < m) (hn : 0 < n) (hd : ∀ i j, i < m → j < n → f i ≠ g j) : InOne f m g n ↔ ¬ LinkI f m g n := by
  constructor
  · rintro ⟨i, hi, h⟩ ⟨k, hk, ⟨j, hj, h1⟩, ⟨u, hu, h2⟩⟩
    have e := arc_one hf hi hk (h j hj) h1
    subst e
    exact h2 (h u hu)
  · intro h
    obtain ⟨i, hi, h0⟩ := arc_some (x := g 0) hf hm (fun i hi => hd i 0 hi hn)
    refine ⟨i, hi, fun j hj => Classical.byContradiction fun hc => h ⟨i, hi, ⟨0, hn, h0⟩, ⟨j, hj, hc⟩⟩⟩
theorem link_none {f g : Nat → Int} {m n : Nat} (hf : UpI f m) (h1 : m = 1) (hd : ∀ i j, i < m → j < n → f i ≠ g j) : ¬ LinkI f m g n := by
  rintro ⟨i, hi, -, ⟨j, hj, h⟩⟩
  refine h ((arc_last hf (by omega)).2 ?_)
  have := hd i j hi hj
  have e : i = 0 := by omega
  subst e
  omega
theorem inOne_sym {f g : Nat → Int} {m n : Nat} (hf : UpI f m) (hg : UpI g n) (hm : 0 < m) (hn : 0 < n) (hd : ∀ i j, i < m → j < n → f i ≠ g j) (h : InOne f m g n) : InOne g n f m := by
  obtain ⟨i, hi, h⟩ := h
  rcases Nat.lt_or_ge (i + 1) m with a | a
  · refine ⟨n - 1, by omega, fun u hu => (arc_last hg (by omega)).2 ?_⟩
    have h0 := (arc_in hf a).1 (h 0 hn)
    have h1 := (arc_in hf a).1 (h (n - 1) (by omega))
    rcases Nat.lt_or_ge i u with b | b
    · have := up_le hf (show i + 1 ≤ u by omega) hu
      left; omega
    · have := up_le hf b hi
      right; omega
  · have e : i + 1 = m := by omega
    have key : ∀ j, j < n → f i < g j ∨ g j < f 0 := fun j hj => (arc_last hf e).1 (h j hj)
    obtain ⟨k, hk, h0⟩ := arc_some (x := f 0) hg hn (fun j hj h => hd 0 j hm hj h.symm)
    refine ⟨k, hk, fun u hu => ?_⟩
    have p := up_le hf (Nat.zero_le u) hu
    have q := up_le hf (show u ≤ i by omega) hi
    rcases Nat.lt_or_ge (k + 1) n with b | b
    · rw [arc_in hg b] at h0 ⊢
      have := key (k + 1) b
      omega
    · rw [arc_last hg (by omega)] at h0 ⊢
      have := key 0 hn
      omega

/-- A common multiple of all Dens. -/
def facI : Nat → Int
  | 0 => 1
  | n + 1 => ((n + 1 : Nat) : Int) * facI n
theorem facI_pos : ∀ n, 0 < facI n
  | 0 => by simp [facI]
  | n + 1 => by unfold facI; exact Int.mul_pos (by omega) (facI_pos n)
theorem facI_dvd : ∀ (n d : Nat), 1 ≤ d → d ≤ n → (d : Int) ∣ facI n
  | 0, d, h1, h2 => by omega
  | n + 1, d, h1, h2 => by
    unfold facI
    rcases Nat.lt_or_ge d (n + 1) with h | h
    · exact Int.dvd_trans (facI_dvd n d h1 (by omega)) (Int.dvd_mul_left ..)
    · have : d = n + 1 := by omega
      subst this
      exact Int.dvd_mul_right ..
/-- An angle as a whole number, in the order of angles. -/
def keyA (F : Int) (p : Int × Int) : Int := p.1 * (F / p.2)
theorem key_less {F : Int} (hF : 0 < F) {x y : Int × Int} (hx : isAng x.1 x.2 = true) (hy : isAng y.1 y.2 = true) (dx : x.2 ∣ F) (dy : y.2 ∣ F) : lessA x y = true ↔ keyA F x < keyA F y := by
  obtain ⟨a1, -, -, -, -⟩ := isAng_yes hx
  obtain ⟨b1, -, -, -, -⟩ := isAng_yes hy
  obtain ⟨n, d⟩ := x
  obtain ⟨m, c⟩ := y
  obtain ⟨e, rfl⟩ := dx
  obtain ⟨f, hf⟩ := dy
  dsimp only at *
  unfold lessA ltA keyA
  dsimp only
  have q1 : d * e / d = e := Int.mul_ediv_cancel_left _ (by omega)
  have q2 : d * e / c = f := by rw [hf]; exact Int.mul_ediv_cancel_left _ (by omega)
  rw [q1, q2, decide_eq_true_eq]
  have dc : 0 < d * c := Int.mul_pos (by omega) (by omega)
  have e1 : n * e * (d * c) = n * c * (d * e) := by ac_rfl
  have e2 : m * f * (d * c) = m * d * (d * e) := by rw [hf]; ac_rfl
  constructor
  · intro h
    have := Int.mul_lt_mul_of_pos_right h hF
    rw [← e1, ← e2] at this
    exact Int.lt_of_mul_lt_mul_right this (by omega)
  · intro h
    have := Int.mul_lt_mul_of_pos_right h dc
    rw [e1, e2] at this
    exact Int.lt_of_mul_lt_mul_right this (by omega)
/-- There are whole numbers in the order of angles. -/
theorem key_ex : ∃ K : Int × Int → Int, ∀ x y : Int × Int, isAng x.1 x.2 = true → isAng y.1 y.2 = true → (lessA x y = true ↔ K x < K y) := by
  obtain ⟨F, hF, hd⟩ : ∃ F : Int, 0 < F ∧ ∀ d : Nat, 1 ≤ d → d ≤ 8191 → (d : Int) ∣ F := ⟨_, facI_pos 8191, fun d h1 h2 => facI_dvd 8191 d h1 h2⟩
  refine ⟨keyA F, fun x y hx hy => ?_⟩
  have h : ∀ x : Int × Int, isAng x.1 x.2 = true → x.2 ∣ F := fun x hx => by
    obtain ⟨a, b, -⟩ := isAng_yes hx
    have := hd x.2.toNat (by omega) (by omega)
    rwa [Int.toNat_of_nonneg (by omega)] at this
  exact key_less hF hx hy (h x hx) (h y hy)

/-- The set with the number i. -/
def gA (ls : List (List (Int × Int))) (i : Nat) : List (Int × Int) := ls.getD i []
theorem gA_some {ls : List (List (Int × Int))} {i : Nat} (h : i < ls.length) : ls[i]? = some (gA ls i) := by
  unfold gA
  rw [List.getD_eq_getElem?_getD, List.getElem?_eq_getElem h]
  rfl
theorem gA_mem {ls : List (List (Int × Int))} {i : Nat} (h : i < ls.length) : gA ls i ∈ ls := List.mem_of_getElem? (gA_some h)
theorem gA_of {ls : List (List (Int × Int))} {l : List (Int × Int)} (h : l ∈ ls) : ∃ i, i < ls.length ∧ gA ls i = l := by
  obtain ⟨i, hi, e⟩ := List.getElem_of_mem h
  refine ⟨i, hi, ?_⟩
  have := gA_some hi
  rw [List.getElem?_eq_getElem hi, e] at this
  injection this with this
  exact this.symm
/-- How many angles there are in the sets. -/
def totL : List (List (Int × Int)) → Nat
  | [] => 0
  | l :: ls => l.length + totL ls
theorem totL_app : ∀ (a b : List (List (Int × Int))), totL (a ++ b) = totL a + totL b
  | [], b => by simp [totL]
  | l :: a, b => by simp only [List.cons_append, totL, totL_app a b]; omega
theorem totL_take {ls : List (List (Int × Int))} {k : Nat} (h : k < ls.length) : totL (ls.take (k + 1)) = totL (ls.take k) + (gA ls k).length := by
  rw [List.take_add_one, gA_some h, Option.toList_some, totL_app]
  simp [totL]
theorem totL_le (ls : List (List (Int × Int))) (k : Nat) : totL (ls.take k) ≤ totL ls := by
  have := totL_app (ls.take k) (ls.drop k)
  rw [List.take_append_drop] at this
  omega
theorem len_tot {ls : List (List (Int × Int))} {i : Nat} (h : i < ls.length) : (gA ls i).length ≤ totL ls := by
  have h1 := totL_take h
  have h2 := totL_le ls (i + 1)
  omega

/-- A slice with the address A holds the sets, in a block below B, each set in a block below B. -/
def SetsRow (w : World) (B : Nat) (A : Option Addr) (ls : List (List (Int × Int))) : Prop :=
  ls ≠ [] → ∃ b off, A = some ⟨b, off, none⟩ ∧ b < B ∧ ∀ i, i < ls.length → ∃ Ai cap, w.cell? ⟨b, off + i, none⟩ = some (.slice Ai (gA ls i).length cap) ∧ AngRow w B Ai (gA ls i)
theorem SetsRow.below {w w' : World} {B : Nat} {A : Option Addr} {ls : List (List (Int × Int))} (h : SetsRow w B A ls) (hb : Below B w w') : SetsRow w' B A ls := by
  intro hl
  obtain ⟨b, off, e, hB, hc⟩ := h hl
  refine ⟨b, off, e, hB, fun i hi => ?_⟩
  obtain ⟨Ai, cap, h1, h2⟩ := hc i hi
  exact ⟨Ai, cap, (hb.cell (p := ⟨b, off + i, none⟩) hB).trans h1, h2.below hb⟩
theorem SetsRow.more {w : World} {B B' : Nat} {A : Option Addr} {ls : List (List (Int × Int))} (h : SetsRow w B A ls) (hB : B ≤ B') : SetsRow w B' A ls := by
  intro hl
  obtain ⟨b, off, e, h1, hc⟩ := h hl
  refine ⟨b, off, e, by omega, fun i hi => ?_⟩
  obtain ⟨Ai, cap, h2, h3⟩ := hc i hi
  exact ⟨Ai, cap, h2, h3.more hB⟩
theorem SetsRow.next {w w' : World} {A : Option Addr} {ls : List (List (Int × Int))} (h : SetsRow w w.heap.size A ls) (hb : Below w.heap.size w w') : SetsRow w' w'.heap.size A ls := (h.below hb).more hb.size
theorem SetsRow.form {w : World} {B : Nat} {A : Option Addr} {ls : List (List (Int × Int))} (h : SetsRow w B A ls) {k : Nat} (hk : k < ls.length) : ∃ b off, A = some ⟨b, off, none⟩ ∧ b < B ∧ ∀ i, i < ls.length → ∃ Ai cap, w.cell? ⟨b, off + i, none⟩ = some (.slice Ai (gA ls i).length cap) ∧ AngRow w B Ai (gA ls i) :=
  h (by rintro rfl; simp at hk)

/-- Sets in number and order as told. -/
def ShapeS (ls : List (List (Int × Int))) : Prop := 0 < ls.length ∧ ls.length ≤ 12 ∧ totL ls ≤ 64 ∧ ∀ l ∈ ls, 0 < l.length ∧ AscQ l
def CodeP (ls : List (List (Int × Int))) (C : Int) : Prop :=
  (C = 1 ∧ ∃ l ∈ ls, allAng l = false) ∨ (C = 2 ∧ (∀ l ∈ ls, allAng l = true) ∧ ¬ ShapeS ls) ∨ (C = 0 ∧ (∀ l ∈ ls, allAng l = true) ∧ ShapeS ls)
theorem code_one {ls : List (List (Int × Int))} {C D : Int} (h : CodeP ls C) (g : CodeP ls D) : C = D := by
  rcases h with ⟨rfl, l, hl, h1⟩ | ⟨rfl, h1, h2⟩ | ⟨rfl, h1, h2⟩
  · rcases g with ⟨rfl, _⟩ | ⟨_, g1, _⟩ | ⟨_, g1, _⟩
    · rfl
    · rw [g1 l hl] at h1; cases h1
    · rw [g1 l hl] at h1; cases h1
  · rcases g with ⟨rfl, l, hl, g1⟩ | ⟨rfl, g1, _⟩ | ⟨_, g1, g2⟩
    · rw [h1 l hl] at g1; cases g1
    · rfl
    · exact absurd g2 h2
  · rcases g with ⟨rfl, l, hl, g1⟩ | ⟨_, g1, g2⟩ | ⟨rfl, g1, g2⟩
    · rw [h1 l hl] at g1; cases g1
    · exact absurd h2 g2
    · rfl
theorem code_ex (ls : List (List (Int × Int))) : ∃ C, CodeP ls C := by
  by_cases h : ∀ l ∈ ls, allAng l = true
  · by_cases g : ShapeS ls
    · exact ⟨0, .inr (.inr ⟨rfl, h, g⟩)⟩
    · exact ⟨2, .inr (.inl ⟨rfl, h, g⟩)⟩
  · refine ⟨1, .inl ⟨rfl, ?_⟩⟩
    refine Classical.byContradiction fun hn => h fun l hl => ?_
    cases e : allAng l
    · exact absurd ⟨l, hl, e⟩ hn
    · rfl
/-- What tells the code of sets. -/
def ResCode (w : World) (ls : List (List (Int × Int))) (e : Ending) (w' : World) : Prop := (∃ C : Int, e = .returned (.int .i64 C) ∧ Hid (CodeP ls C)) ∧ Below w.heap.size w w'
theorem take_all {P : List (Int × Int) → Prop} {ls : List (List (Int × Int))} {k : Nat} (hk : k < ls.length) (h : ∀ l ∈ ls.take k, P l) (g : P (gA ls k)) : ∀ l ∈ ls.take (k + 1), P l := by
  intro l hl
  rw [List.take_add_one, gA_some hk, Option.toList_some, List.mem_append] at hl
  rcases hl with hl | hl
  · exact h l hl
  · rw [List.mem_singleton] at hl; subst hl; exact g
theorem take_done {P : List (Int × Int) → Prop} {ls : List (List (Int × Int))} {k : Nat} (hk : ls.length ≤ k) (h : ∀ l ∈ ls.take k, P l) : ∀ l ∈ ls, P l := by
  rw [List.take_of_length_le hk] at h; exact h

set_option maxRecDepth 8000 in
set_option maxHeartbeats 2000000 in
theorem implCode (A : Option Addr) (n cap : Nat) (ls : List (List (Int × Int))) (w : World) (hr : SetsRow w w.heap.size A ls) (hn : ls.length = n) (hm : n ≤ 1100000) (ht : totL ls ≤ 1100000) :
    Calls Try.prog 47 #[.slice A n cap] w (ResCode w ls) := by
  have HR := Lib.hid hr
  have HN := Lib.hid hn
  have HTt := Lib.hid ht
  clear hr hn ht
  go_enter Try.func47, Try.ntmps47
  go_wp2
  go_loopw [3, 5, 10] (fun c _ i wr => ∃ k : Nat, k ≤ n ∧ i = .int .i64 k ∧ c = .int .i64 (totL (ls.take k) : Nat) ∧ Hid (∀ l ∈ ls.take k, allAng l = true) ∧ Below w.heap.size w wr) (fun _ _ i _ => n - (intOf i).toNat)
  case atStart => exact ⟨0, by omega, rfl, by simp [totL], Lib.hid (fun l hl => by simp at hl), Below.refl _ _⟩
  case round =>
    obtain ⟨k, hk, rfl, rfl, HY, hbe⟩ := hrel
    by_cases hlt : k < n
    · have hkl : k < ls.length := by have := HN.out; omega
      obtain ⟨b, off, rfl, hbb, hc⟩ := HR.out.form hkl
      obtain ⟨Ai, ci, x0, hrow⟩ := hc k hkl
      have x0 := cellThru hbe hbb x0
      have hle := len_tot hkl
      have hTt := HTt.out
      have HA := Lib.hid (fun W (hB : Below w.heap.size w W) => areAng Ai (gA ls k).length ci (gA ls k) W ((hrow.below hB).more hB.size) rfl (by omega))
      have HT : Hid (totL (ls.take (k + 1)) = totL (ls.take k) + (gA ls k).length) := Lib.hid (totL_take hkl)
      have HS := Lib.hid (fun (h : ∀ l ∈ ls.take k, allAng l = true) (g : allAng (gA ls k) = true) => take_all hkl h g)
      have HMem := Lib.hid (gA_mem hkl)
      have htk := totL_le ls k
      obtain ⟨len, hlen⟩ : ∃ len, (gA ls k).length = len := ⟨_, rfl⟩
      rw [hlen] at HA x0 hle HT
      generalize totL (ls.take k) = c at *
      clear hc hrow hlen
      have hw : IntKind.i64.wrap ((c : Int) + (len : Int)) = ((c + len : Nat) : Int) := by rw [show ((c + len : Nat) : Int) = (c : Int) + (len : Int) by omega]; exact IntWalk.i64_in _ (by omega)
      clear hTt
      cases ha : allAng (gA ls k)
      · rw [ha] at HA
        have HE := Lib.hid ha
        clear ha
        go_wp2_with fail
        refine (HA.out _ hbe).mono ?_
        rintro e w1 ⟨rfl, hb1⟩
        go_wp2
        go_ret
        exact ⟨⟨1, rfl, Lib.hid (.inl ⟨rfl, _, HMem.out, HE.out⟩)⟩, belowNext hbe hb1⟩
      · rw [ha] at HA
        have HE := Lib.hid (HS.out HY.out ha)
        clear ha
        go_wp2_with fail
        refine (HA.out _ hbe).mono ?_
        rintro e w1 ⟨rfl, hb1⟩
        have B1 := belowNext hbe hb1
        clear hbe hb1 x0
        go_wp2
        go_roundw
        case rel => exact ⟨k + 1, by omega, by go_num, by rw [HT.out]; rfl, HE, B1⟩
        case measure => simp [intOf]; omega
    · obtain rfl : k = n := by omega
      have HAll : Hid (∀ l ∈ ls, allAng l = true) := Lib.hid (take_done (by have := HN.out; omega) HY.out)
      have e : ls.take k = ls := List.take_of_length_le (by have := HN.out; omega)
      rw [e]
      clear e HY
      obtain ⟨T, hT⟩ : ∃ T, totL ls = T := ⟨_, rfl⟩
      have HTe := Lib.hid hT
      have hT2 : T ≤ 1100000 := by rw [← hT]; exact HTt.out
      rw [hT]
      clear hT HTt
      have hnot : (k = 0 ∨ 12 < k ∨ 64 < T) → ¬ ShapeS ls := fun h g => by
        have e1 := HN.out
        have e2 := HTe.out
        obtain ⟨g1, g2, g3, -⟩ := g
        omega
      by_cases h0 : k = 0
      · have d0 : ((k : Int) == 0) = true := by simp; omega
        have HNo := Lib.hid (hnot (.inl h0))
        clear hnot
        go_wp2
        go_ret
        exact ⟨⟨2, rfl, Lib.hid (.inr (.inl ⟨rfl, HAll.out, HNo.out⟩))⟩, hbe⟩
      · have d0 : ((k : Int) == 0) = false := by simp; omega
        have d0' : ¬ (k : Int) = 0 := by omega
        by_cases h12 : 12 < k
        · have d1 : (12 : Int) < (k : Int) := by omega
          have HNo := Lib.hid (hnot (.inr (.inl h12)))
          clear hnot
          go_wp2
          go_ret
          exact ⟨⟨2, rfl, Lib.hid (.inr (.inl ⟨rfl, HAll.out, HNo.out⟩))⟩, hbe⟩
        · have d1 : ¬ (12 : Int) < (k : Int) := by omega
          by_cases h64 : 64 < T
          · have d2 : (64 : Int) < (T : Int) := by omega
            have HNo := Lib.hid (hnot (.inr (.inr h64)))
            clear hnot
            go_wp2
            go_ret
            exact ⟨⟨2, rfl, Lib.hid (.inr (.inl ⟨rfl, HAll.out, HNo.out⟩))⟩, hbe⟩
          · have d2 : ¬ (64 : Int) < (T : Int) := by omega
            clear hnot
            go_wp2
            go_loopw [7, 36] (fun _ i wr => ∃ j : Nat, j ≤ k ∧ i = .int .i64 j ∧ Hid (∀ l ∈ ls.take j, 0 < l.length ∧ AscQ l) ∧ Below w.heap.size w wr) (fun _ i _ => k - (intOf i).toNat)
            case atStart => exact ⟨0, by omega, rfl, Lib.hid (fun l hl => by simp at hl), hbe⟩
            case round =>
              clear hbe
              obtain ⟨j, hj, rfl, HY, hbe⟩ := hrel
              by_cases hlt : j < k
              · have hkl : j < ls.length := by have := HN.out; omega
                obtain ⟨b, off, rfl, hbb, hc⟩ := HR.out.form hkl
                obtain ⟨Ai, ci, x0, hrow⟩ := hc j hkl
                have x0 := cellThru hbe hbb x0
                have hle := len_tot hkl
                have hTe := HTe.out
                have HI := Lib.hid (fun W (hB : Below w.heap.size w W) => implIsSet Ai (gA ls j).length ci (gA ls j) W ((hrow.below hB).more hB.size) rfl (by omega) (HAll.out _ (gA_mem hkl)))
                have HS := Lib.hid (fun (h : ∀ l ∈ ls.take j, 0 < l.length ∧ AscQ l) (g : 0 < (gA ls j).length ∧ AscQ (gA ls j)) => take_all hkl h g)
                have HMem := Lib.hid (gA_mem hkl)
                generalize gA ls j = l at *
                obtain ⟨len, hlen⟩ : ∃ len, l.length = len := ⟨_, rfl⟩
                rw [hlen] at HI x0
                have HLn := Lib.hid hlen
                clear hc hrow hlen hle hTe
                go_wp2_with fail
                refine (HI.out _ hbe).mono ?_
                rintro e w1 ⟨⟨r, rfl, HE⟩, hb1⟩
                have B1 := belowNext hbe hb1
                clear hbe hb1 x0
                cases r
                · have HNo : Hid (¬ ShapeS ls) := Lib.hid (fun g => by
                    have g2 := g.2.2.2 _ HMem.out
                    rw [HLn.out] at g2
                    have := HE.out.2 g2; cases this)
                  go_wp2
                  go_ret
                  exact ⟨⟨2, rfl, Lib.hid (.inr (.inl ⟨rfl, HAll.out, HNo.out⟩))⟩, B1⟩
                · have HE2 := Lib.hid (HS.out HY.out (by rw [HLn.out]; exact HE.out.1 rfl))
                  go_wp2
                  go_roundw
                  case rel => exact ⟨j + 1, by omega, by go_num, HE2, B1⟩
                  case measure => simp [intOf]; omega
              · obtain rfl : j = k := by omega
                have HNo : Hid (ShapeS ls) := Lib.hid ⟨by have := HN.out; omega, by have := HN.out; omega, by have := HTe.out; omega, take_done (by have := HN.out; omega) HY.out⟩
                go_wp2
                go_ret
                exact ⟨⟨0, rfl, Lib.hid (.inr (.inr ⟨rfl, HAll.out, HNo.out⟩))⟩, hbe⟩

end Go.Proofs.Ytnoaahkpcnkbnaa

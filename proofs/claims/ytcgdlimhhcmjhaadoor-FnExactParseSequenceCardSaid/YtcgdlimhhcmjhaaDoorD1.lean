/-
  Contracts: words that have only letters; what a sequence is.
-/
import Derived.Test.YtcgdlimhhcmjhaaDoorS6
import Derived.Lib.SlTrimSet
import Derived.Shelf.Strings.SlTrimAscii
namespace Go.Proofs.YtcgdlimhhcmjhaaDoor
open Go.RowKit

theorem dw_nil (p : UInt8 → Bool) : ∀ l : Wd, l.dropWhile p = [] ↔ l.all p = true
  | [] => by simp
  | a :: l => by
    rw [List.dropWhile_cons, List.all_cons]
    cases h : p a
    · simp
    · simpa using dw_nil p l
theorem dw_all (p : UInt8 → Bool) : ∀ l : Wd, (l.dropWhile p).all p = true → l.dropWhile p = []
  | [], _ => rfl
  | a :: l, h => by
    rw [List.dropWhile_cons] at h ⊢
    cases ha : p a
    · rw [ha] at h
      simp [ha] at h
    · rw [ha] at h
      simpa using dw_all p l (by simpa using h)
theorem isLet_mem (c : UInt8) : ([48, 49, 42] : List UInt8).contains c = isLet c := by
  rw [Bool.eq_iff_iff]
  simp [isLet, or_assoc]
theorem trim_nil (l : Wd) : Lib.trimS l [48, 49, 42] = [] ↔ lets l = true := by
  unfold Lib.trimS Lib.trimLeftS Lib.trimRightS lets
  have hp : (fun c : UInt8 => ([48, 49, 42] : List UInt8).contains c) = isLet := funext isLet_mem
  rw [hp, dw_nil, List.all_reverse]
  constructor
  · intro h
    have h2 := dw_all isLet l.reverse h
    have h3 := (dw_nil isLet _).1 h2
    rwa [List.all_reverse] at h3
  · intro h
    have : l.reverse.dropWhile isLet = [] := (dw_nil isLet _).2 (by rw [List.all_reverse]; exact h)
    rw [this]; rfl

theorem implOnly (x : Wd) (w : World) (hx : x.length ≤ 1048576) :
    Calls Tryd.prog 16 #[.string (bs x)] w fun e w' => e = .returned (.bool (lets x)) ∧ Below w.heap.size w w' := by
  have HT := Lib.hid (fun w => Tryd.strings_Trim (bs x) ⟨#[48, 49, 42]⟩ w (by rw [bs_size]; omega) (by decide) (ascii_of_all (by decide)))
  rw [bs_data] at HT
  have hn := trim_nil x
  obtain ⟨T, hT⟩ : ∃ T, Lib.trimS x [48, 49, 42] = T := ⟨_, rfl⟩
  have hT' : Lib.trimS x (⟨#[48, 49, 42]⟩ : ByteArray).data.toList = T := hT
  rw [hT'] at HT
  rw [hT] at hn
  have htl : (⟨T.toArray⟩ : ByteArray).toList = T := bs_toList T
  have hb : (T == []) = lets x := by
    cases h : lets x
    · rw [h] at hn; simpa using hn
    · rw [h] at hn; simpa using hn
  have hb1 : T.isEmpty = lets x := by rw [← hb]; cases T <;> rfl
  have hb2 : (T = []) = (lets x = true) := propext hn
  clear hT hT' hn
  generalize lets x = L at *
  go_enter Tryd.func16, Tryd.ntmps16
  go_wp2_with fail
  refine (HT.out _).mono ?_
  rintro e w1 ⟨rfl, hb3⟩
  go_wp2
  go_ret
  exact ⟨rfl, hb3⟩

theorem lets_take {x : Wd} {k : Nat} (hk : k < x.length) : lets (x.take (k + 1)) = (lets (x.take k) && isLet (x.getD k 0)) := by
  unfold lets
  rw [List.take_add_one, List.all_append, gd_at x hk, List.getElem?_eq_getElem hk]
  simp
theorem lets_no {x : Wd} {k : Nat} (hk : k < x.length) (h : isLet (x.getD k 0) = false) : lets x = false := by
  unfold lets
  rw [Bool.eq_false_iff]
  intro ha
  rw [List.all_eq_true] at ha
  have := ha (x.getD k 0) (by rw [gd_at x hk]; exact List.getElem_mem hk)
  rw [h] at this; cases this
theorem let_int (c : UInt8) : (((c.toNat : Int) == 48) = (c == 48)) ∧ (((c.toNat : Int) == 49) = (c == 49)) ∧ (((c.toNat : Int) == 42) = (c == 42)) :=
  ⟨byte_eq c 48, byte_eq c 49, byte_eq c 42⟩

set_option maxHeartbeats 1000000 in
theorem specLetters (x : Wd) (w : World) (hx : x.length ≤ 1048576) :
    Calls Tryd.prog 19 #[.string (bs x)] w fun e w' => e = .returned (.bool (lets x)) ∧ Below w.heap.size w w' := by
  have hlen := fun W => lenS 9 3 x Tryd.underlying9 W
  obtain ⟨n, hn⟩ : ∃ n, x.length = n := ⟨_, rfl⟩
  have HN := Lib.hid hn
  rw [hn] at hlen hx
  clear hn
  go_enter Tryd.func19, Tryd.ntmps19
  go_wp2
  go_loopw [3] (fun i wr => ∃ k : Nat, k ≤ n ∧ i = .int .i64 k ∧ Hid (lets (x.take k) = true ∧ ∃ j, wr = w.drewN j)) (fun i _ => n - (intOf i).toNat)
  case atStart => exact ⟨0, by omega, rfl, Lib.hid ⟨rfl, 0, rfl⟩⟩
  case round =>
    obtain ⟨k, hk, rfl, H⟩ := hrel
    obtain ⟨j, hj⟩ := H.out.2
    subst hj
    by_cases hlt : k < n
    · have x1 := fun W => idxS x k (k : Int) (by rw [HN.out]; omega) rfl W
      obtain ⟨v, hv⟩ : ∃ v, ((x.getD k 0).toNat : Int) = v := ⟨_, rfl⟩
      simp only [hv] at x1
      obtain ⟨l1, l2, l3⟩ := let_int (x.getD k 0)
      rw [hv] at l1 l2 l3
      have HT := Lib.hid (lets_take (x := x) (k := k) (by rw [HN.out]; exact hlt))
      clear hv
      have fin : ∀ c : UInt8, (x.getD k 0 == c) = true → isLet c = true → Hid (lets (x.take (k + 1)) = true) := fun c hc hl => Lib.hid (by
        rw [HT.out, H.out.1, Bool.true_and, eq_of_beq hc]; exact hl)
      cases hl : isLet (x.getD k 0)
      · have HL : Hid (lets x = false) := Lib.hid (lets_no (by rw [HN.out]; exact hlt) hl)
        have hl' : (x.getD k 0 == 48) = false ∧ (x.getD k 0 == 49) = false ∧ (x.getD k 0 == 42) = false := by
          unfold isLet at hl; simp only [Bool.or_eq_false_iff] at hl; exact ⟨hl.1.1, hl.1.2, hl.2⟩
        rw [hl'.1] at l1
        rw [hl'.2.1] at l2
        rw [hl'.2.2] at l3
        have m1 : (v != 48) = true := by simpa using l1
        have m2 : (v != 49) = true := by simpa using l2
        have m3 : (v != 42) = true := by simpa using l3
        have n1 : (v = 48) = False := by simpa using l1
        have n2 : (v = 49) = False := by simpa using l2
        have n3 : (v = 42) = False := by simpa using l3
        clear hl hl' HT fin
        go_wp2
        go_ret
        exact ⟨by rw [HL.out]; rfl, below_drewN (Below.refl _ _) _⟩
      · clear HT
        have hcase : (v = 48 ∧ Hid (lets (x.take (k + 1)) = true)) ∨ (v = 49 ∧ Hid (lets (x.take (k + 1)) = true)) ∨ (v = 42 ∧ Hid (lets (x.take (k + 1)) = true)) := by
          unfold isLet at hl
          cases e1 : (x.getD k 0 == 48)
          · cases e2 : (x.getD k 0 == 49)
            · have e3 : (x.getD k 0 == 42) = true := by rw [e1, e2] at hl; simpa using hl
              exact .inr (.inr ⟨by rw [e3] at l3; simpa using l3, fin 42 e3 rfl⟩)
            · exact .inr (.inl ⟨by rw [e2] at l2; simpa using l2, fin 49 e2 rfl⟩)
          · exact .inl ⟨by rw [e1] at l1; simpa using l1, fin 48 e1 rfl⟩
        clear l1 l2 l3 fin hl
        rcases hcase with ⟨rfl, HT⟩ | ⟨rfl, HT⟩ | ⟨rfl, HT⟩
        all_goals
          go_wp2
          go_roundw
          case rel => exact ⟨k + 1, by omega, by go_num, Lib.hid ⟨HT.out, _, rfl⟩⟩
          case measure => simp [intOf]; omega
    · obtain rfl : k = n := by omega
      have HL : Hid (lets x = true) := Lib.hid (by
        have := H.out.1
        rwa [← HN.out, List.take_length] at this)
      go_wp2
      go_ret
      exact ⟨by rw [HL.out]; rfl, below_drewN (Below.refl _ _) _⟩

theorem eqlSq (a b c d : Wd) (W : World) : (binOp .eql 23 (sqV a b) (sqV c d)).run Tryd.prog W = .ok (.bool ((a, b) == (c, d))) W := by
  by_cases h1 : a = c
  · by_cases h2 : b = d
    · subst h1 h2
      simp [go_sem, sqV]
    · subst h1
      simp [go_sem, sqV, bs_toList, h2]
  · simp [go_sem, sqV, bs_toList, h1]

/-- What is kept through a region: the box of a sequence. -/
theorem keepQ {w W w1 : World} {x y : Wd} (hb : Below W.heap.size W w1) (h : w.heap.size < W.heap.size ∧ Below w.heap.size w W ∧ W.cell? ⟨w.heap.size, 0, none⟩ = some (.string (bs x)) ∧ W.cell? ⟨w.heap.size, 1, none⟩ = some (.string (bs y))) :
    w.heap.size < w1.heap.size ∧ Below w.heap.size w w1 ∧ w1.cell? ⟨w.heap.size, 0, none⟩ = some (.string (bs x)) ∧ w1.cell? ⟨w.heap.size, 1, none⟩ = some (.string (bs y)) := by
  obtain ⟨h1, h2, h3, h4⟩ := h
  exact ⟨Nat.lt_of_lt_of_le h1 hb.size, belowNext h2 hb, cellThru hb h1 h3, cellThru hb h1 h4⟩
theorem keepQ0 {w : World} {x y : Wd} {T : TypeId} : w.heap.size < (w.alloc (.cells #[.string (bs x), .string (bs y)] T)).heap.size ∧ Below w.heap.size w (w.alloc (.cells #[.string (bs x), .string (bs y)] T)) ∧ (w.alloc (.cells #[.string (bs x), .string (bs y)] T)).cell? ⟨w.heap.size, 0, none⟩ = some (.string (bs x)) ∧ (w.alloc (.cells #[.string (bs x), .string (bs y)] T)).cell? ⟨w.heap.size, 1, none⟩ = some (.string (bs y)) := by
  refine ⟨by simp, belowAlloc (Below.refl _ _) _, by simp [go_sem], by simp [go_sem]⟩
theorem isSeq_parts (x y : Wd) : isSeq x y = (lets x && (lets y && (decide (0 < y.length) && (decide (x.length + y.length ≤ 64) && (canon x y == (x, y)))))) := by
  unfold isSeq
  simp only [Bool.and_assoc]
end Go.Proofs.YtcgdlimhhcmjhaaDoor

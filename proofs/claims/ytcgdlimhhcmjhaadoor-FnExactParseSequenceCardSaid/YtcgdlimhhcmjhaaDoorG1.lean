/-
  Contracts: ParseSequence, as the program makes it; written by genG1.py.
-/
import Derived.Test.YtcgdlimhhcmjhaaDoorD2
import Derived.Test.YtcgdlimhhcmjhaaDoorD3
import Derived.Test.YtcgdlimhhcmjhaaDoorShelfB
import Derived.Test.YtcgdlimhhcmjhaaDoorShelfC
namespace Go.Proofs.YtcgdlimhhcmjhaaDoor
open Go.RowKit

/-- The text of the sequence of a and p. -/
def PsG (l a p : Wd) : Prop := l = a ++ 40 :: (p ++ [41]) ∧ isSeq a p = true
/-- What ParseSequence answers. -/
def PsIs (l X Y : Wd) (C : Int) : Prop := (PsG l X Y ∧ C = 0) ∨ ((∀ a p, ¬ PsG l a p) ∧ X = [] ∧ Y = [] ∧ C = 6)
theorem ps_ex (l : Wd) : ∃ X Y C, PsIs l X Y C := by
  by_cases h : ∃ a p, PsG l a p
  · obtain ⟨a, p, h⟩ := h
    exact ⟨a, p, 0, .inl ⟨h, rfl⟩⟩
  · exact ⟨[], [], 6, .inr ⟨fun a p hp => h ⟨a, p, hp⟩, rfl, rfl, rfl⟩⟩
theorem lets_40 {x : Wd} (h : lets x = true) (i : Nat) : x[i]? ≠ some (40 : UInt8) := by
  intro e
  unfold lets at h
  rw [List.all_eq_true] at h
  have := h 40 (List.mem_of_getElem? e)
  exact absurd this (by decide)
theorem cut_hit {l a r : Wd} (hl : l = a ++ 40 :: r) (ha : ∀ i : Nat, a[i]? ≠ some (40 : UInt8)) : Lib.cut l [40] = (a, r, true) := by
  have h0 : l[a.length]? = some 40 := by rw [hl, List.getElem?_append_right (by omega)]; simp
  have hi : Lib.index l [40] = (a.length : Int) := by
    rw [Lib.index_one]
    have hge := Lib.indexByte_ge l 40
    by_cases hm : Lib.indexByte l 40 = -1
    · exact absurd h0 (Lib.indexByte_none hm _)
    · obtain ⟨i, hi⟩ : ∃ i : Nat, Lib.indexByte l 40 = i := ⟨(Lib.indexByte l 40).toNat, by omega⟩
      obtain ⟨h1, h2⟩ := Lib.indexByte_some hi
      rcases Nat.lt_trichotomy i a.length with h3 | h3 | h3
      · rw [hl, List.getElem?_append_left h3] at h1
        exact absurd h1 (ha i)
      · rw [hi, h3]
      · exact absurd h0 (h2 _ h3)
  unfold Lib.cut
  rw [hi, if_pos (by omega), Int.toNat_natCast, hl]
  simp
theorem cut_cases (l : Wd) : ((∀ i : Nat, l[i]? ≠ some (40 : UInt8)) ∧ Lib.cut l [40] = (l, [], false)) ∨ (∃ a r, l = a ++ 40 :: r ∧ Lib.cut l [40] = (a, r, true)) := by
  have hge := Lib.indexByte_ge l 40
  by_cases hm : Lib.indexByte l 40 = -1
  · refine .inl ⟨fun i => Lib.indexByte_none hm i, ?_⟩
    unfold Lib.cut
    rw [Lib.index_one, hm, if_neg (by omega)]
  · obtain ⟨i, hi⟩ : ∃ i : Nat, Lib.indexByte l 40 = i := ⟨(Lib.indexByte l 40).toNat, by omega⟩
    obtain ⟨h1, h2⟩ := Lib.indexByte_some hi
    have hlt : i < l.length := by
      rcases Nat.lt_or_ge i l.length with h3 | h3
      · exact h3
      · rw [List.getElem?_eq_none h3] at h1; cases h1
    have hl : l = l.take i ++ 40 :: l.drop (i + 1) := by
      rw [List.getElem?_eq_getElem hlt] at h1
      have e1 : l.drop i = 40 :: l.drop (i + 1) := by rw [List.drop_eq_getElem_cons hlt, Option.some.inj h1]
      rw [← e1, List.take_append_drop]
    exact .inr ⟨_, _, hl, cut_hit hl (fun j e => by
      rw [List.getElem?_take] at e
      split at e
      · rename_i hj; exact h2 j hj e
      · cases e)⟩
/-- What lies ahead of the first "(". -/
theorem cut_no {l a r : Wd} (hl : l = a ++ 40 :: r) (hc : Lib.cut l [40] = (a, r, true)) : ∀ i : Nat, a[i]? ≠ some (40 : UInt8) := by
  intro i e
  have hlt : i < a.length := by
    rcases Nat.lt_or_ge i a.length with h | h
    · exact h
    · rw [List.getElem?_eq_none h] at e; cases e
  rcases Nat.lt_or_ge (Lib.indexByte l 40).toNat a.length with h | h
  · unfold Lib.cut at hc
    rw [Lib.index_one] at hc
    split at hc
    · injection hc with h1 _
      have := congrArg List.length h1
      rw [List.length_take] at this
      have : l.length = a.length + (r.length + 1) := by rw [hl]; simp
      omega
    · injection hc with _ h2
      injection h2 with _ h3
      cases h3
  · have hge := Lib.indexByte_ge l 40
    have h0 : l[i]? = some 40 := by rw [hl, List.getElem?_append_left hlt]; exact e
    by_cases hm : Lib.indexByte l 40 = -1
    · exact absurd h0 (Lib.indexByte_none hm _)
    · obtain ⟨o, ho⟩ : ∃ o : Nat, Lib.indexByte l 40 = o := ⟨(Lib.indexByte l 40).toNat, by omega⟩
      exact absurd h0 ((Lib.indexByte_some ho).2 _ (by rw [ho] at h; simp at h; omega))
theorem suf_cases (r : Wd) : (Lib.hasSuffix r [41] = false ∧ ∀ p, r ≠ p ++ [41]) ∨ (∃ p, r = p ++ [41] ∧ Lib.hasSuffix r [41] = true ∧ Lib.trimSuffix r [41] = p) := by
  cases h : Lib.hasSuffix r [41]
  · refine .inl ⟨rfl, fun p e => ?_⟩
    have : Lib.hasSuffix r [41] = true := by unfold Lib.hasSuffix; rw [List.isSuffixOf_iff_suffix]; exact ⟨p, e.symm⟩
    rw [h] at this; cases this
  · have h' := h
    unfold Lib.hasSuffix at h'
    rw [List.isSuffixOf_iff_suffix] at h'
    obtain ⟨p, hp⟩ := h'
    refine .inr ⟨p, hp.symm, rfl, ?_⟩
    unfold Lib.trimSuffix
    rw [h, if_pos rfl, ← hp]
    simp
theorem trim_le (r : Wd) : (Lib.trimSuffix r [41]).length ≤ r.length := by
  unfold Lib.trimSuffix
  split
  · rw [List.length_take]; omega
  · omega
theorem psG_cut {l a p : Wd} (h : PsG l a p) : Lib.cut l [40] = (a, p ++ [41], true) := by
  obtain ⟨h1, -, -, -, -⟩ := isSeq_yes h.2
  exact cut_hit h.1 (lets_40 h1)

/-- The variable of the library's own, as the contract of Cut asks it. -/
def LibP (W : World) : Prop := ∃ m : Int, W.cell? ⟨Tryd.laysM145_ren.g 1, 0, none⟩ = some (.int .i64 m)
theorem libP_of {W : World} (h : W.ShapedOpen Tryd.prog) : LibP W := Tryd.laysM145.s1_3 W h
theorem cellLtP {W : World} {p : Addr} {v : Value} (h : W.cell? p = some v) : p.block < W.heap.size := by
  rcases Nat.lt_or_ge p.block W.heap.size with h1 | h1
  · exact h1
  · unfold World.cell? at h
    rw [Array.getElem?_eq_none h1] at h
    cases h
theorem LibP.on {W W1 : World} (h : LibP W) (hb : Below W.heap.size W W1) : LibP W1 := by
  obtain ⟨m, hm⟩ := h
  exact ⟨m, cellThru hb (cellLtP hm) hm⟩
theorem cutC (l : Wd) (hl : l.length ≤ 1048576) (w : World) (hg : LibP w) :
    Calls Tryd.prog 8 #[.string (bs l), .string ⟨#[40]⟩] w fun e w' => e = .returned (.tuple #[.string (bs (Lib.cut l [40]).1), .string (bs (Lib.cut l [40]).2.1), .bool (Lib.cut l [40]).2.2]) ∧ Below w.heap.size w w' := by
  obtain ⟨m, hm⟩ := hg
  have h := Any.strings_Cut { Tryd.laysM145 with } (bs l) (bs [40]) m w (by rw [bs_size]; omega) hm
  rw [bs_data, bs_data] at h
  refine h.mono ?_
  rintro e w' ⟨rfl, n, rfl⟩
  exact ⟨rfl, below_drewN (Below.refl _ _) n⟩
theorem sufC (r : Wd) (hr : r.length ≤ 1048576) (w : World) :
    Calls Tryd.prog 9 #[.string (bs r), .string ⟨#[41]⟩] w fun e w' => e = .returned (.tuple #[.string (bs (Lib.trimSuffix r [41])), .bool (Lib.hasSuffix r [41])]) ∧ w' = w := by
  have h := Tryd.strings_CutSuffix (bs r) ⟨#[41]⟩ w (by rw [bs_size]; omega)
  rw [bs_data] at h
  exact h

/-- The cell of a result that is still empty. -/
structure RcS (w W : World) : Prop where
  lt : w.heap.size < W.heap.size
  below : Below w.heap.size w W
  c0 : W.cell? ⟨w.heap.size, 0, none⟩ = some (.string ⟨#[]⟩)
  c1 : W.cell? ⟨w.heap.size, 1, none⟩ = some (.string ⟨#[]⟩)
  f0 : W.frozen? ⟨w.heap.size, 0, none⟩ = false
  f1 : W.frozen? ⟨w.heap.size, 1, none⟩ = false
theorem RcS.on {w W w1 : World} (h : RcS w W) (hb : Below W.heap.size W w1) : RcS w w1 :=
  ⟨Nat.lt_of_lt_of_le h.lt hb.size, belowNext h.below hb, cellThru hb h.lt h.c0, cellThru hb h.lt h.c1, frozThru hb h.lt h.f0, frozThru hb h.lt h.f1⟩
theorem rcs0 (w : World) (T : TypeId) : RcS w (w.alloc (.cells #[.string ⟨#[]⟩, .string ⟨#[]⟩] T)) :=
  ⟨by simp, belowAlloc (Below.refl _ _) _, by simp [go_sem], by simp [go_sem], by simp [go_sem], by simp [go_sem]⟩

set_option maxRecDepth 8000 in
set_option maxHeartbeats 4000000 in
theorem implPS (l : Wd) (w : World) (hl : l.length ≤ 1048576) (hg : LibP w) (X Y : Wd) (C : Int) (hd : PsIs l X Y C) :
    Calls Tryd.prog 5 #[.string (bs l)] w fun e w' => e = .returned (.tuple #[sqV X Y, .int .i64 C]) ∧ Below w.heap.size w w' := by
  have HC := Lib.hid (fun w hg => cutC l hl w hg)
  have HG : Hid (LibP (w.alloc (.cells #[.string ⟨#[]⟩, .string ⟨#[]⟩] 23))) := Lib.hid (hg.on (belowAlloc (Below.refl _ _) _))
  have R0 := rcs0 w 23
  rcases cut_cases l with ⟨hno, hcut⟩ | ⟨a, r, hlr, hcut⟩
  · have hbad : X = [] ∧ Y = [] ∧ C = 6 := by
      rcases hd with ⟨h, -⟩ | ⟨-, h⟩
      · have := psG_cut h; rw [hcut] at this; simp at this
      · exact h
    obtain ⟨rfl, rfl, rfl⟩ := hbad
    rw [hcut] at HC
    have HS := Lib.hid (fun w => sufC [] (by simp) w)
    generalize Lib.trimSuffix [] [41] = p at *
    generalize Lib.hasSuffix [] [41] = cl at *
    dsimp only at HC
    clear hno hcut hl hg hd
    go_enter Tryd.func5, Tryd.ntmps5
    go_wp2_with fail
    refine (HC.out _ HG.out).mono ?_
    rintro e w2 ⟨rfl, hb2⟩
    have R2 := R0.on hb2
    clear hb2 R0 HG
    go_wp2_with fail
    refine (HS.out _).mono ?_
    rintro e w3 ⟨rfl, rfl⟩
    obtain ⟨r1, r2, r5, r6, r7, r8⟩ := id R2
    go_wp2
    refine bodyPost_ret (v := .tuple #[sqV [] [], .int .i64 6]) (by simp [results, Tryd.results5, go_sem, sqV, bs, r5, r6]) rfl ⟨rfl, ?_⟩
    (repeat' (first | (with_reducible exact Below.refl _ _) | (with_reducible assumption) | (with_reducible refine belowNext ?_ (by with_reducible assumption)) | (with_reducible refine belowAlloc ?_ _) | (with_reducible refine Below.drew ?_) | (with_reducible refine below_drewN ?_ _) | (with_reducible refine Below.setCell ?_ ?_ _) | go_size | (with_reducible refine sizeOf' ?_) | (with_reducible refine sizeAdd ?_) | (dsimp only; first | (with_reducible refine sizeOf' ?_) | (with_reducible refine sizeAdd ?_))))
  · have har : a.length + r.length ≤ 1048576 := by rw [hlr] at hl; simp at hl; omega
    rw [hcut] at HC
    have HS := Lib.hid (fun w => sufC r (by omega) w)
    dsimp only at HC
    rcases suf_cases r with ⟨hsf, hnp⟩ | ⟨p, rfl, hsf, htr⟩
    · have hbad : X = [] ∧ Y = [] ∧ C = 6 := by
        rcases hd with ⟨h, -⟩ | ⟨-, h⟩
        · have := psG_cut h; rw [hcut] at this; injection this with _ h2; injection h2 with h3; exact absurd h3 (hnp Y)
        · exact h
      obtain ⟨rfl, rfl, rfl⟩ := hbad
      rw [hsf] at HS
      generalize Lib.trimSuffix r [41] = p at *
      clear hcut hl hg hd hlr hsf hnp har
      go_enter Tryd.func5, Tryd.ntmps5
      go_wp2_with fail
      refine (HC.out _ HG.out).mono ?_
      rintro e w2 ⟨rfl, hb2⟩
      have R2 := R0.on hb2
      clear hb2 R0 HG
      go_wp2_with fail
      refine (HS.out _).mono ?_
      rintro e w3 ⟨rfl, rfl⟩
      obtain ⟨r1, r2, r5, r6, r7, r8⟩ := id R2
      go_wp2
      refine bodyPost_ret (v := .tuple #[sqV [] [], .int .i64 6]) (by simp [results, Tryd.results5, go_sem, sqV, bs, r5, r6]) rfl ⟨rfl, ?_⟩
      (repeat' (first | (with_reducible exact Below.refl _ _) | (with_reducible assumption) | (with_reducible refine belowNext ?_ (by with_reducible assumption)) | (with_reducible refine belowAlloc ?_ _) | (with_reducible refine Below.drew ?_) | (with_reducible refine below_drewN ?_ _) | (with_reducible refine Below.setCell ?_ ?_ _) | go_size | (with_reducible refine sizeOf' ?_) | (with_reducible refine sizeAdd ?_) | (dsimp only; first | (with_reducible refine sizeOf' ?_) | (with_reducible refine sizeAdd ?_))))
    · rw [hsf, htr] at HS
      have HI := Lib.hid (fun w => implIsSeq a p w (by simp at har; omega))
      cases hq : isSeq a p
      · have hbad : X = [] ∧ Y = [] ∧ C = 6 := by
          rcases hd with ⟨h, -⟩ | ⟨-, h⟩
          · have := psG_cut h; rw [hcut] at this; injection this with h1 h2; injection h2 with h3
            have h4 : p = Y := List.append_cancel_right h3
            rw [h1, h4, h.2] at hq; cases hq
          · exact h
        obtain ⟨rfl, rfl, rfl⟩ := hbad
        rw [hq] at HI
        clear hcut hl hg hd hlr hsf htr har hq
        generalize p ++ [41] = r at *
        go_enter Tryd.func5, Tryd.ntmps5
        go_wp2_with fail
        refine (HC.out _ HG.out).mono ?_
        rintro e w2 ⟨rfl, hb2⟩
        have R2 := R0.on hb2
        clear hb2 R0 HG
        go_wp2_with fail
        refine (HS.out _).mono ?_
        rintro e w3 ⟨rfl, rfl⟩
        go_wp2_with fail
        refine (HI.out _).mono ?_
        rintro e w4 ⟨rfl, hb4⟩
        have R4 := R2.on hb4
        obtain ⟨r1, r2, r5, r6, r7, r8⟩ := id R4
        clear R2 hb4
        go_wp2
        refine bodyPost_ret (v := .tuple #[sqV [] [], .int .i64 6]) (by simp [results, Tryd.results5, go_sem, sqV, bs, r5, r6]) rfl ⟨rfl, ?_⟩
        (repeat' (first | (with_reducible exact Below.refl _ _) | (with_reducible assumption) | (with_reducible refine belowNext ?_ (by with_reducible assumption)) | (with_reducible refine belowAlloc ?_ _) | (with_reducible refine Below.drew ?_) | (with_reducible refine below_drewN ?_ _) | (with_reducible refine Below.setCell ?_ ?_ _) | go_size | (with_reducible refine sizeOf' ?_) | (with_reducible refine sizeAdd ?_) | (dsimp only; first | (with_reducible refine sizeOf' ?_) | (with_reducible refine sizeAdd ?_))))
      · have hgood : X = a ∧ Y = p ∧ C = 0 := by
          rcases hd with ⟨h, h0⟩ | ⟨h, -⟩
          · have := psG_cut h; rw [hcut] at this; injection this with h1 h2; injection h2 with h3
            exact ⟨h1.symm, (List.append_cancel_right h3).symm, h0⟩
          · exact absurd ⟨hlr, hq⟩ (h a p)
        obtain ⟨rfl, rfl, rfl⟩ := hgood
        obtain ⟨-, -, hy, h64, hcan⟩ := isSeq_yes hq
        have HK := Lib.hid (fun w => implCanon X Y w hy h64)
        rw [hcan] at HK
        dsimp only at HK
        rw [hq] at HI
        clear hcut hl hg hd hlr hsf htr har hq hy h64 hcan
        generalize Y ++ [41] = r at *
        go_enter Tryd.func5, Tryd.ntmps5
        go_wp2_with fail
        refine (HC.out _ HG.out).mono ?_
        rintro e w2 ⟨rfl, hb2⟩
        have R2 := R0.on hb2
        clear hb2 R0 HG
        go_wp2_with fail
        refine (HS.out _).mono ?_
        rintro e w3 ⟨rfl, rfl⟩
        go_wp2_with fail
        refine (HI.out _).mono ?_
        rintro e w4 ⟨rfl, hb4⟩
        have R4 := R2.on hb4
        clear R2 hb4
        go_wp2_with fail
        refine (HK.out _).mono ?_
        rintro e w5 ⟨rfl, hb5⟩
        have R5 := R4.on hb5
        obtain ⟨r1, r2, r5, r6, r7, r8⟩ := id R5
        clear R4 hb5
        go_wp2
        refine bodyPost_ret (v := .tuple #[sqV X Y, .int .i64 0]) (by simp [results, Tryd.results5, go_sem, sqV, r5, r6]) rfl ⟨rfl, ?_⟩
        (repeat' (first | (with_reducible exact Below.refl _ _) | (with_reducible assumption) | (with_reducible refine belowNext ?_ (by with_reducible assumption)) | (with_reducible refine belowAlloc ?_ _) | (with_reducible refine Below.drew ?_) | (with_reducible refine below_drewN ?_ _) | (with_reducible refine Below.setCell ?_ ?_ _) | go_size | (with_reducible refine sizeOf' ?_) | (with_reducible refine sizeAdd ?_) | (dsimp only; first | (with_reducible refine sizeOf' ?_) | (with_reducible refine sizeAdd ?_))))
end Go.Proofs.YtcgdlimhhcmjhaaDoor

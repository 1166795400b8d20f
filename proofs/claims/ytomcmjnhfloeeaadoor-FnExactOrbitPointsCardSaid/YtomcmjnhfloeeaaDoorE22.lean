/-
  Contracts: the code of a star-periodic sequence and no points, on both sides; written by genE22.py.
-/
import Derived.Test.YtomcmjnhfloeeaaDoorE21
import Derived.Test.YtomcmjnhfloeeaaDoorD11
namespace Go.Proofs.YtomcmjnhfloeeaaDoor
open Go.RowKit

/-- The code. -/
def CpIs (x y : Wd) (C : Int) : Prop :=
  (isSeq x y = false ∧ C = 1) ∨ (isSeq x y = true ∧ starQ x y = false ∧ C = 5) ∨ (isSeq x y = true ∧ starQ x y = true ∧ C = 0)
/-- The box of a sequence, and a row that holds it. -/
structure CpS (w : World) (x y : Wd) (b : Nat) (W : World) : Prop where
  S : SqS w x y W
  z : b < W.heap.size
  r0 : W.cell? ⟨b, 0, none⟩ = some (.string (bs x))
  r1 : W.cell? ⟨b, 1, none⟩ = some (.string (bs y))
theorem CpS.on {w W w1 : World} {x y : Wd} {b : Nat} (H : CpS w x y b W) (hb : Below W.heap.size W w1) : CpS w x y b w1 :=
  ⟨H.S.on hb, Nat.lt_of_lt_of_le H.z hb.size, cellThru hb H.z H.r0, cellThru hb H.z H.r1⟩
/-- slices.Concat of one list of one sequence, and of none. -/
theorem concatOne (x y : Wd) (g b1 : Nat) (W : World) (h0 : W.cell? ⟨g, 0, none⟩ = some (.slice (some ⟨b1, 0, none⟩) 1 1)) (h1 : W.cell? ⟨g, 1, none⟩ = some (.slice none 0 0)) (hg : g < W.heap.size)
    (hb : b1 < W.heap.size) (c0 : W.cell? ⟨b1, 0, none⟩ = some (.string (bs x))) (c1 : W.cell? ⟨b1, 1, none⟩ = some (.string (bs y))) :
    Calls Tryd.prog 77 #[.slice (some ⟨g, 0, none⟩) 2 2] W fun e w' => ∃ b c, e = .returned (.slice (some ⟨b, 0, none⟩) 1 c) ∧ Hid (w'.cell? ⟨b, 0, none⟩ = some (.string (bs x)) ∧ w'.cell? ⟨b, 1, none⟩ = some (.string (bs y)) ∧ b < w'.heap.size) ∧ Below W.heap.size W w' := by
  have h := concatQ 2 g (fun k => if k = 0 then .slice (some ⟨b1, 0, none⟩) 1 1 else .slice none 0 0) (fun k => if k = 0 then [(x, y)] else []) W
    (fun k hk => by
      match k, hk with
      | 0, _ => exact ⟨some ⟨b1, 0, none⟩, 1, rfl, fun _ => ⟨b1, 0, rfl, hb, fun i n d hi => by
          match i, hi with
          | 0, hi => simp at hi; obtain ⟨rfl, rfl⟩ := hi; simpa using ⟨c0, c1⟩⟩, fun e => by cases e⟩
      | 1, _ => exact ⟨none, 0, rfl, fun hl => absurd rfl hl, fun _ => rfl⟩)
    (fun k hk => by
      match k, hk with
      | 0, _ => exact h0
      | 1, _ => exact h1) hg (by omega) (fun k hk => by
      match k, hk with
      | 0, _ => simp [accQ]
      | 1, _ => simp [accQ]
      | 2, _ => simp [accQ]) (by simp [accQ])
  refine h.mono ?_
  rintro e w' ⟨b, c, he, ho, hb'⟩
  change w'.ownsRow W.heap.size 25 2 (.slice (some ⟨b, 0, none⟩) 1 c) 1 [.string (bs x), .string (bs y)] at ho
  obtain ⟨g', c', hv, hlo, hg'⟩ := World.ownsRow.form ho (by omega)
  obtain rfl : b = g' := by injection hv with hA hn hc; injection hA with hA; injection hA
  exact ⟨b, c, he, Lib.hid ⟨(World.ownsRow.cellAt ho 0 (by omega)), (World.ownsRow.cellAt ho 1 (by omega)), hg'⟩, hb'⟩

set_option maxRecDepth 8000 in
set_option maxHeartbeats 4000000 in
theorem implCp (x y : Wd) (w : World) (hxy : x.length + y.length ≤ 1048576) (C : Int) (hd : CpIs x y C) :
    Calls Tryd.prog 60 #[sqV x y, .slice none 0 0] w fun e w' => e = .returned (.int .i64 C) ∧ Below w.heap.size w w' := by
  have H1 := Lib.hid (fun w => implIsSeq x y w hxy)
  have HC := Lib.hid (concatOne x y)
  have S0 := sqs0 w x y 25
  have S1 := (S0.on (belowAlloc (Below.refl _ _) (.cells #[.string (bs x), .string (bs y)] 25))).on (belowAlloc (Below.refl _ _) (.cells #[.slice (some ⟨w.heap.size + 1, 0, none⟩) 1 1, .slice none 0 0] 46))
  have HCc := Lib.hid (HC.out (w.heap.size + 1 + 1) (w.heap.size + 1) (((w.alloc (.cells #[.string (bs x), .string (bs y)] 25)).alloc (.cells #[.string (bs x), .string (bs y)] 25)).alloc (.cells #[.slice (some ⟨w.heap.size + 1, 0, none⟩) 1 1, .slice none 0 0] 46))
    (by simp [go_sem]) (by simp [go_sem]) (by simp) (by simp) (by simp [go_sem]) (by simp [go_sem]))
  clear HC S0
  have HS : Hid (isSeq x y = true → ∀ w, Calls Tryd.prog 50 #[sqV x y] w fun e w' => e = .returned (.bool (starQ x y)) ∧ Below w.heap.size w w') := Lib.hid (fun h w => by
    obtain ⟨-, hl, hy, h64, -⟩ := isSeq_yes h
    exact implStar x y w hl hy h64)
  have HD := Lib.hid hd
  clear hd hxy
  go_enter Tryd.func60, Tryd.ntmps60
  go_wp2_with fail
  refine HCc.out.mono ?_
  rintro e w2 ⟨b, c, rfl, Hr, hb2⟩
  have S2 : CpS w x y b w2 := ⟨S1.on hb2, Hr.out.2.2, Hr.out.1, Hr.out.2.1⟩
  clear S1 HCc hb2 Hr
  go_wp2_with fail
  go_loopw [15] (fun s wr => ∃ k : Nat, k ≤ 1 ∧ s = .int .i64 (k : Int) ∧ Hid (k = 1 → isSeq x y = true) ∧ CpS w x y b wr) (fun s _ => 1 - (intOf s).toNat)
  case atStart => exact ⟨0, by omega, rfl, Lib.hid (fun h => by cases h), S2⟩
  case round =>
    clear S2
    obtain ⟨k, hk, rfl, HK, S⟩ := hrel
    rcases Nat.lt_or_ge k 1 with hlt | hge
    · obtain rfl : k = 0 := by omega
      obtain ⟨⟨bb, zz, c0, c1⟩, zb, r0, r1⟩ := id S
      have S3 := S.on (belowAlloc (Below.refl _ _) (.cells #[.string (bs x), .string (bs y)] 25))
      clear S
      cases h1 : isSeq x y
      · rw [h1] at H1
        have hC : C = 1 := by rcases HD.out with ⟨_, h⟩ | ⟨h, _⟩ | ⟨h, _⟩ <;> first | exact h | (rw [h1] at h; cases h)
        subst hC
        clear h1 HS HD HK
        go_wp2_with fail
        refine (H1.out _).mono ?_
        rintro e w4 ⟨rfl, hb4⟩
        have S4 := S3.on hb4
        go_wp2
        go_ret
        exact ⟨rfl, S4.S.B⟩
      · have HK' : Hid (1 = 1 → isSeq x y = true) := Lib.hid (fun _ => h1)
        rw [h1] at H1
        clear h1 HS HD HK
        go_wp2_with fail
        refine (H1.out _).mono ?_
        rintro e w4 ⟨rfl, hb4⟩
        have S4 := S3.on hb4
        clear S3 hb4 bb zz c0 c1 zb r0 r1
        go_wp2
        go_roundw
        case rel => exact ⟨1, by omega, by go_num, Lib.hid (by intro _; first | trivial | exact HK'.out rfl), S4⟩
        case measure => simp [intOf]
    · obtain rfl : k = 1 := by omega
      have h1 := HK.out rfl
      have HSs := Lib.hid (HS.out h1)
      obtain ⟨⟨bb, zz, c0, c1⟩, zb, r0, r1⟩ := id S
      cases h2 : starQ x y
      · have hC : C = 5 := by rcases HD.out with ⟨h, _⟩ | ⟨_, _, h⟩ | ⟨_, h, _⟩ <;> first | exact h | (rw [h1] at h; cases h) | (rw [h2] at h; cases h)
        subst hC
        rw [h2] at HSs
        clear h1 h2 HS HD HK
        go_wp2_with fail
        refine (HSs.out _).mono ?_
        rintro e w4 ⟨rfl, hb4⟩
        have S4 := S.on hb4
        go_wp2
        go_ret
        exact ⟨rfl, S4.S.B⟩
      · have hC : C = 0 := by rcases HD.out with ⟨h, _⟩ | ⟨_, h, _⟩ | ⟨_, _, h⟩ <;> first | exact h | (rw [h1] at h; cases h) | (rw [h2] at h; cases h)
        subst hC
        rw [h2] at HSs
        clear h1 h2 HS HD HK
        go_wp2_with fail
        refine (HSs.out _).mono ?_
        rintro e w4 ⟨rfl, hb4⟩
        have S4 := S.on hb4
        clear S hb4 bb zz c0 c1 zb r0 r1
        go_wp2
        go_loopw [28] (fun s wr => s = .int .i64 0 ∧ Below w.heap.size w wr) (fun _ _ => 0)
        case atStart => exact ⟨rfl, S4.S.B⟩
        case round =>
          obtain ⟨rfl, HB⟩ := hrel
          go_wp2
          go_ret
          exact ⟨rfl, HB⟩

set_option maxRecDepth 8000 in
set_option maxHeartbeats 4000000 in
theorem specCp (x y : Wd) (w : World) (hxy : x.length + y.length ≤ 1048576) (C : Int) (hd : CpIs x y C) :
    Calls Tryd.prog 58 #[sqV x y, .slice none 0 0] w fun e w' => e = .returned (.int .i64 C) ∧ Below w.heap.size w w' := by
  have H1 := Lib.hid (fun w => specL01Seq x y w hxy)
  have S0 := sqs0 w x y 25
  rcases hd with ⟨h1, rfl⟩ | h2
  · rw [h1] at H1
    clear h1 hxy
    go_enter Tryd.func58, Tryd.ntmps58
    go_wp2_with fail
    refine (H1.out _).mono ?_
    rintro e w1 ⟨rfl, hb1⟩
    have S1 := S0.on hb1
    go_wp2
    go_ret
    exact ⟨rfl, S1.B⟩
  · have h1' : isSeq x y = true := h2.elim (fun h => h.1) (fun h => h.1)
    rw [h1'] at H1
    obtain ⟨-, -, hy, h64, -⟩ := isSeq_yes h1'
    have HS := Lib.hid (fun w => specStar x y w hy h64)
    have HD : Hid ((starQ x y = false ∧ C = 5) ∨ (starQ x y = true ∧ C = 0)) := Lib.hid (h2.imp (fun h => h.2) (fun h => h.2))
    clear h1' h2 hxy hy h64
    go_enter Tryd.func58, Tryd.ntmps58
    go_wp2_with fail
    refine (H1.out _).mono ?_
    rintro e w1 ⟨rfl, hb1⟩
    have S1 := S0.on hb1
    clear S0 hb1
    go_wp2
    go_loopw [5] (fun s wr => s = .int .i64 0 ∧ SqS w x y wr) (fun _ _ => 0)
    case atStart => exact ⟨rfl, S1⟩
    case round =>
      clear S1
      obtain ⟨rfl, S⟩ := hrel
      obtain ⟨bb, zz, c0, c1⟩ := id S
      rcases HD.out with ⟨h2, rfl⟩ | ⟨h2, rfl⟩
      · rw [h2] at HS
        clear h2 HD
        go_wp2_with fail
        refine (HS.out _).mono ?_
        rintro e w4 ⟨rfl, hb4⟩
        have S4 := S.on hb4
        go_wp2
        go_ret
        exact ⟨rfl, S4.B⟩
      · rw [h2] at HS
        clear h2 HD
        go_wp2_with fail
        refine (HS.out _).mono ?_
        rintro e w4 ⟨rfl, hb4⟩
        have S4 := S.on hb4
        clear S hb4 bb zz c0 c1
        go_wp2
        go_loopw [6] (fun s wr => s = .int .i64 0 ∧ Below w.heap.size w wr) (fun _ _ => 0)
        case atStart => exact ⟨rfl, S4.B⟩
        case round =>
          obtain ⟨rfl, HB⟩ := hrel
          go_wp2
          go_ret
          exact ⟨rfl, HB⟩
end Go.Proofs.YtomcmjnhfloeeaaDoor

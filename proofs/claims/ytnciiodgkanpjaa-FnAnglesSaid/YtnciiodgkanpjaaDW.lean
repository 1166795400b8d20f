/-
  Contracts: an angle of any size that is drawn (spec.l01Wide): some two numbers; what the law of angles draws.
-/
import Derived.Test.YtnciiodgkanpjaaDZ
namespace Go.Proofs.Ytnciiodgkanpjaa
open Go.RowKit

set_option maxRecDepth 8000 in
set_option maxHeartbeats 4000000 in
theorem specWide (B b : Nat) (A : Option Addr) (n cap : Nat) (w : World) (h : SrcAt w B b A n cap) (hn : n ≤ 1000000) :
    Calls Try.prog 46 #[.pointer (some ⟨b, 0, none⟩)] w fun e w' => (∃ x y : Int, e = .returned (ang x y)) ∧ Hid (SrcAt w' B b A n cap) ∧ Hid (w.grownBy w' (some b) ∧ w.heap.size ≤ w'.heap.size) := by
  have HN := Lib.hid (fun (m : Int) W (H : Hid (SrcAt W B b A n cap)) (hm : m ≤ 1000000) => specNext B b A n cap m W H.out hn (by omega))
  have HP := Lib.hid (fun b2 o2 len c2 (l : List Int) W (H : SrcAt W B b A n cap) h0 h1 h2 h3 h4 h5 => specPick B b A n cap b2 o2 len c2 l W H hn h0 h1 h2 h3 h4 h5)
  have HSp := Lib.hid (fun W (H : Hid (SrcAt W B b A n cap)) => specSpoil B b A n cap W H.out hn)
  have HBd := Lib.hid (fun (x y : Int) W (H : Hid (SrcAt W B b A n cap)) => specBad B b A n cap x y W H.out hn)
  have hbz := h.z
  have hBb : w.heap.size ≠ b := by omega
  have HS := Lib.hid h
  clear h
  go_enter Try.func46, Try.ntmps46
  go_wp2_with fail
  refine (HN.out 4 _ (Lib.hid (HS.out.on (belowAlloc (Below.refl _ _) _))) (by omega)).mono ?_
  rintro e w2 ⟨⟨r, rfl, hr⟩, HS, HO⟩
  obtain ⟨q0, q1⟩ := hr.out.2 (by omega)
  have HC := Lib.hid ((resC0 w 0 0 25).one hBb HO.out.1)
  have HG : Hid (w.grownBy w2 (some b) ∧ w.heap.size ≤ w2.heap.size) := Lib.hid ⟨grownTr (World.grownBy_alloc _ _ (some b)) HO.out.1, by have := HO.out.2; simp at this; omega⟩
  clear hr HO
  by_cases r0 : 0 < r
  · clear HN HP HBd
    go_wp2_with fail
    refine (HSp.out _ HS).mono ?_
    rintro e w9 ⟨⟨X, Y, rfl⟩, HS, HO⟩
    have HC := Lib.hid (HC.out.one hBb HO.out.1)
    have HG : Hid (w.grownBy w9 (some b) ∧ w.heap.size ≤ w9.heap.size) := Lib.hid ⟨grownTr HG.out.1 HO.out.1, Nat.le_trans HG.out.2 HO.out.2⟩
    clear HO HSp
    obtain ⟨z9, c0, c1, f0, f1⟩ := HC.out
    go_wp2
    have k0 : (w9.setCell ⟨w.heap.size, 0, none⟩ (.int .i64 X)).cell? ⟨w.heap.size, 0, none⟩ = some (.int .i64 X) := World.cell?_setCell_same _ _ _ c0
    have k1 : ((w9.setCell ⟨w.heap.size, 0, none⟩ (.int .i64 X)).setCell ⟨w.heap.size, 1, none⟩ (.int .i64 Y)).cell? ⟨w.heap.size, 1, none⟩ = some (.int .i64 Y) := World.cell?_setCell_same _ _ _ ((World.cell?_setCell_other _ _ _ _ (by simp)).trans c1)
    refine bodyPost_ret (v := ang X Y) (by simp [results, Try.results46, go_sem, k0, k1]) rfl ⟨⟨X, Y, rfl⟩, Lib.hid ?_, Lib.hid ?_⟩
    · refine HS.out.under hbz ?_
      (repeat' (first | (with_reducible exact Below.refl _ _) | (with_reducible assumption) | (with_reducible refine belowNext ?_ (by with_reducible assumption)) | (with_reducible refine belowAlloc ?_ _) | (with_reducible refine Below.drew ?_) | (with_reducible refine below_drewN ?_ _) | (with_reducible refine Below.setCell ?_ ?_ _) | go_size | (with_reducible refine sizeOf' ?_) | (with_reducible refine sizeAdd ?_) | (dsimp only; first | (with_reducible refine sizeOf' ?_) | (with_reducible refine sizeAdd ?_))))
    · refine ⟨grownOn HG.out.1 ?_, ?_⟩
      · (repeat' (first | (with_reducible exact Below.refl _ _) | (with_reducible assumption) | (with_reducible refine belowNext ?_ (by with_reducible assumption)) | (with_reducible refine belowAlloc ?_ _) | (with_reducible refine Below.drew ?_) | (with_reducible refine below_drewN ?_ _) | (with_reducible refine Below.setCell ?_ ?_ _) | go_size | (with_reducible refine sizeOf' ?_) | (with_reducible refine sizeAdd ?_) | (dsimp only; first | (with_reducible refine sizeOf' ?_) | (with_reducible refine sizeAdd ?_))))
      · have := HG.out.2
        simp
        omega
  · obtain rfl : r = 0 := by omega
    clear HSp
    go_wp2_with fail
    refine (HN.out 8191 _ HS (by omega)).mono ?_
    rintro e w3 ⟨⟨r3, rfl, hr3⟩, HS, HO⟩
    obtain ⟨p0, p1⟩ := hr3.out.2 (by omega)
    have HC := Lib.hid (HC.out.one hBb HO.out.1)
    have HG : Hid (w.grownBy w3 (some b) ∧ w.heap.size ≤ w3.heap.size) := Lib.hid ⟨grownTr HG.out.1 HO.out.1, by rw [HO.out.2]; exact HG.out.2⟩
    clear hr3 HO
    obtain ⟨D, hD⟩ : ∃ D : Int, 1 + r3 = D := ⟨_, rfl⟩
    have hw : IntKind.i64.wrap (1 + r3) = D := by rw [hD]; unfold IntKind.wrap; simp [IntKind.bits, IntKind.signed]; omega
    have hw2 : wrap64 (1 + r3) = D := by rw [hD]; exact IntWalk.wrap64_in D (by omega)
    have D1 : 1 ≤ D := by omega
    have D2 : D ≤ 8191 := by omega
    have z3 : w.heap.size < w3.heap.size := HC.out.lt
    clear hD p0 p1
    go_wp2_with fail
    refine (HP.out w3.heap.size 0 7 7 [D, 8191, 8190, 4096, 127, 255, 1023] _ (HS.out.on (belowAlloc (Below.refl _ _) _)) rfl (by omega) (by omega) (by simp) (by have := HS.out.z; omega) (fun i x hi => ?_)).mono ?_
    · match i, hi with
      | 0, hi | 1, hi | 2, hi | 3, hi | 4, hi | 5, hi | 6, hi => simp at hi; subst hi; simp [go_sem]
      | j + 7, hi => simp at hi
    rintro e w4 ⟨⟨x, rfl, hx⟩, HS, HO⟩
    have HX : 1 ≤ x ∧ x ≤ 8191 := by
      have h := hx.out
      simp at h
      omega
    obtain ⟨x1, x2⟩ := HX
    have HC := Lib.hid ((HC.out.below (belowAlloc (Below.refl _ _) _)).one hBb HO.out.1)
    have HG : Hid (w.grownBy w4 (some b) ∧ w.heap.size ≤ w4.heap.size) := Lib.hid ⟨grownTr (grownTr HG.out.1 (World.grownBy_alloc _ _ (some b))) HO.out.1, by have := HG.out.2; rw [HO.out.2]; simp; omega⟩
    clear hx HO hw hw2 D1 D2 z3 HP
    go_wp2_with fail
    refine (HN.out x _ HS (by omega)).mono ?_
    rintro e w8 ⟨⟨r8, rfl, hr8⟩, HS, HO⟩
    obtain ⟨q0, q1⟩ := hr8.out.2 (by omega)
    have HC := Lib.hid (HC.out.one hBb HO.out.1)
    have HG : Hid (w.grownBy w8 (some b) ∧ w.heap.size ≤ w8.heap.size) := Lib.hid ⟨grownTr HG.out.1 HO.out.1, by rw [HO.out.2]; exact HG.out.2⟩
    clear hr8 HO HN
    have HR := Lib.hid (specRed r8 x w8 (by omega) (by omega) (by omega) (by omega))
    generalize redN r8 x = U at *
    generalize redD r8 x = V at *
    go_wp2_with fail
    refine HR.out.mono ?_
    rintro e w5 ⟨rfl, hb5⟩
    have HS := Lib.hid (HS.out.on hb5)
    have HC := Lib.hid (HC.out.below hb5)
    have HG : Hid (w.grownBy w5 (some b) ∧ w.heap.size ≤ w5.heap.size) := Lib.hid ⟨grownTr HG.out.1 (grownOf hb5 b), Nat.le_trans HG.out.2 hb5.size⟩
    clear hb5 HR
    go_wp2_with fail
    refine (HBd.out U V _ HS).mono ?_
    rintro e w9 ⟨⟨X, Y, rfl⟩, HS, HO⟩
    have HC := Lib.hid (HC.out.one hBb HO.out.1)
    have HG : Hid (w.grownBy w9 (some b) ∧ w.heap.size ≤ w9.heap.size) := Lib.hid ⟨grownTr HG.out.1 HO.out.1, Nat.le_trans HG.out.2 HO.out.2⟩
    clear HO HBd
    obtain ⟨z9, c0, c1, f0, f1⟩ := HC.out
    go_wp2
    have k0 : (w9.setCell ⟨w.heap.size, 0, none⟩ (.int .i64 X)).cell? ⟨w.heap.size, 0, none⟩ = some (.int .i64 X) := World.cell?_setCell_same _ _ _ c0
    have k1 : ((w9.setCell ⟨w.heap.size, 0, none⟩ (.int .i64 X)).setCell ⟨w.heap.size, 1, none⟩ (.int .i64 Y)).cell? ⟨w.heap.size, 1, none⟩ = some (.int .i64 Y) := World.cell?_setCell_same _ _ _ ((World.cell?_setCell_other _ _ _ _ (by simp)).trans c1)
    refine bodyPost_ret (v := ang X Y) (by simp [results, Try.results46, go_sem, k0, k1]) rfl ⟨⟨X, Y, rfl⟩, Lib.hid ?_, Lib.hid ?_⟩
    · refine HS.out.under hbz ?_
      (repeat' (first | (with_reducible exact Below.refl _ _) | (with_reducible assumption) | (with_reducible refine belowNext ?_ (by with_reducible assumption)) | (with_reducible refine belowAlloc ?_ _) | (with_reducible refine Below.drew ?_) | (with_reducible refine below_drewN ?_ _) | (with_reducible refine Below.setCell ?_ ?_ _) | go_size | (with_reducible refine sizeOf' ?_) | (with_reducible refine sizeAdd ?_) | (dsimp only; first | (with_reducible refine sizeOf' ?_) | (with_reducible refine sizeAdd ?_))))
    · refine ⟨grownOn HG.out.1 ?_, ?_⟩
      · (repeat' (first | (with_reducible exact Below.refl _ _) | (with_reducible assumption) | (with_reducible refine belowNext ?_ (by with_reducible assumption)) | (with_reducible refine belowAlloc ?_ _) | (with_reducible refine Below.drew ?_) | (with_reducible refine below_drewN ?_ _) | (with_reducible refine Below.setCell ?_ ?_ _) | go_size | (with_reducible refine sizeOf' ?_) | (with_reducible refine sizeAdd ?_) | (dsimp only; first | (with_reducible refine sizeOf' ?_) | (with_reducible refine sizeAdd ?_))))
      · have := HG.out.2
        simp
        omega

set_option maxRecDepth 8000 in
set_option maxHeartbeats 4000000 in
theorem drawHalves (A : Option Addr) (n cap : Nat) (w : World) (h : CodeRow w w.heap.size A n) (hn : n ≤ 4096) :
    Calls Try.prog 6 #[.slice A n cap] w fun e w' => (∃ x y : Int, e = .returned (ang x y)) ∧ Below w.heap.size w w' := by
  have HF := Lib.hid (fun W (H : CodeRow W W.heap.size A n) => specFrom A n cap W H hn)
  have HSp := Lib.hid (fun B b W (H : Hid (SrcAt W B b A n cap)) => specWide B b A n cap W H.out (by omega))
  have HR := Lib.hid (codeOn h (belowAlloc (Below.refl _ _) (.cells #[.int .i64 0, .int .i64 0] 25)))
  clear h
  go_enter Try.func6, Try.ntmps6
  go_wp2_with fail
  refine (HF.out _ HR.out).mono ?_
  rintro e w1 ⟨rfl, HS, HB⟩
  have HC := Lib.hid ((resC0 w 0 0 25).below HB.out)
  have HB2 : Hid (Below w.heap.size w w1) := Lib.hid (by have := HB.out; (repeat' (first | (with_reducible exact Below.refl _ _) | (with_reducible assumption) | (with_reducible refine belowNext ?_ (by with_reducible assumption)) | (with_reducible refine belowAlloc ?_ _) | (with_reducible refine Below.drew ?_) | (with_reducible refine below_drewN ?_ _) | (with_reducible refine Below.setCell ?_ ?_ _) | go_size | (with_reducible refine sizeOf' ?_) | (with_reducible refine sizeAdd ?_) | (dsimp only; first | (with_reducible refine sizeOf' ?_) | (with_reducible refine sizeAdd ?_)))))
  have hb : w.heap.size ≠ (w.alloc (.cells #[.int .i64 0, .int .i64 0] 25)).heap.size := by simp
  have hb0 : w.heap.size ≤ (w.alloc (.cells #[.int .i64 0, .int .i64 0] 25)).heap.size := by simp
  clear HF HR HB
  simp only [World.size_alloc] at hb hb0 HS ⊢
  generalize w.heap.size + 1 = b at *
  go_wp2_with fail
  refine (HSp.out b b _ HS).mono ?_
  rintro e w9 ⟨⟨X, Y, rfl⟩, HS, HO⟩
  have HC := Lib.hid (HC.out.one hb HO.out.1)
  have HB9 := Lib.hid (belowOne HB2.out hb0 (Nat.le_refl _) HO.out.1)
  clear HO HSp HB2
  obtain ⟨z9, c0, c1, f0, f1⟩ := HC.out
  have hB := HB9.out
  go_wp2
  have k0 : (w9.setCell ⟨w.heap.size, 0, none⟩ (.int .i64 X)).cell? ⟨w.heap.size, 0, none⟩ = some (.int .i64 X) := World.cell?_setCell_same _ _ _ c0
  have k1 : ((w9.setCell ⟨w.heap.size, 0, none⟩ (.int .i64 X)).setCell ⟨w.heap.size, 1, none⟩ (.int .i64 Y)).cell? ⟨w.heap.size, 1, none⟩ = some (.int .i64 Y) := World.cell?_setCell_same _ _ _ ((World.cell?_setCell_other _ _ _ _ (by simp)).trans c1)
  refine bodyPost_ret (v := ang X Y) (by simp [results, Try.results6, go_sem, k0, k1]) rfl ⟨⟨X, Y, rfl⟩, ?_⟩
  (repeat' (first | (with_reducible exact Below.refl _ _) | (with_reducible assumption) | (with_reducible refine belowNext ?_ (by with_reducible assumption)) | (with_reducible refine belowAlloc ?_ _) | (with_reducible refine Below.drew ?_) | (with_reducible refine below_drewN ?_ _) | (with_reducible refine Below.setCell ?_ ?_ _) | go_size | (with_reducible refine sizeOf' ?_) | (with_reducible refine sizeAdd ?_) | (dsimp only; first | (with_reducible refine sizeOf' ?_) | (with_reducible refine sizeAdd ?_))))

set_option maxRecDepth 8000 in
set_option maxHeartbeats 4000000 in
theorem drawOrbit (A : Option Addr) (n cap : Nat) (w : World) (h : CodeRow w w.heap.size A n) (hn : n ≤ 4096) :
    Calls Try.prog 13 #[.slice A n cap] w fun e w' => (∃ x y : Int, e = .returned (ang x y)) ∧ Below w.heap.size w w' := by
  have HF := Lib.hid (fun W (H : CodeRow W W.heap.size A n) => specFrom A n cap W H hn)
  have HSp := Lib.hid (fun B b W (H : Hid (SrcAt W B b A n cap)) => specWide B b A n cap W H.out (by omega))
  have HR := Lib.hid (codeOn h (belowAlloc (Below.refl _ _) (.cells #[.int .i64 0, .int .i64 0] 25)))
  clear h
  go_enter Try.func13, Try.ntmps13
  go_wp2_with fail
  refine (HF.out _ HR.out).mono ?_
  rintro e w1 ⟨rfl, HS, HB⟩
  have HC := Lib.hid ((resC0 w 0 0 25).below HB.out)
  have HB2 : Hid (Below w.heap.size w w1) := Lib.hid (by have := HB.out; (repeat' (first | (with_reducible exact Below.refl _ _) | (with_reducible assumption) | (with_reducible refine belowNext ?_ (by with_reducible assumption)) | (with_reducible refine belowAlloc ?_ _) | (with_reducible refine Below.drew ?_) | (with_reducible refine below_drewN ?_ _) | (with_reducible refine Below.setCell ?_ ?_ _) | go_size | (with_reducible refine sizeOf' ?_) | (with_reducible refine sizeAdd ?_) | (dsimp only; first | (with_reducible refine sizeOf' ?_) | (with_reducible refine sizeAdd ?_)))))
  have hb : w.heap.size ≠ (w.alloc (.cells #[.int .i64 0, .int .i64 0] 25)).heap.size := by simp
  have hb0 : w.heap.size ≤ (w.alloc (.cells #[.int .i64 0, .int .i64 0] 25)).heap.size := by simp
  clear HF HR HB
  simp only [World.size_alloc] at hb hb0 HS ⊢
  generalize w.heap.size + 1 = b at *
  go_wp2_with fail
  refine (HSp.out b b _ HS).mono ?_
  rintro e w9 ⟨⟨X, Y, rfl⟩, HS, HO⟩
  have HC := Lib.hid (HC.out.one hb HO.out.1)
  have HB9 := Lib.hid (belowOne HB2.out hb0 (Nat.le_refl _) HO.out.1)
  clear HO HSp HB2
  obtain ⟨z9, c0, c1, f0, f1⟩ := HC.out
  have hB := HB9.out
  go_wp2
  have k0 : (w9.setCell ⟨w.heap.size, 0, none⟩ (.int .i64 X)).cell? ⟨w.heap.size, 0, none⟩ = some (.int .i64 X) := World.cell?_setCell_same _ _ _ c0
  have k1 : ((w9.setCell ⟨w.heap.size, 0, none⟩ (.int .i64 X)).setCell ⟨w.heap.size, 1, none⟩ (.int .i64 Y)).cell? ⟨w.heap.size, 1, none⟩ = some (.int .i64 Y) := World.cell?_setCell_same _ _ _ ((World.cell?_setCell_other _ _ _ _ (by simp)).trans c1)
  refine bodyPost_ret (v := ang X Y) (by simp [results, Try.results13, go_sem, k0, k1]) rfl ⟨⟨X, Y, rfl⟩, ?_⟩
  (repeat' (first | (with_reducible exact Below.refl _ _) | (with_reducible assumption) | (with_reducible refine belowNext ?_ (by with_reducible assumption)) | (with_reducible refine belowAlloc ?_ _) | (with_reducible refine Below.drew ?_) | (with_reducible refine below_drewN ?_ _) | (with_reducible refine Below.setCell ?_ ?_ _) | go_size | (with_reducible refine sizeOf' ?_) | (with_reducible refine sizeAdd ?_) | (dsimp only; first | (with_reducible refine sizeOf' ?_) | (with_reducible refine sizeAdd ?_))))

set_option maxRecDepth 8000 in
set_option maxHeartbeats 4000000 in
theorem drawAdd (A : Option Addr) (n cap : Nat) (w : World) (h : CodeRow w w.heap.size A n) (hn : n ≤ 4096) :
    Calls Try.prog 19 #[.slice A n cap] w fun e w' => (∃ x y x' y' : Int, e = .returned (.tuple #[ang x y, ang x' y'])) ∧ Below w.heap.size w w' := by
  have HF := Lib.hid (fun W (H : CodeRow W W.heap.size A n) => specFrom A n cap W H hn)
  have HD := Lib.hid (fun B b W (H : Hid (SrcAt W B b A n cap)) => specWide B b A n cap W H.out (by omega))
  have HR := Lib.hid (codeOn h (belowAlloc (belowAlloc (Below.refl _ _) (.cells #[.int .i64 0, .int .i64 0] 25)) (.cells #[.int .i64 0, .int .i64 0] 25)))
  clear h
  go_enter Try.func19, Try.ntmps19
  go_wp2_with fail
  refine (HF.out _ HR.out).mono ?_
  rintro e w1 ⟨rfl, HS, HB⟩
  have HC := Lib.hid (((resC0 w 0 0 25).below (belowAlloc (Below.refl _ _) (.cells #[.int .i64 0, .int .i64 0] 25))).below HB.out)
  have HE := Lib.hid ((resC0 (w.alloc (.cells #[.int .i64 0, .int .i64 0] 25)) 0 0 25).below HB.out)
  have HB1 : Hid (Below w.heap.size w w1) := Lib.hid (by have := HB.out; (repeat' (first | (with_reducible exact Below.refl _ _) | (with_reducible assumption) | (with_reducible refine belowNext ?_ (by with_reducible assumption)) | (with_reducible refine belowAlloc ?_ _) | (with_reducible refine Below.drew ?_) | (with_reducible refine below_drewN ?_ _) | (with_reducible refine Below.setCell ?_ ?_ _) | go_size | (with_reducible refine sizeOf' ?_) | (with_reducible refine sizeAdd ?_) | (dsimp only; first | (with_reducible refine sizeOf' ?_) | (with_reducible refine sizeAdd ?_)))))
  clear HF HR HB
  simp only [World.size_alloc] at HS HE ⊢
  obtain ⟨b, hb⟩ : ∃ b, w.heap.size + 1 + 1 = b := ⟨_, rfl⟩
  obtain ⟨c, hc⟩ : ∃ c, w.heap.size + 1 = c := ⟨_, rfl⟩
  have n1 : w.heap.size ≠ b := by omega
  have n2 : c ≠ b := by omega
  have n3 : w.heap.size ≠ c := by omega
  have b0 : w.heap.size ≤ b := by omega
  have b1 : w.heap.size ≤ c := by omega
  rw [hb] at HS ⊢
  rw [hc] at HE ⊢
  clear hb hc
  go_wp2_with fail
  refine (HD.out b b _ HS).mono ?_
  rintro e w2 ⟨⟨X, Y, rfl⟩, HS, HO⟩
  have HC := Lib.hid (HC.out.one n1 HO.out.1)
  have HE := Lib.hid (HE.out.one n2 HO.out.1)
  have HB2 := Lib.hid (belowOne HB1.out b0 (Nat.le_refl _) HO.out.1)
  clear HO HB1
  go_wp2_with fail
  refine (HD.out b b _ HS).mono ?_
  rintro e w3 ⟨⟨U, V, rfl⟩, HS, HO⟩
  have HC := Lib.hid (HC.out.one n1 HO.out.1)
  have HE := Lib.hid (HE.out.one n2 HO.out.1)
  have HB3 := Lib.hid (belowOne HB2.out b0 (Nat.le_refl _) HO.out.1)
  clear HO HB2 HD
  obtain ⟨z9, c0, c1, f0, f1⟩ := id HC.out
  obtain ⟨z8, d0, d1, f2, f3⟩ := id HE.out
  have C9 := ((((HC.out.set0 X).set1 Y).off (o := 0) n3 (.int .i64 U)).off (o := 1) n3 (.int .i64 V))
  have E9 := ((((HE.out.off (o := 0) (Ne.symm n3) (.int .i64 X)).off (o := 1) (Ne.symm n3) (.int .i64 Y)).set0 U).set1 V)
  have k0 := C9.c0
  have k1 := C9.c1
  have l0 := E9.c0
  have l1 := E9.c1
  have hB := HB3.out
  go_wp2
  refine bodyPost_ret (v := .tuple #[ang X Y, ang U V]) (by simp [results, Try.results19, go_sem, k0, k1, l0, l1]) rfl ⟨⟨X, Y, U, V, rfl⟩, ?_⟩
  first | exact (((hB.setCell (Nat.le_refl _) _).setCell (Nat.le_refl _) _).setCell b1 _).setCell b1 _ | exact ((((hB.setCell (Nat.le_refl _) _).setCell (Nat.le_refl _) _).setCell b1 _).setCell b1 _).drew

set_option maxRecDepth 8000 in
set_option maxHeartbeats 4000000 in
theorem drawDist (A : Option Addr) (n cap : Nat) (w : World) (h : CodeRow w w.heap.size A n) (hn : n ≤ 4096) :
    Calls Try.prog 22 #[.slice A n cap] w fun e w' => (∃ x y x' y' : Int, e = .returned (.tuple #[ang x y, ang x' y'])) ∧ Below w.heap.size w w' := by
  have HF := Lib.hid (fun W (H : CodeRow W W.heap.size A n) => specFrom A n cap W H hn)
  have HD := Lib.hid (fun B b W (H : Hid (SrcAt W B b A n cap)) => specWide B b A n cap W H.out (by omega))
  have HR := Lib.hid (codeOn h (belowAlloc (belowAlloc (Below.refl _ _) (.cells #[.int .i64 0, .int .i64 0] 25)) (.cells #[.int .i64 0, .int .i64 0] 25)))
  clear h
  go_enter Try.func22, Try.ntmps22
  go_wp2_with fail
  refine (HF.out _ HR.out).mono ?_
  rintro e w1 ⟨rfl, HS, HB⟩
  have HC := Lib.hid (((resC0 w 0 0 25).below (belowAlloc (Below.refl _ _) (.cells #[.int .i64 0, .int .i64 0] 25))).below HB.out)
  have HE := Lib.hid ((resC0 (w.alloc (.cells #[.int .i64 0, .int .i64 0] 25)) 0 0 25).below HB.out)
  have HB1 : Hid (Below w.heap.size w w1) := Lib.hid (by have := HB.out; (repeat' (first | (with_reducible exact Below.refl _ _) | (with_reducible assumption) | (with_reducible refine belowNext ?_ (by with_reducible assumption)) | (with_reducible refine belowAlloc ?_ _) | (with_reducible refine Below.drew ?_) | (with_reducible refine below_drewN ?_ _) | (with_reducible refine Below.setCell ?_ ?_ _) | go_size | (with_reducible refine sizeOf' ?_) | (with_reducible refine sizeAdd ?_) | (dsimp only; first | (with_reducible refine sizeOf' ?_) | (with_reducible refine sizeAdd ?_)))))
  clear HF HR HB
  simp only [World.size_alloc] at HS HE ⊢
  obtain ⟨b, hb⟩ : ∃ b, w.heap.size + 1 + 1 = b := ⟨_, rfl⟩
  obtain ⟨c, hc⟩ : ∃ c, w.heap.size + 1 = c := ⟨_, rfl⟩
  have n1 : w.heap.size ≠ b := by omega
  have n2 : c ≠ b := by omega
  have n3 : w.heap.size ≠ c := by omega
  have b0 : w.heap.size ≤ b := by omega
  have b1 : w.heap.size ≤ c := by omega
  rw [hb] at HS ⊢
  rw [hc] at HE ⊢
  clear hb hc
  go_wp2_with fail
  refine (HD.out b b _ HS).mono ?_
  rintro e w2 ⟨⟨X, Y, rfl⟩, HS, HO⟩
  have HC := Lib.hid (HC.out.one n1 HO.out.1)
  have HE := Lib.hid (HE.out.one n2 HO.out.1)
  have HB2 := Lib.hid (belowOne HB1.out b0 (Nat.le_refl _) HO.out.1)
  clear HO HB1
  go_wp2_with fail
  refine (HD.out b b _ HS).mono ?_
  rintro e w3 ⟨⟨U, V, rfl⟩, HS, HO⟩
  have HC := Lib.hid (HC.out.one n1 HO.out.1)
  have HE := Lib.hid (HE.out.one n2 HO.out.1)
  have HB3 := Lib.hid (belowOne HB2.out b0 (Nat.le_refl _) HO.out.1)
  clear HO HB2 HD
  obtain ⟨z9, c0, c1, f0, f1⟩ := id HC.out
  obtain ⟨z8, d0, d1, f2, f3⟩ := id HE.out
  have C9 := ((((HC.out.set0 X).set1 Y).off (o := 0) n3 (.int .i64 U)).off (o := 1) n3 (.int .i64 V))
  have E9 := ((((HE.out.off (o := 0) (Ne.symm n3) (.int .i64 X)).off (o := 1) (Ne.symm n3) (.int .i64 Y)).set0 U).set1 V)
  have k0 := C9.c0
  have k1 := C9.c1
  have l0 := E9.c0
  have l1 := E9.c1
  have hB := HB3.out
  go_wp2
  refine bodyPost_ret (v := .tuple #[ang X Y, ang U V]) (by simp [results, Try.results22, go_sem, k0, k1, l0, l1]) rfl ⟨⟨X, Y, U, V, rfl⟩, ?_⟩
  first | exact (((hB.setCell (Nat.le_refl _) _).setCell (Nat.le_refl _) _).setCell b1 _).setCell b1 _ | exact ((((hB.setCell (Nat.le_refl _) _).setCell (Nat.le_refl _) _).setCell b1 _).setCell b1 _).drew

set_option maxRecDepth 8000 in
set_option maxHeartbeats 4000000 in
theorem drawOf (A : Option Addr) (n cap : Nat) (w : World) (h : CodeRow w w.heap.size A n) (hn : n ≤ 4096) :
    Calls Try.prog 25 #[.slice A n cap] w fun e w' => (∃ p q : Int, e = .returned (.tuple #[.int .i64 p, .int .i64 q])) ∧ Below w.heap.size w w' := by
  have HF := Lib.hid (specFrom A n cap w h hn)
  have HN := Lib.hid (fun (m : Int) W (H : Hid (SrcAt W w.heap.size w.heap.size A n cap)) (hm : m ≤ 1000000) => specNext w.heap.size w.heap.size A n cap m W H.out (by omega) (by omega))
  have HP := Lib.hid (fun b2 o2 len c2 (l : List Int) W (H : SrcAt W w.heap.size w.heap.size A n cap) h1 h2 h3 h4 h5 h6 => specPick w.heap.size w.heap.size A n cap b2 o2 len c2 l W H (by omega) h1 h2 h3 h4 h5 h6)
  clear h
  go_enter Try.func25, Try.ntmps25
  go_wp2_with fail
  refine HF.out.mono ?_
  rintro e w1 ⟨rfl, HS, HB⟩
  clear HF
  go_wp2_with fail
  refine (HN.out 64 _ HS (by omega)).mono ?_
  rintro e w2 ⟨⟨r, rfl, hr⟩, HS, HO⟩
  have HB := Lib.hid (belowOne HB.out (Nat.le_refl _) (Nat.le_refl _) HO.out.1)
  clear HO
  go_wp2_with fail
  refine (HN.out 9000 _ HS (by omega)).mono ?_
  rintro e w3 ⟨⟨r3, rfl, hr3⟩, HS, HO⟩
  have HB := Lib.hid (belowOne HB.out (Nat.le_refl _) (Nat.le_refl _) HO.out.1)
  clear HO
  obtain ⟨q0, q1⟩ := hr.out.2 (by omega)
  obtain ⟨q2, q3⟩ := hr3.out.2 (by omega)
  obtain ⟨D1, hD1⟩ : ∃ D : Int, 1 + r = D := ⟨_, rfl⟩
  have xD1 : IntKind.i64.wrap (1 + r) = D1 := by rw [hD1]; unfold IntKind.wrap; simp [IntKind.bits, IntKind.signed]; omega
  have yD1 : wrap64 (1 + r) = D1 := by rw [hD1]; exact IntWalk.wrap64_in D1 (by omega)
  obtain ⟨D2, hD2⟩ : ∃ D : Int, 1 + r3 = D := ⟨_, rfl⟩
  have xD2 : IntKind.i64.wrap (1 + r3) = D2 := by rw [hD2]; unfold IntKind.wrap; simp [IntKind.bits, IntKind.signed]; omega
  have yD2 : wrap64 (1 + r3) = D2 := by rw [hD2]; exact IntWalk.wrap64_in D2 (by omega)
  have zz : w.heap.size < w3.heap.size := HS.out.z
  clear hD1 hD2 hr hr3 q0 q1 q2 q3
  go_wp2_with fail
  refine (HP.out w3.heap.size 0 5 5 [D1, D2, 1000000000, 1000000001, 0] _ (HS.out.on (belowAlloc (Below.refl _ _) _)) rfl (by omega) (by omega) (by simp) (by omega) (fun i x hi => ?_)).mono ?_
  · match i, hi with
    | 0, hi | 1, hi | 2, hi | 3, hi | 4, hi => simp at hi; subst hi; simp [go_sem]
    | j + 5, hi => simp at hi
  rintro e w4 ⟨⟨x, rfl, _⟩, HS, HO⟩
  have HB := Lib.hid (belowOne (belowAlloc HB.out _) (Nat.le_refl _) (Nat.le_refl _) HO.out.1)
  clear HO xD1 yD1 xD2 yD2 zz
  go_wp2_with fail
  refine (HN.out 200 _ HS (by omega)).mono ?_
  rintro e w5 ⟨⟨r4, rfl, hr4⟩, HS, HO⟩
  have HB := Lib.hid (belowOne HB.out (Nat.le_refl _) (Nat.le_refl _) HO.out.1)
  clear HO
  go_wp2_with fail
  refine (HN.out 20000 _ HS (by omega)).mono ?_
  rintro e w6 ⟨⟨r5, rfl, hr5⟩, HS, HO⟩
  have HB := Lib.hid (belowOne HB.out (Nat.le_refl _) (Nat.le_refl _) HO.out.1)
  clear HO HN
  obtain ⟨q0, q1⟩ := hr4.out.2 (by omega)
  obtain ⟨q2, q3⟩ := hr5.out.2 (by omega)
  obtain ⟨F1, hF1⟩ : ∃ D : Int, r4 - 100 = D := ⟨_, rfl⟩
  have xF1 : IntKind.i64.wrap (r4 - 100) = F1 := by rw [hF1]; unfold IntKind.wrap; simp [IntKind.bits, IntKind.signed]; omega
  have yF1 : wrap64 (r4 - 100) = F1 := by rw [hF1]; exact IntWalk.wrap64_in F1 (by omega)
  obtain ⟨F2, hF2⟩ : ∃ D : Int, r5 - 10000 = D := ⟨_, rfl⟩
  have xF2 : IntKind.i64.wrap (r5 - 10000) = F2 := by rw [hF2]; unfold IntKind.wrap; simp [IntKind.bits, IntKind.signed]; omega
  have yF2 : wrap64 (r5 - 10000) = F2 := by rw [hF2]; exact IntWalk.wrap64_in F2 (by omega)
  have zz : w.heap.size < w6.heap.size := HS.out.z
  clear hF1 hF2 hr4 hr5 q0 q1 q2 q3
  go_wp2_with fail
  refine (HP.out w6.heap.size 0 4 4 [F1, F2, -1000000000, -1000000001] _ (HS.out.on (belowAlloc (Below.refl _ _) _)) rfl (by omega) (by omega) (by simp) (by omega) (fun i x hi => ?_)).mono ?_
  · match i, hi with
    | 0, hi | 1, hi | 2, hi | 3, hi => simp at hi; subst hi; simp [go_sem]
    | j + 4, hi => simp at hi
  rintro e w7 ⟨⟨z, rfl, _⟩, HS, HO⟩
  have HB := Lib.hid (belowOne (belowAlloc HB.out _) (Nat.le_refl _) (Nat.le_refl _) HO.out.1)
  clear HO HP
  go_wp2
  go_ret2
  exact ⟨⟨_, _, rfl⟩, HB.out⟩
end Go.Proofs.Ytnciiodgkanpjaa

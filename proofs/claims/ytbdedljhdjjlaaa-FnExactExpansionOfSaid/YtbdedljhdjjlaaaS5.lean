/-
  Contracts: expansions, itineraries and kneading sequences (the program's).
-/
import Derived.Test.YtbdedljhdjjlaaaS4
namespace Go.Proofs.Ytbdedljhdjjlaaa
open Go.RowKit

/-- The letters of the orbit, for m / c. -/
def lt (n d m c : Int) (i : Nat) : UInt8 := UInt8.ofNat (ltrI (orb (n, d) i).1 (orb (n, d) i).2 m c).toNat
theorem lt_int (n d m c : Int) (i : Nat) : ((lt n d m c i).toNat : Int) = ltrI (orb (n, d) i).1 (orb (n, d) i).2 m c := by
  unfold lt
  rcases ltr_three (orb (n, d) i).1 (orb (n, d) i).2 m c with h | h | h <;> rw [h] <;> rfl
/-- The digits of the orbit. -/
def dg (n d : Int) (i : Nat) : UInt8 := if (orb (n, d) i).2 ≤ 2 * (orb (n, d) i).1 then 49 else 48
def itS (n d m c : Int) : Wd × Wd := if isAng m c then sqA n d (lt n d m c) else ([], [])
def itC (n d m c : Int) : Int := if isAng m c then oC n d else 1
theorem orb_ok {n d : Int} (h : isAng n d = true) (i : Nat) : angOk (orb (n, d) i).1 (orb (n, d) i).2 := by
  obtain ⟨a, b, c, e, _⟩ := orb_red (ang_red h) i
  exact ⟨a, b, c, e⟩

theorem enterIt (args : Array Value) (W : World) : (callFunc 95 args).run Try.prog W = .ok (.enter 95 args) W := by
  kernel_rfl
theorem enterEx (args : Array Value) (W : World) : (callFunc 91 args).run Try.prog W = .ok (.enter 91 args) W := by
  kernel_rfl

theorem closIt (n d m c : Int) (b : Nat) (w : World) (h1 : angOk n d) (h2 : angOk m c) (hb : b < w.heap.size) (c0 : w.cell? ⟨b, 0, none⟩ = some (.int .i64 m)) (c1 : w.cell? ⟨b, 1, none⟩ = some (.int .i64 c)) :
    Calls Try.prog 95 #[ang n d, .pointer (some ⟨b, 0, none⟩)] w fun e w' => e = .returned (.int .u8 (ltrI n d m c)) ∧ Below w.heap.size w w' := by
  have HL := Lib.hid (fun w => implLet n d m c w h1 h2)
  have c0' := cellThru (belowAlloc (Below.refl _ _) (.cells #[.int .i64 n, .int .i64 d] 25)) hb c0
  have c1' := cellThru (belowAlloc (Below.refl _ _) (.cells #[.int .i64 n, .int .i64 d] 25)) hb c1
  generalize ltrI n d m c = L at *
  clear h1 h2
  go_enter Try.func95, Try.ntmps95
  go_wp2_with fail
  refine (HL.out _).mono ?_
  rintro e w1 ⟨rfl, hb1⟩
  go_wp2
  go_ret
  refine ⟨rfl, ?_⟩
  (repeat' (first | (with_reducible exact Below.refl _ _) | (with_reducible assumption) | (with_reducible refine belowNext ?_ (by with_reducible assumption)) | (with_reducible refine belowAlloc ?_ _) | (with_reducible refine Below.drew ?_) | (with_reducible refine below_drewN ?_ _) | (with_reducible refine Below.setCell ?_ ?_ _) | go_size | (with_reducible refine sizeOf' ?_) | (with_reducible refine sizeAdd ?_) | (dsimp only; first | (with_reducible refine sizeOf' ?_) | (with_reducible refine sizeAdd ?_))))

theorem closEx (n d : Int) (L : Int) (w : World) (h1 : angOk n d) (hL : L = if d ≤ 2 * n then 49 else 48) :
    Calls Try.prog 91 #[ang n d] w fun e w' => e = .returned (.int .u8 L) ∧ Below w.heap.size w w' := by
  obtain ⟨a1, a2, a3, a4⟩ := h1
  by_cases h : d ≤ 2 * n
  · have hd : decide (d ≤ 2 * n) = true := by simp [h]
    rw [if_pos h] at hL
    subst hL
    go_enter Try.func91, Try.ntmps91
    go_wp2
    go_ret
    refine ⟨rfl, ?_⟩
    (repeat' (first | (with_reducible exact Below.refl _ _) | (with_reducible assumption) | (with_reducible refine belowNext ?_ (by with_reducible assumption)) | (with_reducible refine belowAlloc ?_ _) | (with_reducible refine Below.drew ?_) | (with_reducible refine below_drewN ?_ _) | (with_reducible refine Below.setCell ?_ ?_ _) | go_size | (with_reducible refine sizeOf' ?_) | (with_reducible refine sizeAdd ?_) | (dsimp only; first | (with_reducible refine sizeOf' ?_) | (with_reducible refine sizeAdd ?_))))
  · have hd : decide (d ≤ 2 * n) = false := by simp [h]
    rw [if_neg h] at hL
    subst hL
    go_enter Try.func91, Try.ntmps91
    go_wp2
    go_ret
    refine ⟨rfl, ?_⟩
    (repeat' (first | (with_reducible exact Below.refl _ _) | (with_reducible assumption) | (with_reducible refine belowNext ?_ (by with_reducible assumption)) | (with_reducible refine belowAlloc ?_ _) | (with_reducible refine Below.drew ?_) | (with_reducible refine below_drewN ?_ _) | (with_reducible refine Below.setCell ?_ ?_ _) | go_size | (with_reducible refine sizeOf' ?_) | (with_reducible refine sizeAdd ?_) | (dsimp only; first | (with_reducible refine sizeOf' ?_) | (with_reducible refine sizeAdd ?_))))

theorem implExpansionOf (n d : Int) (w : World) :
    Calls Try.prog 49 #[ang n d] w fun e w' => e = .returned (.tuple #[sqV (sqA n d (dg n d)).1 (sqA n d (dg n d)).2, .int .i64 (oC n d)]) ∧ Below w.heap.size w w' := by
  have HA : Hid (∀ w, Calls Try.prog 90 #[ang n d, .func (.func 91) #[] #[]] w fun e w' => e = .returned (.tuple #[sqV (sqA n d (dg n d)).1 (sqA n d (dg n d)).2, .int .i64 (oC n d)]) ∧ Below w.heap.size w w') := Lib.hid (fun w => by
    cases h1 : isAng n d
    · exact implAlong0 n d _ _ w (.inl h1)
    · cases hf : findOrb (n, d) 65 0 with
      | none => exact implAlong0 n d _ _ w (.inr hf)
      | some K =>
        have e2 : oC n d = 0 := by unfold oC; simp [h1, hf]
        rw [e2]
        refine implAlong n d _ #[] (dg n d) w h1 K hf enterEx (fun i _ W _ => ?_)
        refine closEx _ _ _ W (orb_ok h1 i) ?_
        unfold dg
        split <;> rfl)
  generalize (sqA n d (dg n d)).1 = X at *
  generalize (sqA n d (dg n d)).2 = Y at *
  generalize oC n d = C at *
  go_enter Try.func49, Try.ntmps49
  go_wp2_with fail
  refine (HA.out _).mono ?_
  rintro e w1 ⟨rfl, hb1⟩
  have hz1 : w.heap.size + 1 < w1.heap.size := by have := hb1.size; simp at this; omega
  have q0 : w1.cell? ⟨w.heap.size + 1, 0, none⟩ = some (.string ⟨#[]⟩) := cellThru hb1 (by simp) (by simp [go_sem])
  have q1 : w1.cell? ⟨w.heap.size + 1, 1, none⟩ = some (.string ⟨#[]⟩) := cellThru hb1 (by simp) (by simp [go_sem])
  have g0 : w1.frozen? ⟨w.heap.size + 1, 0, none⟩ = false := frozThru hb1 (by simp) (by simp [go_sem])
  have g1 : w1.frozen? ⟨w.heap.size + 1, 1, none⟩ = false := frozThru hb1 (by simp) (by simp [go_sem])
  go_wp2
  refine bodyPost_ret (v := .tuple #[sqV X Y, .int .i64 C]) (by simp [results, Try.results49, go_sem, sqV, q0, q1]) rfl ⟨rfl, ?_⟩
  (repeat' (first | (with_reducible exact Below.refl _ _) | (with_reducible assumption) | (with_reducible refine belowNext ?_ (by with_reducible assumption)) | (with_reducible refine belowAlloc ?_ _) | (with_reducible refine Below.drew ?_) | (with_reducible refine below_drewN ?_ _) | (with_reducible refine Below.setCell ?_ ?_ _) | go_size | (with_reducible refine sizeOf' ?_) | (with_reducible refine sizeAdd ?_) | (dsimp only; first | (with_reducible refine sizeOf' ?_) | (with_reducible refine sizeAdd ?_))))

theorem implItineraryOf (n d m c : Int) (w : World) :
    Calls Try.prog 54 #[ang n d, ang m c] w fun e w' => e = .returned (.tuple #[sqV (itS n d m c).1 (itS n d m c).2, .int .i64 (itC n d m c)]) ∧ Below w.heap.size w w' := by
  have HA : Hid (∀ (w : World) b cap, AngRow w w.heap.size (some ⟨b, 0, none⟩) [(n, d), (m, c)] → Calls Try.prog 74 #[.slice (some ⟨b, 0, none⟩) 2 cap] w fun e w' => e = .returned (.bool (isAng n d && isAng m c)) ∧ Below w.heap.size w w') := Lib.hid (fun w b cap h => by
    have := areAng (some ⟨b, 0, none⟩) 2 cap [(n, d), (m, c)] w h rfl (by omega)
    rw [all2] at this
    exact this)
  have HS : Hid (isAng m c = true → ∀ (b : Nat) w, b < w.heap.size → w.cell? ⟨b, 0, none⟩ = some (.int .i64 m) → w.cell? ⟨b, 1, none⟩ = some (.int .i64 c) → Calls Try.prog 90 #[ang n d, .func (.func 95) #[] #[.pointer (some ⟨b, 0, none⟩)]] w fun e w' => e = .returned (.tuple #[sqV (itS n d m c).1 (itS n d m c).2, .int .i64 (itC n d m c)]) ∧ Below w.heap.size w w') := Lib.hid (fun h2 b w hb c0 c1 => by
    have e1 : itS n d m c = sqA n d (lt n d m c) := by unfold itS; simp [h2]
    have e2 : itC n d m c = oC n d := by unfold itC; simp [h2]
    rw [e1, e2]
    cases h1 : isAng n d
    · exact implAlong0 n d _ _ w (.inl h1)
    · cases hf : findOrb (n, d) 65 0 with
      | none => exact implAlong0 n d _ _ w (.inr hf)
      | some K =>
        have e2 : oC n d = 0 := by unfold oC; simp [h1, hf]
        rw [e2]
        refine implAlong n d _ #[.pointer (some ⟨b, 0, none⟩)] (lt n d m c) w h1 K hf enterIt (fun i _ W hW => ?_)
        rw [lt_int]
        exact closIt _ _ _ _ b W (orb_ok h1 i) (isAng_ok h2) (Nat.lt_of_lt_of_le hb hW.size) (cellThru hW hb c0) (cellThru hW hb c1))
  have hno : (isAng n d && isAng m c) = false → itS n d m c = ([], []) ∧ itC n d m c = 1 := by
    unfold itS itC sqA oC
    cases isAng n d <;> cases isAng m c <;> simp
  cases hs : (isAng n d && isAng m c)
  · obtain ⟨e1, e2⟩ := hno hs
    rw [e1, e2]
    rw [hs] at HA
    clear e1 e2 hno hs HS
    go_enter Try.func54, Try.ntmps54
    go_wp2_with fail
    refine (HA.out _ _ _ (by exact row2 _ _ _ _ _ _ _ (by simp))).mono ?_
    rintro e w1 ⟨rfl, hb1⟩
    have hz1 : w.heap.size + 2 < w1.heap.size := by have := hb1.size; simp at this; omega
    have q0 : w1.cell? ⟨w.heap.size + 2, 0, none⟩ = some (.string ⟨#[]⟩) := cellThru hb1 (by simp) (by simp [go_sem])
    have q1 : w1.cell? ⟨w.heap.size + 2, 1, none⟩ = some (.string ⟨#[]⟩) := cellThru hb1 (by simp) (by simp [go_sem])
    have g0 : w1.frozen? ⟨w.heap.size + 2, 0, none⟩ = false := frozThru hb1 (by simp) (by simp [go_sem])
    have g1 : w1.frozen? ⟨w.heap.size + 2, 1, none⟩ = false := frozThru hb1 (by simp) (by simp [go_sem])
    go_wp2
    refine bodyPost_ret (v := .tuple #[sqV [] [], .int .i64 1]) (by simp [results, Try.results54, go_sem, sqV, bs, q0, q1]) rfl ⟨rfl, ?_⟩
    (repeat' (first | (with_reducible exact Below.refl _ _) | (with_reducible assumption) | (with_reducible refine belowNext ?_ (by with_reducible assumption)) | (with_reducible refine belowAlloc ?_ _) | (with_reducible refine Below.drew ?_) | (with_reducible refine below_drewN ?_ _) | (with_reducible refine Below.setCell ?_ ?_ _) | go_size | (with_reducible refine sizeOf' ?_) | (with_reducible refine sizeAdd ?_) | (dsimp only; first | (with_reducible refine sizeOf' ?_) | (with_reducible refine sizeAdd ?_))))
  · have h2 : isAng m c = true := by simp at hs; exact hs.2
    have HS2 := Lib.hid (HS.out h2)
    rw [hs] at HA
    clear HS hno hs h2
    generalize (itS n d m c).1 = X at *
    generalize (itS n d m c).2 = Y at *
    generalize itC n d m c = C at *
    go_enter Try.func54, Try.ntmps54
    go_wp2_with fail
    refine (HA.out _ _ _ (by exact row2 _ _ _ _ _ _ _ (by simp))).mono ?_
    rintro e w1 ⟨rfl, hb1⟩
    have hz1 : w.heap.size + 2 < w1.heap.size := by have := hb1.size; simp at this; omega
    have hz0 : w.heap.size + 1 < w1.heap.size := by omega
    have q0 : w1.cell? ⟨w.heap.size + 2, 0, none⟩ = some (.string ⟨#[]⟩) := cellThru hb1 (by simp) (by simp [go_sem])
    have q1 : w1.cell? ⟨w.heap.size + 2, 1, none⟩ = some (.string ⟨#[]⟩) := cellThru hb1 (by simp) (by simp [go_sem])
    have g0 : w1.frozen? ⟨w.heap.size + 2, 0, none⟩ = false := frozThru hb1 (by simp) (by simp [go_sem])
    have g1 : w1.frozen? ⟨w.heap.size + 2, 1, none⟩ = false := frozThru hb1 (by simp) (by simp [go_sem])
    have r0 : w1.cell? ⟨w.heap.size, 0, none⟩ = some (.int .i64 n) := cellThru hb1 (by simp; omega) (by simp [go_sem])
    have r1 : w1.cell? ⟨w.heap.size, 1, none⟩ = some (.int .i64 d) := cellThru hb1 (by simp; omega) (by simp [go_sem])
    have s0 : w1.cell? ⟨w.heap.size + 1, 0, none⟩ = some (.int .i64 m) := cellThru hb1 (by simp) (by simp [go_sem])
    have s1 : w1.cell? ⟨w.heap.size + 1, 1, none⟩ = some (.int .i64 c) := cellThru hb1 (by simp) (by simp [go_sem])
    have hB1 : Below w.heap.size w w1 := by
      (repeat' (first | (with_reducible exact Below.refl _ _) | (with_reducible assumption) | (with_reducible refine belowNext ?_ (by with_reducible assumption)) | (with_reducible refine belowAlloc ?_ _) | (with_reducible refine Below.drew ?_) | (with_reducible refine below_drewN ?_ _) | (with_reducible refine Below.setCell ?_ ?_ _) | go_size | (with_reducible refine sizeOf' ?_) | (with_reducible refine sizeAdd ?_) | (dsimp only; first | (with_reducible refine sizeOf' ?_) | (with_reducible refine sizeAdd ?_))))
    have hmf : ∀ (fn : Fn) (first cap : Array Value) (w : World), (Instr.makeFunc fn first cap).run Try.prog w = .ok (.func fn first cap) w := fun _ _ _ _ => rfl
    clear hb1
    go_wp2_with fail
    refine (HS2.out _ _ hz0 s0 s1).mono ?_
    rintro e w3 ⟨rfl, hb3⟩
    have t0 := cellThru hb3 hz1 q0
    have t1 := cellThru hb3 hz1 q1
    have u0 := frozThru hb3 hz1 g0
    have u1 := frozThru hb3 hz1 g1
    have hB3 : Below w.heap.size w w3 := belowNext hB1 hb3
    clear hb3 q0 q1 g0 g1
    go_wp2
    refine bodyPost_ret (v := .tuple #[sqV X Y, .int .i64 C]) (by simp [results, Try.results54, go_sem, sqV, t0, t1]) rfl ⟨rfl, ?_⟩
    (repeat' (first | (with_reducible exact Below.refl _ _) | (with_reducible assumption) | (with_reducible refine belowNext ?_ (by with_reducible assumption)) | (with_reducible refine belowAlloc ?_ _) | (with_reducible refine Below.drew ?_) | (with_reducible refine below_drewN ?_ _) | (with_reducible refine Below.setCell ?_ ?_ _) | go_size | (with_reducible refine sizeOf' ?_) | (with_reducible refine sizeAdd ?_) | (dsimp only; first | (with_reducible refine sizeOf' ?_) | (with_reducible refine sizeAdd ?_))))

theorem implKneadingOf (n d : Int) (w : World) :
    Calls Try.prog 56 #[ang n d] w fun e w' => e = .returned (.tuple #[sqV (itS n d n d).1 (itS n d n d).2, .int .i64 (itC n d n d)]) ∧ Below w.heap.size w w' := by
  have HA := Lib.hid (fun w => implItineraryOf n d n d w)
  generalize (itS n d n d).1 = X at *
  generalize (itS n d n d).2 = Y at *
  generalize itC n d n d = C at *
  go_enter Try.func56, Try.ntmps56
  go_wp2_with fail
  refine (HA.out _).mono ?_
  rintro e w1 ⟨rfl, hb1⟩
  have hz1 : w.heap.size + 1 < w1.heap.size := by have := hb1.size; simp at this; omega
  have q0 : w1.cell? ⟨w.heap.size + 1, 0, none⟩ = some (.string ⟨#[]⟩) := cellThru hb1 (by simp) (by simp [go_sem])
  have q1 : w1.cell? ⟨w.heap.size + 1, 1, none⟩ = some (.string ⟨#[]⟩) := cellThru hb1 (by simp) (by simp [go_sem])
  have g0 : w1.frozen? ⟨w.heap.size + 1, 0, none⟩ = false := frozThru hb1 (by simp) (by simp [go_sem])
  have g1 : w1.frozen? ⟨w.heap.size + 1, 1, none⟩ = false := frozThru hb1 (by simp) (by simp [go_sem])
  go_wp2
  refine bodyPost_ret (v := .tuple #[sqV X Y, .int .i64 C]) (by simp [results, Try.results56, go_sem, sqV, q0, q1]) rfl ⟨rfl, ?_⟩
  (repeat' (first | (with_reducible exact Below.refl _ _) | (with_reducible assumption) | (with_reducible refine belowNext ?_ (by with_reducible assumption)) | (with_reducible refine belowAlloc ?_ _) | (with_reducible refine Below.drew ?_) | (with_reducible refine below_drewN ?_ _) | (with_reducible refine Below.setCell ?_ ?_ _) | go_size | (with_reducible refine sizeOf' ?_) | (with_reducible refine sizeAdd ?_) | (dsimp only; first | (with_reducible refine sizeOf' ?_) | (with_reducible refine sizeAdd ?_))))
end Go.Proofs.Ytbdedljhdjjlaaa

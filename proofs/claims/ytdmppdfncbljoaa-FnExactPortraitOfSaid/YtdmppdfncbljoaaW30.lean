/-
  A list of angles as an argument of a law: opened, counted, copied, marked.
-/
import Derived.Test.YtdmppdfncbljoaaW8
import Derived.Test.YtdmppdfncbljoaaOnly
import Derived.Test.YtdmppdfncbljoaaV0
import Derived.Deep.Slices
import Derived.OwnWalk
namespace Go.Proofs.Ytdmppdfncbljoaa
open Go.ChangeShapes Go.WideShapes Go.ChangeAt Go.RowKit Go.Joins Go.Deep

theorem laidOutAllA : laidOutB Try.prog = true := by kernel_rfl
theorem cell_inA {w : World} {p : Addr} {v : Value} (h : w.cell? p = some v) : p.block < w.heap.size := by
  rcases Nat.lt_or_ge p.block w.heap.size with h1 | h1
  · exact h1
  · simp [World.cell?, Array.getElem?_eq_none h1] at h

section
variable {H : Type} {enc : TypeId × Value → H} {w : World} {base : Nat} {spare : Nat → Bool} {held : Bool}
end

theorem AngOwn.only {b : Nat} {w w' : World} (h : OnlyB b w w') {lo : Nat} {A : Option Addr} {l : List (Int × Int)} (hl : AngOwn w lo A l) (hlo : b < lo) : AngOwn w' lo A l := by
  intro hne
  obtain ⟨g, off, e, h1, h2, hc⟩ := hl hne
  have hgb : ∀ o, (⟨g, o, none⟩ : Addr).block ≠ b := fun o => by show g ≠ b; omega
  refine ⟨g, off, e, h1, by rw [h.1]; exact h2, fun i n d hi => ?_⟩
  obtain ⟨a0, a1, f0, f1⟩ := hc i n d hi
  exact ⟨(h.cell (hgb _)).trans a0, (h.cell (hgb _)).trans a1, (h.frozen (hgb _)).trans f0, (h.frozen (hgb _)).trans f1⟩

set_option maxHeartbeats 2000000 in
theorem markAngX (b0 off0 len cap : Nat) (l : List (Int × Int)) (k0 : Int) (w : World) (hr : AngOwn w b0 (some ⟨b0, off0, none⟩) l) (hl : l.length = len) (hk0 : 0 ≤ k0) (hk1 : k0 ≤ 1000000000) (hm : len ≤ 1000000000000) :
    Calls Try.prog 49 #[.slice (some ⟨b0, off0, none⟩) len cap, .int .i64 k0] w fun e w' => e = .returned (.int .i64 (k0 + 2 * (len : Int))) ∧ Hid (OnlyB b0 w w' ∧ Below b0 w w') := by
  have HR := Lib.hid hr
  have HL := Lib.hid hl
  clear hr hl
  go_enter Try.func49, Try.ntmps49
  go_wp2
  go_loopw [1, 5] (fun q i wr => ∃ k : Nat, k ≤ len ∧ i = .int .i64 k ∧ q = .int .i64 (k0 + 2 * (k : Int)) ∧ Hid (AngOwn wr b0 (some ⟨b0, off0, none⟩) (marked k0 l k) ∧ Below b0 w wr ∧ OnlyB b0 w wr)) (fun _ i _ => len - (intOf i).toNat)
  case atStart => exact ⟨0, by omega, rfl, by simp, Lib.hid ⟨by rw [marked_none]; exact HR.out, Below.refl _ _, OnlyB.refl _ _⟩⟩
  case round =>
    obtain ⟨k, hk, rfl, rfl, H⟩ := hrel
    by_cases hlt : k < len
    · have hkl : k < l.length := by have := HL.out; omega
      obtain ⟨n, d, hnd⟩ : ∃ n d, l[k] = (n, d) := ⟨_, _, rfl⟩
      have hk2 : (marked k0 l k)[k]? = some (n, d) := by rw [marked_old (Nat.le_refl _), List.getElem?_eq_getElem hkl, hnd]
      have hne : marked k0 l k ≠ [] := by intro h; rw [h] at hk2; simp at hk2
      obtain ⟨b, off, hA, hlo, hbb, hcells⟩ := H.out.1 hne
      obtain ⟨rfl, rfl⟩ : b0 = b ∧ off0 = off := by simpa using hA
      obtain ⟨x0, x1, x2, x3⟩ := hcells k n d hk2
      have HC := Lib.hid hcells
      clear hcells hne hnd hA
      go_wp2
      go_roundw
      case rel =>
        refine ⟨k + 1, by omega, by go_num, by go_num, Lib.hid ⟨?_, ?_, ?_⟩⟩
        · exact mark_step hkl hlo hbb HC.out
        · exact (H.out.2.1.setCell hlo _).setCell hlo _
        · exact (H.out.2.2.set _ _).set _ _
      case measure => simp [intOf]; omega
    · obtain rfl : k = len := by omega
      have H1 := Lib.hid (And.intro H.out.2.2 H.out.2.1)
      go_wp2
      go_ret
      exact ⟨rfl, H1⟩

theorem infoAg : (Try.prog.info? 29).map (fun i => (i.zero, i.size, i.bytes)) = some (some (.agg #[.int .i64 0, .int .i64 0]), 2, 16) := by kernel_rfl
theorem infoAg_parts {t : TypeId} {z : Value} {s b : Nat} (h : (Try.prog.info? t).map (fun i => (i.zero, i.size, i.bytes)) = some (some z, s, b)) : ∃ i, Try.prog.info? t = some i ∧ i.zero = some z ∧ i.size = s ∧ i.bytes = b := by
  cases hi : Try.prog.info? t with
  | none => rw [hi] at h; cases h
  | some i =>
    rw [hi] at h
    simp only [Option.map_some, Option.some.injEq, Prod.mk.injEq] at h
    exact ⟨i, rfl, h.1, h.2.1, h.2.2⟩
/-- The first k angles have been copied into the block g, which has room for n. -/
structure FillA (w : World) (g n : Nat) (l : List (Int × Int)) (k : Nat) (W : World) : Prop where
  B : Below w.heap.size w W
  lo : w.heap.size ≤ g
  z : g < W.heap.size
  got : ∀ (i : Nat) (a b : Int), i < k → l[i]? = some (a, b) → W.cell? ⟨g, i * 2, none⟩ = some (.int .i64 a) ∧ W.cell? ⟨g, i * 2 + 1, none⟩ = some (.int .i64 b)
  there : ∀ o, o < n * 2 → ∃ v, W.cell? ⟨g, o, none⟩ = some v
  free : ∀ o, W.frozen? ⟨g, o, none⟩ = false
theorem FillA.next {w W W1 : World} {g n k : Nat} {l : List (Int × Int)} (H : FillA w g n l k W) (hb : Below W.heap.size W W1) : FillA w g n l k W1 :=
  ⟨belowNext H.B hb, H.lo, Nat.lt_of_lt_of_le H.z hb.size, fun i a b hi hx => ⟨cellThru hb H.z (H.got i a b hi hx).1, cellThru hb H.z (H.got i a b hi hx).2⟩, fun o ho => (H.there o ho).imp fun _ hv => cellThru hb H.z hv, fun o => frozThru hb H.z (H.free o)⟩
theorem FillA.put {w W : World} {g n k : Nat} {l : List (Int × Int)} {a b : Int} (H : FillA w g n l k W) (hk : k < n) (hx : l[k]? = some (a, b)) :
    FillA w g n l (k + 1) ((W.setCell ⟨g, k * 2, none⟩ (.int .i64 a)).setCell ⟨g, k * 2 + 1, none⟩ (.int .i64 b)) := by
  obtain ⟨u0, h0⟩ := H.there (k * 2) (by omega)
  obtain ⟨u1, h1⟩ := H.there (k * 2 + 1) (by omega)
  have t0 := first2 (x := .int .i64 a) (y := .int .i64 b) (show k * 2 ≠ k * 2 + 1 by omega) h0
  have t1 := second2 (x := .int .i64 a) (y := .int .i64 b) (show k * 2 ≠ k * 2 + 1 by omega) h1
  refine ⟨(H.B.setCell H.lo _).setCell H.lo _, H.lo, by simpa using H.z, fun i a' b' hi hx' => ?_, fun o ho => ?_, fun o => by simpa using H.free o⟩
  · by_cases hik : i = k
    · subst hik
      rw [hx] at hx'
      injection hx' with hx'
      simp only [Prod.mk.injEq] at hx'
      obtain ⟨rfl, rfl⟩ := hx'
      exact ⟨t0, t1⟩
    · obtain ⟨a1, a2⟩ := H.got i a' b' (by omega) hx'
      exact ⟨(other2 (by omega) (by omega)).trans a1, (other2 (by omega) (by omega)).trans a2⟩
  · by_cases h : o = k * 2
    · subst h; exact ⟨_, t0⟩
    · by_cases h2 : o = k * 2 + 1
      · subst h2; exact ⟨_, t1⟩
      · obtain ⟨v, hv⟩ := H.there o ho
        exact ⟨v, (other2 h h2).trans hv⟩
theorem belowGrownA {A B : World} (h : A.grownBy B none) : Below A.heap.size A B := ⟨h.os, h.tape, h.output, h.size, fun k hk => h.block k hk (by simp)⟩

end Go.Proofs.Ytdmppdfncbljoaa

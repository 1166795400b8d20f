/-
  Contracts: lists of angles; sums and doubles.
-/
import Derived.Test.YtnciiodgkanpjaaW2
namespace Go.Proofs.Ytnciiodgkanpjaa
open Go.RowKit

theorem retB {a b : Bool} (h : a = b) : Ending.returned (.bool a) = .returned (.bool b) := by rw [h]
theorem retI {k : IntKind} {a b : Int} (h : a = b) : Ending.returned (.int k a) = .returned (.int k b) := by rw [h]

/-- A slice with the address A holds the angles l, in a block below B. -/
def AngRow (w : World) (B : Nat) (A : Option Addr) (l : List (Int × Int)) : Prop :=
  l ≠ [] → ∃ b off, A = some ⟨b, off, none⟩ ∧ b < B ∧ ∀ i n d, l[i]? = some (n, d) → w.cell? ⟨b, off + i * 2, none⟩ = some (.int .i64 n) ∧ w.cell? ⟨b, off + i * 2 + 1, none⟩ = some (.int .i64 d)

theorem AngRow.keep {w w' : World} {B : Nat} {A : Option Addr} {l : List (Int × Int)} (h : AngRow w B A l) (hk : ∀ p : Addr, p.block < B → w'.cell? p = w.cell? p) : AngRow w' B A l := by
  intro hl
  obtain ⟨b, off, e, hb, hc⟩ := h hl
  exact ⟨b, off, e, hb, fun i n d hi => ⟨(hk _ hb).trans (hc i n d hi).1, (hk _ hb).trans (hc i n d hi).2⟩⟩
theorem AngRow.below {w w' : World} {B : Nat} {A : Option Addr} {l : List (Int × Int)} (h : AngRow w B A l) (hb : Below B w w') : AngRow w' B A l := h.keep fun _ hp => hb.cell hp
theorem AngRow.more {w : World} {B B' : Nat} {A : Option Addr} {l : List (Int × Int)} (h : AngRow w B A l) (hB : B ≤ B') : AngRow w B' A l := by
  intro hl
  obtain ⟨b, off, e, hb, hc⟩ := h hl
  exact ⟨b, off, e, by omega, hc⟩

/-- Whether all of a list are angles. -/
def allAng (l : List (Int × Int)) : Bool := l.all fun x => isAng x.1 x.2
theorem allAng_no {l : List (Int × Int)} {k : Nat} {n d : Int} (h : l[k]? = some (n, d)) (hi : isAng n d = false) : allAng l = false := by
  unfold allAng
  rw [List.all_eq_false]
  exact ⟨(n, d), List.mem_of_getElem? h, by simp [hi]⟩
theorem allAng_yes {l : List (Int × Int)} (h : ∀ i, i < l.length → ∃ n d, l[i]? = some (n, d) ∧ isAng n d = true) : allAng l = true := by
  unfold allAng
  rw [List.all_eq_true]
  intro x hx
  obtain ⟨i, hi, rfl⟩ := List.getElem_of_mem hx
  obtain ⟨n, d, e, hd⟩ := h i hi
  rw [List.getElem?_eq_getElem hi] at e
  injection e with e
  rw [e]
  exact hd

set_option maxHeartbeats 400000 in
theorem areAng (A : Option Addr) (len cap : Nat) (l : List (Int × Int)) (w : World) (hr : AngRow w w.heap.size A l) (hl : l.length = len) (hm : len ≤ 9223372036854775807) :
    Calls Try.prog 55 #[.slice A len cap] w fun e w' => e = .returned (.bool (allAng l)) ∧ Below w.heap.size w w' := by
  obtain ⟨B, hB⟩ : ∃ B, B = w.heap.size := ⟨_, rfl⟩
  have HR := Lib.hid hr
  have HL := Lib.hid hl
  clear hr hl
  generalize hR : allAng l = R
  have HA := Lib.hid hR
  clear hR
  go_enter Try.func55, Try.ntmps55
  go_wp2
  go_loopw [7] (fun i wr => ∃ k : Nat, k ≤ len ∧ i = .int .i64 k ∧ Hid (∀ i, i < k → ∃ n d, l[i]? = some (n, d) ∧ isAng n d = true) ∧ Below w.heap.size w wr) (fun i _ => len - (intOf i).toNat)
  case atStart => exact ⟨0, by omega, rfl, Lib.hid (fun i h => absurd h (by omega)), Below.refl _ _⟩
  case round =>
    obtain ⟨k, hk, rfl, HY, hbe⟩ := hrel
    by_cases hlt : k < len
    · have hkl : k < l.length := by have := HL.out; omega
      obtain ⟨n, d, hnd⟩ : ∃ n d, l[k] = (n, d) := ⟨_, _, rfl⟩
      have hk2 : l[k]? = some (n, d) := by rw [List.getElem?_eq_getElem hkl, hnd]
      obtain ⟨b, off, rfl, hbb, hcells⟩ := HR.out (by intro h; rw [h] at hkl; simp at hkl)
      obtain ⟨hx, hy⟩ := hcells k n d hk2
      have hx' := (hbe.cell (p := ⟨b, off + k * 2, none⟩) hbb).trans hx
      have hy' := (hbe.cell (p := ⟨b, off + k * 2 + 1, none⟩) hbb).trans hy
      have HK := Lib.hid hk2
      clear hnd hcells hx hy hk2
      cases hi : isAng n d
      all_goals
        have HI := Lib.hid hi
        clear hi
        go_wp2_with fail
        refine (implIs _ _ _).mono ?_
        rintro e w1 ⟨rfl, hb1⟩
        rw [HI.out]
        go_wp2
      · have E : Hid (R = false) := Lib.hid (HA.out.symm.trans (allAng_no HK.out HI.out))
        go_ret
        refine ⟨retB E.out.symm, ?_⟩
        (repeat' (first | (with_reducible exact Below.refl _ _) | (with_reducible assumption) | (with_reducible refine belowNext ?_ (by with_reducible assumption)) | (with_reducible refine belowAlloc ?_ _) | (with_reducible refine Below.drew ?_) | (with_reducible refine below_drewN ?_ _) | (with_reducible refine Below.setCell ?_ ?_ _) | go_size | (with_reducible refine sizeOf' ?_) | (with_reducible refine sizeAdd ?_) | (dsimp only; first | (with_reducible refine sizeOf' ?_) | (with_reducible refine sizeAdd ?_))))
      · go_roundw
        case rel =>
          refine ⟨k + 1, by omega, by go_num, Lib.hid (fun i h => ?_), ?_⟩
          · by_cases hik : i = k
            · subst hik; exact ⟨n, d, HK.out, HI.out⟩
            · exact HY.out i (by omega)
          · (repeat' (first | (with_reducible exact Below.refl _ _) | (with_reducible assumption) | (with_reducible refine belowNext ?_ (by with_reducible assumption)) | (with_reducible refine belowAlloc ?_ _) | (with_reducible refine Below.drew ?_) | (with_reducible refine below_drewN ?_ _) | (with_reducible refine Below.setCell ?_ ?_ _) | go_size | (with_reducible refine sizeOf' ?_) | (with_reducible refine sizeAdd ?_) | (dsimp only; first | (with_reducible refine sizeOf' ?_) | (with_reducible refine sizeAdd ?_))))
        case measure => simp [intOf]; omega
    · obtain rfl : k = len := by omega
      have E : Hid (R = true) := Lib.hid (HA.out.symm.trans (allAng_yes (by rw [HL.out]; exact HY.out)))
      go_wp2
      go_ret
      refine ⟨retB E.out.symm, ?_⟩
      (repeat' (first | (with_reducible exact Below.refl _ _) | (with_reducible assumption) | (with_reducible refine belowNext ?_ (by with_reducible assumption)) | (with_reducible refine belowAlloc ?_ _) | (with_reducible refine Below.drew ?_) | (with_reducible refine below_drewN ?_ _) | (with_reducible refine Below.setCell ?_ ?_ _) | go_size | (with_reducible refine sizeOf' ?_) | (with_reducible refine sizeAdd ?_) | (dsimp only; first | (with_reducible refine sizeOf' ?_) | (with_reducible refine sizeAdd ?_))))
end Go.Proofs.Ytnciiodgkanpjaa

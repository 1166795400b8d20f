/-
  Contracts: orbits, as the model reckons them.
-/
import Derived.Test.YtnciiodgkanpjaaW8
import Derived.Test.YtnciiodgkanpjaaW7
import Derived.Test.YtnciiodgkanpjaaOrb
import Derived.Deep.DeepCutAuto
import Derived.Deep.AppendLies
import Derived.RangeFuncBox
import Derived.WalkSmall
import Derived.OneCell
namespace Go.Proofs.Ytnciiodgkanpjaa
open Go.RowKit

/-- The cells of the first k angles of an orbit. -/
def flat (p : Int × Int) : Nat → List Value
  | 0 => []
  | k + 1 => flat p k ++ [.int .i64 (orb p k).1, .int .i64 (orb p k).2]
theorem flat_len (p : Int × Int) : ∀ k, (flat p k).length = k * 2
  | 0 => rfl
  | k + 1 => by simp [flat, flat_len p k]; omega
theorem flat_at (p : Int × Int) {i : Nat} : ∀ {k : Nat}, i < k → (flat p k)[i * 2]? = some (.int .i64 (orb p i).1) ∧ (flat p k)[i * 2 + 1]? = some (.int .i64 (orb p i).2)
  | 0, h => absurd h (by omega)
  | k + 1, h => by
    by_cases e : i = k
    · subst e
      have hl := flat_len p i
      simp only [flat]
      rw [List.getElem?_append_right (by omega), List.getElem?_append_right (by omega), hl]
      simp
    · have ih := flat_at p (show i < k by omega)
      have hl := flat_len p k
      simp only [flat]
      rw [List.getElem?_append_left (by omega), List.getElem?_append_left (by omega)]
      exact ih
theorem flat_one (p : Int × Int) : ∀ k, ∀ u ∈ flat p k, u.oneCell' = true
  | 0, u, h => by simp [flat] at h
  | k + 1, u, h => by
    simp only [flat, List.mem_append] at h
    rcases h with h | h
    · exact flat_one p k u h
    · simp at h; rcases h with rfl | rfl <;> rfl

theorem storeB {W : World} {g : Nat} {x y X Y : Value} (h0 : W.cell? ⟨g, 0, none⟩ = some x) (h1 : W.cell? ⟨g, 1, none⟩ = some y) :
    ((W.setCell ⟨g, 0, none⟩ X).setCell ⟨g, 1, none⟩ Y).cell? ⟨g, 0, none⟩ = some X ∧ ((W.setCell ⟨g, 0, none⟩ X).setCell ⟨g, 1, none⟩ Y).cell? ⟨g, 1, none⟩ = some Y := by
  have a : (W.setCell ⟨g, 0, none⟩ X).cell? ⟨g, 1, none⟩ = some y := by rw [World.cell?_setCell_other _ _ _ _ (by simp)]; exact h1
  refine ⟨?_, World.cell?_setCell_same _ _ _ a⟩
  rw [World.cell?_setCell_other _ _ _ _ (by simp)]
  exact World.cell?_setCell_same _ _ _ h0

/-- The angle number k is the one behind the preperiod, met again. -/
def hit (p : Int × Int) (k : Nat) : Bool := decide (pre p < k) && eqA (orb p k).1 (orb p k).2 (orb p (pre p)).1 (orb p (pre p)).2
/-- The first such number from k on, looked for so often. -/
def findOrb (p : Int × Int) : Nat → Nat → Option Nat
  | 0, _ => none
  | f + 1, k => if hit p k then some k else findOrb p f (k + 1)

def lenOf : Value → Nat
  | .slice _ n _ => n
  | _ => 0

/-- What holds when k angles have been gathered. -/
def OrbSt (w : World) (p : Int × Int) (k : Nat) (v : Value) (g : Nat) (wr : World) : Prop :=
  k ≤ 64 ∧ wr.ownsRow w.heap.size 25 2 v k (flat p k) ∧ v.ownBlock ≠ some g ∧ wr.cell? ⟨g, 0, none⟩ = some (.int .i64 (orb p k).1) ∧ wr.cell? ⟨g, 1, none⟩ = some (.int .i64 (orb p k).2) ∧
    g < wr.heap.size ∧ Below w.heap.size w wr ∧ findOrb p (65 - k) k = findOrb p 65 0

/-- What the model's orbit answers. -/
def ResOrb (w : World) (p : Int × Int) (e : Ending) (w' : World) : Prop :=
  match findOrb p 65 0 with
  | some k => ∃ A cap, e = .returned (.tuple #[.slice A k cap, .int .i64 (pre p : Int), .bool true]) ∧ w'.ownsRow w.heap.size 25 2 (.slice A k cap) k (flat p k) ∧ Below w.heap.size w w'
  | none => e = .returned (.tuple #[.slice none 0 0, .int .i64 0, .bool false]) ∧ Below w.heap.size w w'

theorem twos_le : ∀ (f : Nat) (d : Int), twos f d ≤ f
  | 0, _ => Nat.le_refl _
  | f + 1, d => by
    simp only [twos]
    split
    · have := twos_le f (d / 2); omega
    · omega
theorem infoA : (Try.prog.info? 25).map (fun i => (i.zero, i.size, i.bytes)) = some (some (.agg #[.int .i64 0, .int .i64 0]), 2, 16) := by kernel_rfl

set_option maxRecDepth 100000 in
set_option maxHeartbeats 2000000 in
theorem specOrbit (n d : Int) (w : World) (h : Red (n, d)) : Calls Try.prog 54 #[ang n d] w (ResOrb w (n, d)) := by
  obtain ⟨i0, hi, hz0, hz1, hz2⟩ := info_parts infoA
  have HRed := Lib.hid h
  obtain ⟨b1, b2, b3, b4, b5⟩ := h
  have ht := twos_spec 14 d b1 (by omega)
  have HT : Hid ((∀ k, k < pre (n, d) → ((d / 2 ^ k) % 2 = 0)) ∧ (d / 2 ^ (pre (n, d))) % 2 = 1) := Lib.hid ht
  clear ht b5
  obtain ⟨P, hP⟩ : ∃ P, pre (n, d) = P := ⟨_, rfl⟩
  have hP14 : P ≤ 14 := by rw [← hP]; exact twos_le 14 d
  have HP := Lib.hid hP
  rw [hP] at HT
  clear hP
  go_enter Try.func54, Try.ntmps54
  go_wp2
  go_loop [5, 6] (fun i x => ∃ k : Nat, k ≤ P ∧ i = .int .i64 k ∧ ∃ dd : Int, x = .int .i64 dd ∧ Hid (dd = d / 2 ^ k) ∧ 1 ≤ dd ∧ dd ≤ 8191) (fun _ x => (intOf x).toNat)
  case atStart => exact ⟨0, by omega, rfl, d, rfl, Lib.hid (by simp), b1, b2⟩
  case round =>
    obtain ⟨k, hk, rfl, dd, rfl, H, hd1, hd2⟩ := hrel
    by_cases hlt : k < P
    · have he : (dd % 2 == 0) = true := by have := HT.out.1 k hlt; rw [← H.out] at this; simpa using this
      have hh : 1 ≤ dd / 2 := by
        have := HT.out.1 k hlt; rw [← H.out] at this; omega
      go_wp2
      go_round
      case rel => exact ⟨k + 1, by omega, by go_num, dd / 2, rfl, Lib.hid (by rw [H.out, Int.pow_succ, Int.ediv_ediv_of_nonneg (Int.le_of_lt (Int.pow_pos (by omega)))]), by omega, by omega⟩
      case measure => simp [intOf]; omega
    · obtain rfl : P = k := by omega
      have he : (dd % 2 == 0) = false := by have := HT.out.2; rw [← H.out] at this; simp; omega
      go_wp2
      clear he H hd1 hd2 HT
      have hst : OrbSt w (n, d) 0 (.slice (some ⟨w.heap.size + 1, 0, none⟩) 0 0) (w.heap.size + 1 + 1) (((w.alloc (.cells #[.int .i64 n, .int .i64 d] 25)).alloc (.cells #[] 25)).alloc (.cells #[.int .i64 n, .int .i64 d] 25)) := by
        refine ⟨by omega, ⟨rfl, .inr ⟨w.heap.size + 1, 0, #[], rfl, by omega, ?_, by omega, by unfold maxLen; omega, rfl, rfl⟩⟩, by simp [Value.ownBlock], by simp [go_sem, orb], by simp [go_sem, orb], by simp, ?_, rfl⟩
        · have e := heap_alloc_new (w.alloc (.cells #[.int .i64 n, .int .i64 d] 25)) (.cells #[] 25)
          simp only [World.size_alloc] at e
          exact (Below.heap_alloc _ _ _ (by simp)).trans e
        · (repeat' (first | (with_reducible exact Below.refl _ _) | (with_reducible assumption) | (with_reducible refine belowNext ?_ (by with_reducible assumption)) | (with_reducible refine belowAlloc ?_ _) | (with_reducible refine Below.drew ?_) | (with_reducible refine below_drewN ?_ _) | (with_reducible refine Below.setCell ?_ ?_ _) | go_size | (with_reducible refine sizeOf' ?_) | (with_reducible refine sizeAdd ?_) | (dsimp only; first | (with_reducible refine sizeOf' ?_) | (with_reducible refine sizeAdd ?_))))
      have HS := Lib.hid hst
      clear hst
      go_loopw [7, 8] (fun v x wr => ∃ (k : Nat) (A : Option Addr) (cap g : Nat), v = .slice A k cap ∧ x = .pointer (some ⟨g, 0, none⟩) ∧ Hid (OrbSt w (n, d) k v g wr)) (fun v _ _ => 65 - lenOf v)
      case atStart => exact ⟨0, _, _, _, rfl, rfl, HS⟩
      case round =>
        obtain ⟨k, A, cap, g, rfl, rfl, H⟩ := hrel
        obtain ⟨hk, hown, hne, x0, x1, hg, hB, hF⟩ := H.out
        have HF := Lib.hid hF
        clear hF
        have hmeet : (k > P ∧ hit (n, d) k = true) ∨ (k > P ∧ hit (n, d) k = false ∧ eqA (orb (n, d) k).1 (orb (n, d) k).2 (orb (n, d) P).1 (orb (n, d) P).2 = false) ∨ (k ≤ P ∧ hit (n, d) k = false) := by
          unfold hit
          rw [HP.out]
          by_cases hh : P < k
          · cases e : eqA (orb (n, d) k).1 (orb (n, d) k).2 (orb (n, d) P).1 (orb (n, d) P).2
            · exact .inr (.inl ⟨hh, by simp, rfl⟩)
            · exact .inl ⟨hh, by simp [hh]⟩
          · exact .inr (.inr ⟨by omega, by simp [hh]⟩)
        rcases hmeet with ⟨h1, h2⟩ | ⟨h1, h2, h3⟩ | ⟨h1, h2⟩
        · have hq : eqA (orb (n, d) k).1 (orb (n, d) k).2 (orb (n, d) P).1 (orb (n, d) P).2 = true := by
            unfold hit at h2; rw [HP.out] at h2; simp at h2; exact h2.2
          have hk0 : 0 < k := by omega
          obtain ⟨gb, cb, hA, _, hgb⟩ := hown.form hk0
          obtain ⟨rfl, rfl⟩ : A = some ⟨gb, 0, none⟩ ∧ cap = cb := by injection hA with hA hn hc; exact ⟨hA, hc⟩
          clear hA
          have fa := flat_at (n, d) (show P < k by omega)
          have p0 : wr.cell? ⟨gb, P * 2, none⟩ = some (.int .i64 (orb (n, d) P).1) := (hown.cellAt (P * 2) (by omega)).trans fa.1
          have p1 : wr.cell? ⟨gb, P * 2 + 1, none⟩ = some (.int .i64 (orb (n, d) P).2) := (hown.cellAt (P * 2 + 1) (by omega)).trans fa.2
          clear fa
          have Q1 := fun W => eqlAng (orb (n, d) k).1 (orb (n, d) k).2 (orb (n, d) P).1 (orb (n, d) P).2 W
          have hd1 : decide (P < k) = true := by simp; omega
          rw [hq] at Q1
          clear hq
          have HN : Hid (findOrb (n, d) 65 0 = some k) := Lib.hid (by
            rw [← HF.out]
            have e : 65 - k = (65 - (k + 1)) + 1 := by omega
            rw [e]; simp only [findOrb]; rw [h2]; simp)
          have HW := Lib.hid hown
          clear hown h2
          go_wp2_with fail
          go_quiet (fail)
          go_wp2
          refine bodyPost_ret (v := .tuple #[.slice (some ⟨gb, 0, none⟩) k cap, .int .i64 (P : Int), .bool true]) (by simp [results, Try.results54, go_sem]) rfl ?_
          show ResOrb _ _ _ _
          unfold ResOrb
          rw [HN.out, HP.out]
          refine ⟨_, _, rfl, HW.out, ?_⟩
          (repeat' (first | (with_reducible exact Below.refl _ _) | (with_reducible assumption) | (with_reducible refine belowNext ?_ (by with_reducible assumption)) | (with_reducible refine belowAlloc ?_ _) | (with_reducible refine Below.drew ?_) | (with_reducible refine below_drewN ?_ _) | (with_reducible refine Below.setCell ?_ ?_ _) | go_size | (with_reducible refine sizeOf' ?_) | (with_reducible refine sizeAdd ?_) | (dsimp only; first | (with_reducible refine sizeOf' ?_) | (with_reducible refine sizeAdd ?_))))
        · have hq := h3
          clear h3
          have hk0 : 0 < k := by omega
          obtain ⟨gb, cb, hA, _, hgb⟩ := hown.form hk0
          obtain ⟨rfl, rfl⟩ : A = some ⟨gb, 0, none⟩ ∧ cap = cb := by injection hA with hA hn hc; exact ⟨hA, hc⟩
          clear hA
          have fa := flat_at (n, d) (show P < k by omega)
          have p0 : wr.cell? ⟨gb, P * 2, none⟩ = some (.int .i64 (orb (n, d) P).1) := (hown.cellAt (P * 2) (by omega)).trans fa.1
          have p1 : wr.cell? ⟨gb, P * 2 + 1, none⟩ = some (.int .i64 (orb (n, d) P).2) := (hown.cellAt (P * 2 + 1) (by omega)).trans fa.2
          clear fa
          have Q1 := fun W => eqlAng (orb (n, d) k).1 (orb (n, d) k).2 (orb (n, d) P).1 (orb (n, d) P).2 W
          have hd1 : decide (P < k) = true := by simp; omega
          rw [hq] at Q1
          clear hq
          by_cases h64 : k = 64
          · subst h64
            have HN : Hid (findOrb (n, d) 65 0 = none) := Lib.hid (by
              rw [← HF.out]
              simp only [findOrb]; rw [h2]; simp)
            have hd2 : decide ((P : Int) < 64) = true := by simp; omega
            clear h2
            go_wp2_with fail
            go_quiet (fail)
            go_wp2
            refine bodyPost_ret (v := .tuple #[.slice none 0 0, .int .i64 0, .bool false]) (by simp [results, Try.results54, go_sem]) rfl ?_
            show ResOrb _ _ _ _
            unfold ResOrb
            rw [HN.out]
            refine ⟨rfl, ?_⟩
            (repeat' (first | (with_reducible exact Below.refl _ _) | (with_reducible assumption) | (with_reducible refine belowNext ?_ (by with_reducible assumption)) | (with_reducible refine belowAlloc ?_ _) | (with_reducible refine Below.drew ?_) | (with_reducible refine below_drewN ?_ _) | (with_reducible refine Below.setCell ?_ ?_ _) | go_size | (with_reducible refine sizeOf' ?_) | (with_reducible refine sizeAdd ?_) | (dsimp only; first | (with_reducible refine sizeOf' ?_) | (with_reducible refine sizeAdd ?_))))
          have hlt : k < 64 := by omega
          have hf : findOrb (n, d) (65 - k) k = findOrb (n, d) (65 - (k + 1)) (k + 1) := by
            have e : 65 - k = (65 - (k + 1)) + 1 := by omega
            rw [e]; simp only [findOrb]; rw [h2]; simp
          have HF2 := Lib.hid (hf.symm.trans HF.out)
          clear hf
          clear h2 h64
          go_wp2_with fail
          go_quiet (fail)
          clear Q1 p0 p1
          obtain ⟨nx, hnx⟩ : ∃ nx, (orb (n, d) k).1 = nx := ⟨_, rfl⟩
          obtain ⟨dx, hdx⟩ : ∃ dx, (orb (n, d) k).2 = dx := ⟨_, rfl⟩
          have hrd := orb_red HRed.out k
          have hmul := hrd.1
          have hmul2 := hrd.2.1
          have hmul3 := hrd.2.2.1
          have hmul4 := hrd.2.2.2.1
          rw [hnx] at x0 hmul3 hmul4
          rw [hdx] at x1 hmul hmul2 hmul4
          clear hrd
          have HX := Lib.hid (And.intro hnx hdx)
          clear hnx hdx
          go_wp2_with (at_builtin; refine wpList_append_own _ rfl _ _ 27 rfl w.heap.size 25 i0 (.agg #[.int .i64 0, .int .i64 0]) 2 16 Try.underlying27 hi hz0 hz1 hz2 rfl (by decide) _ _ _ rfl (World.ownsRow.alloc (w := wr.drewN nq) hown _) ⟨wr.heap.size, 0, none⟩ 1 1 [.int .i64 nx, .int .i64 dx] rfl rfl ?c1x ?c2x ?c3x ?c4x ?c5x ?_)
          case c1x => exact cell_two_new _ _ _ _
          case c2x => intro u hu; simp at hu; rcases hu with rfl | rfl <;> rfl
          case c3x => unfold maxLen; omega
          case c4x => omega
          case c5x => have := hB.size; simp; omega
          intro v' w1 hown' hgrow _
          obtain ⟨gn, capn, rfl⟩ := ownsRow_succ hown'
          have hz1 := hgrow.size
          simp at hz1
          obtain ⟨gn', capn', hvn, _, hgn⟩ := hown'.form (by omega)
          obtain rfl : gn = gn' := by injection hvn with hvn; injection hvn with hvn; injection hvn
          clear hvn
          have xx0 : w1.cell? ⟨g, 0, none⟩ = some (.int .i64 nx) := (World.cell?_of_block (hgrow.block g (by simp; omega) (fun e => hne e.symm))).trans ((World.cell?_alloc_lt _ _ _ hg).trans x0)
          have xx1 : w1.cell? ⟨g, 1, none⟩ = some (.int .i64 dx) := (World.cell?_of_block (hgrow.block g (by simp; omega) (fun e => hne e.symm))).trans ((World.cell?_alloc_lt _ _ _ hg).trans x1)
          have B1 : Below w.heap.size w w1 := by
            have hb0 : Below w.heap.size w ((wr.drewN nq).alloc (.cells #[.int .i64 nx, .int .i64 dx] 25)) := belowAlloc (below_drewN hB nq) _
            refine hb0.grown hgrow hb0.size (fun r e => ?_)
            rcases hown.2 with ⟨hv, _⟩ | ⟨g0, c0, cur, hv, hv2, _⟩
            · rw [hv] at e; simp [Value.ownBlock] at e
            · rw [hv] at e; simp [Value.ownBlock] at e; omega
          have HO := Lib.hid hown'
          clear hown' hgrow hown x0 x1
          go_wp2_with fail
          refine (specDbl _ _ _ (by omega) (by omega) (by omega) (by omega)).mono ?_
          rintro e w3 ⟨rfl, hb3⟩
          obtain ⟨hc3, hf3⟩ := bcell hb3
          have hz3 := hb3.size
          simp at hz3
          have y0 : w3.cell? ⟨w1.heap.size, 0, none⟩ = some (.int .i64 nx) := cellThru hb3 (by simp) (by simp [go_sem])
          have y1 : w3.cell? ⟨w1.heap.size, 1, none⟩ = some (.int .i64 dx) := cellThru hb3 (by simp) (by simp [go_sem])
          have z0 : w3.frozen? ⟨w1.heap.size, 0, none⟩ = false := frozThru hb3 (by simp) (by simp [go_sem])
          have z1 : w3.frozen? ⟨w1.heap.size, 1, none⟩ = false := frozThru hb3 (by simp) (by simp [go_sem])
          have B3 : Below w.heap.size w w3 := belowNext (belowAlloc B1 _) hb3
          have HO3 : Hid (w3.ownsRow w.heap.size 25 2 (.slice (some ⟨gn, 0, none⟩) (k + 1) capn) (k + 1) (flat (n, d) (k + 1))) := Lib.hid (by
            have e : flat (n, d) (k + 1) = flat (n, d) k ++ [.int .i64 nx, .int .i64 dx] := by simp only [flat]; rw [HX.out.1, HX.out.2]
            rw [e]
            exact (HO.out.alloc _).kept (row := none) ⟨hb3.os, hb3.tape, hb3.output, hb3.size, fun i hi _ => hb3.block i hi⟩ (.inr (by simp [Value.ownBlock])))
          have HD : Hid ((orb (n, d) (k + 1)).1 = redN (2 * nx) dx ∧ (orb (n, d) (k + 1)).2 = redD (2 * nx) dx) := Lib.hid (by
            show (dbl (orb (n, d) k)).1 = _ ∧ (dbl (orb (n, d) k)).2 = _
            unfold dbl; rw [HX.out.1, HX.out.2]; exact ⟨rfl, rfl⟩)
          generalize redN (2 * nx) dx = nn at *
          generalize redD (2 * nx) dx = dn at *
          clear hc3 hf3 hb3 B1
          go_wp2
          go_roundw
          case rel =>
            refine ⟨k + 1, _, _, _, rfl, rfl, Lib.hid ⟨by omega, ?_, ?_, ?_, ?_, ?_, ?_, HF2.out⟩⟩
            · exact ownsRow_setCell_other (ownsRow_setCell_other HO3.out (by simp [Value.ownBlock]; omega) _) (by simp [Value.ownBlock]; omega) _
            · simp [Value.ownBlock]; omega
            · rw [HD.out.1]; exact (storeB y0 y1).1
            · rw [HD.out.2]; exact (storeB y0 y1).2
            · simp; omega
            · (repeat' (first | (with_reducible exact Below.refl _ _) | (with_reducible assumption) | (with_reducible refine belowNext ?_ (by with_reducible assumption)) | (with_reducible refine belowAlloc ?_ _) | (with_reducible refine Below.drew ?_) | (with_reducible refine below_drewN ?_ _) | (with_reducible refine Below.setCell ?_ ?_ _) | go_size | (with_reducible refine sizeOf' ?_) | (with_reducible refine sizeAdd ?_) | (dsimp only; first | (with_reducible refine sizeOf' ?_) | (with_reducible refine sizeAdd ?_))))
          case measure => simp [lenOf]; omega
        · have hd1 : decide (P < k) = false := by simp; omega
          have hf : findOrb (n, d) (65 - k) k = findOrb (n, d) (65 - (k + 1)) (k + 1) := by
            have e : 65 - k = (65 - (k + 1)) + 1 := by omega
            rw [e]; simp only [findOrb]; rw [h2]; simp
          have HF2 := Lib.hid (hf.symm.trans HF.out)
          clear hf
          have hlt : k < 64 := by omega
          go_wp2_with fail
          go_quiet (fail)
          obtain ⟨nx, hnx⟩ : ∃ nx, (orb (n, d) k).1 = nx := ⟨_, rfl⟩
          obtain ⟨dx, hdx⟩ : ∃ dx, (orb (n, d) k).2 = dx := ⟨_, rfl⟩
          have hrd := orb_red HRed.out k
          have hmul := hrd.1
          have hmul2 := hrd.2.1
          have hmul3 := hrd.2.2.1
          have hmul4 := hrd.2.2.2.1
          rw [hnx] at x0 hmul3 hmul4
          rw [hdx] at x1 hmul hmul2 hmul4
          clear hrd
          have HX := Lib.hid (And.intro hnx hdx)
          clear hnx hdx
          go_wp2_with (at_builtin; refine wpList_append_own _ rfl _ _ 27 rfl w.heap.size 25 i0 (.agg #[.int .i64 0, .int .i64 0]) 2 16 Try.underlying27 hi hz0 hz1 hz2 rfl (by decide) _ _ _ rfl (World.ownsRow.alloc (w := wr.drewN nq) hown _) ⟨wr.heap.size, 0, none⟩ 1 1 [.int .i64 nx, .int .i64 dx] rfl rfl ?c1 ?c2 ?c3 ?c4 ?c5 ?_)
          case c1 => exact cell_two_new _ _ _ _
          case c2 => intro u hu; simp at hu; rcases hu with rfl | rfl <;> rfl
          case c3 => unfold maxLen; omega
          case c4 => omega
          case c5 => have := hB.size; simp; omega
          intro v' w1 hown' hgrow _
          obtain ⟨gn, capn, rfl⟩ := ownsRow_succ hown'
          have hz1 := hgrow.size
          simp at hz1
          obtain ⟨gn', capn', hvn, _, hgn⟩ := hown'.form (by omega)
          obtain rfl : gn = gn' := by injection hvn with hvn; injection hvn with hvn; injection hvn
          clear hvn
          have xx0 : w1.cell? ⟨g, 0, none⟩ = some (.int .i64 nx) := (World.cell?_of_block (hgrow.block g (by simp; omega) (fun e => hne e.symm))).trans ((World.cell?_alloc_lt _ _ _ hg).trans x0)
          have xx1 : w1.cell? ⟨g, 1, none⟩ = some (.int .i64 dx) := (World.cell?_of_block (hgrow.block g (by simp; omega) (fun e => hne e.symm))).trans ((World.cell?_alloc_lt _ _ _ hg).trans x1)
          have B1 : Below w.heap.size w w1 := by
            have hb0 : Below w.heap.size w ((wr.drewN nq).alloc (.cells #[.int .i64 nx, .int .i64 dx] 25)) := belowAlloc (below_drewN hB nq) _
            refine hb0.grown hgrow hb0.size (fun r e => ?_)
            rcases hown.2 with ⟨hv, _⟩ | ⟨g0, c0, cur, hv, hv2, _⟩
            · rw [hv] at e; simp [Value.ownBlock] at e
            · rw [hv] at e; simp [Value.ownBlock] at e; omega
          have HO := Lib.hid hown'
          clear hown' hgrow hown x0 x1
          go_wp2_with fail
          refine (specDbl _ _ _ (by omega) (by omega) (by omega) (by omega)).mono ?_
          rintro e w3 ⟨rfl, hb3⟩
          obtain ⟨hc3, hf3⟩ := bcell hb3
          have hz3 := hb3.size
          simp at hz3
          have y0 : w3.cell? ⟨w1.heap.size, 0, none⟩ = some (.int .i64 nx) := cellThru hb3 (by simp) (by simp [go_sem])
          have y1 : w3.cell? ⟨w1.heap.size, 1, none⟩ = some (.int .i64 dx) := cellThru hb3 (by simp) (by simp [go_sem])
          have z0 : w3.frozen? ⟨w1.heap.size, 0, none⟩ = false := frozThru hb3 (by simp) (by simp [go_sem])
          have z1 : w3.frozen? ⟨w1.heap.size, 1, none⟩ = false := frozThru hb3 (by simp) (by simp [go_sem])
          have B3 : Below w.heap.size w w3 := belowNext (belowAlloc B1 _) hb3
          have HO3 : Hid (w3.ownsRow w.heap.size 25 2 (.slice (some ⟨gn, 0, none⟩) (k + 1) capn) (k + 1) (flat (n, d) (k + 1))) := Lib.hid (by
            have e : flat (n, d) (k + 1) = flat (n, d) k ++ [.int .i64 nx, .int .i64 dx] := by simp only [flat]; rw [HX.out.1, HX.out.2]
            rw [e]
            exact (HO.out.alloc _).kept (row := none) ⟨hb3.os, hb3.tape, hb3.output, hb3.size, fun i hi _ => hb3.block i hi⟩ (.inr (by simp [Value.ownBlock])))
          have HD : Hid ((orb (n, d) (k + 1)).1 = redN (2 * nx) dx ∧ (orb (n, d) (k + 1)).2 = redD (2 * nx) dx) := Lib.hid (by
            show (dbl (orb (n, d) k)).1 = _ ∧ (dbl (orb (n, d) k)).2 = _
            unfold dbl; rw [HX.out.1, HX.out.2]; exact ⟨rfl, rfl⟩)
          generalize redN (2 * nx) dx = nn at *
          generalize redD (2 * nx) dx = dn at *
          clear hc3 hf3 hb3 B1
          go_wp2
          go_roundw
          case rel =>
            refine ⟨k + 1, _, _, _, rfl, rfl, Lib.hid ⟨by omega, ?_, ?_, ?_, ?_, ?_, ?_, HF2.out⟩⟩
            · exact ownsRow_setCell_other (ownsRow_setCell_other HO3.out (by simp [Value.ownBlock]; omega) _) (by simp [Value.ownBlock]; omega) _
            · simp [Value.ownBlock]; omega
            · rw [HD.out.1]; exact (storeB y0 y1).1
            · rw [HD.out.2]; exact (storeB y0 y1).2
            · simp; omega
            · (repeat' (first | (with_reducible exact Below.refl _ _) | (with_reducible assumption) | (with_reducible refine belowNext ?_ (by with_reducible assumption)) | (with_reducible refine belowAlloc ?_ _) | (with_reducible refine Below.drew ?_) | (with_reducible refine below_drewN ?_ _) | (with_reducible refine Below.setCell ?_ ?_ _) | go_size | (with_reducible refine sizeOf' ?_) | (with_reducible refine sizeAdd ?_) | (dsimp only; first | (with_reducible refine sizeOf' ?_) | (with_reducible refine sizeAdd ?_))))
          case measure => simp [lenOf]; omega
end Go.Proofs.Ytnciiodgkanpjaa

/-
  Boxes that a law keeps; lists that a law compares (laws.angles5, laws.likeInts); laws.less9.
-/
import Derived.Test.YtnciiodgkanpjaaWO
import Derived.BigQuiet
namespace Go.Proofs.Ytnciiodgkanpjaa
open Go.RowKit

structure Box2 (G : Nat) (x y : Int) (W : World) : Prop where
  z : G < W.heap.size
  c0 : W.cell? ⟨G, 0, none⟩ = some (.int .i64 x)
  c1 : W.cell? ⟨G, 1, none⟩ = some (.int .i64 y)
structure Box4 (G : Nat) (x y u v : Int) (W : World) : Prop where
  z : G < W.heap.size
  c0 : W.cell? ⟨G, 0, none⟩ = some (.int .i64 x)
  c1 : W.cell? ⟨G, 1, none⟩ = some (.int .i64 y)
  c2 : W.cell? ⟨G, 2, none⟩ = some (.int .i64 u)
  c3 : W.cell? ⟨G, 3, none⟩ = some (.int .i64 v)
theorem Box2.on {G : Nat} {x y : Int} {W W1 : World} (H : Box2 G x y W) (hb : Below W.heap.size W W1) : Box2 G x y W1 := ⟨Nat.lt_of_lt_of_le H.z hb.size, cellThru hb H.z H.c0, cellThru hb H.z H.c1⟩
theorem Box4.on {G : Nat} {x y u v : Int} {W W1 : World} (H : Box4 G x y u v W) (hb : Below W.heap.size W W1) : Box4 G x y u v W1 := ⟨Nat.lt_of_lt_of_le H.z hb.size, cellThru hb H.z H.c0, cellThru hb H.z H.c1, cellThru hb H.z H.c2, cellThru hb H.z H.c3⟩
theorem box2 (W : World) (x y : Int) (T : TypeId) : Box2 W.heap.size x y (W.alloc (.cells #[.int .i64 x, .int .i64 y] T)) := ⟨by simp, by simp [go_sem], by simp [go_sem]⟩
theorem box4 (W : World) (x y u v : Int) (T : TypeId) : Box4 W.heap.size x y u v (W.alloc (.cells #[.int .i64 x, .int .i64 y, .int .i64 u, .int .i64 v] T)) := ⟨by simp, by simp [go_sem], by simp [go_sem], by simp [go_sem], by simp [go_sem]⟩
theorem neqRpSame (a b c d : Int) (W : World) : (binOp .neq 52 (Value.agg #[.int .i64 a, .int .i64 b, .int .i64 c, .int .i64 d]) (Value.agg #[.int .i64 a, .int .i64 b, .int .i64 c, .int .i64 d])).run Try.prog W = .ok (.bool false) W := by simp [go_sem]
theorem neqAngSame (a b : Int) (W : World) : (binOp .neq 25 (ang a b) (ang a b)).run Try.prog W = .ok (.bool false) W := by simp [go_sem]

set_option maxHeartbeats 400000 in
theorem lawLess9 (n d m c : Int) (w : World) (h1 : angOk n d) (h2 : angOk m c) :
    Calls Try.prog 44 #[ang n d, ang m c] w fun e w' => e = .returned (.bool (ltA n d m c)) ∧ Below w.heap.size w w' := by
  obtain ⟨a1, a2, a3, a4⟩ := h1
  obtain ⟨b1, b2, b3, b4⟩ := h2
  obtain ⟨p1, p2⟩ := mul_bound (a := n) (b := c) (by omega) (by omega) (by omega) (by omega)
  obtain ⟨q1, q2⟩ := mul_bound (a := m) (b := d) (by omega) (by omega) (by omega) (by omega)
  have E : Hid (ltA n d m c = decide (n * c < m * d)) := Lib.hid rfl
  generalize ltA n d m c = L at *
  go_enter Try.func44, Try.ntmps44
  go_wp2
  go_ret
  refine ⟨retB ?_, ?_⟩
  · rw [E.out]
  · (repeat' (first | (with_reducible exact Below.refl _ _) | (with_reducible assumption) | (with_reducible refine belowNext ?_ (by with_reducible assumption)) | (with_reducible refine belowAlloc ?_ _) | (with_reducible refine Below.drew ?_) | (with_reducible refine below_drewN ?_ _) | (with_reducible refine Below.setCell ?_ ?_ _) | go_size | (with_reducible refine sizeOf' ?_) | (with_reducible refine sizeAdd ?_) | (dsimp only; first | (with_reducible refine sizeOf' ?_) | (with_reducible refine sizeAdd ?_))))

set_option maxRecDepth 8000 in
set_option maxHeartbeats 2000000 in
theorem eqAng5 (A A' : Option Addr) (len cap cap' : Nat) (l : List (Int × Int)) (w : World) (hr : AngRow w w.heap.size A l) (hr' : AngRow w w.heap.size A' l) (hl : l.length = len) (hm : len ≤ 4611686018427387904) :
    Calls Try.prog 9 #[.slice A len cap, .slice A' len cap'] w fun e w' => e = .returned (.bool true) ∧ Below w.heap.size w w' := by
  have HR := Lib.hid hr
  have HR' := Lib.hid hr'
  have HL := Lib.hid hl
  clear hr hr' hl
  go_enter Try.func9, Try.ntmps9
  go_wp2
  go_loopw [5] (fun i wr => ∃ k : Nat, k ≤ len ∧ i = .int .i64 k ∧ Below w.heap.size w wr) (fun i _ => len - (intOf i).toNat)
  case atStart => exact ⟨0, by omega, rfl, Below.refl _ _⟩
  case round =>
    obtain ⟨k, hk, rfl, hbe⟩ := hrel
    by_cases hlt : k < len
    · have hkl : k < l.length := by have := HL.out; omega
      obtain ⟨n, d, hnd⟩ : ∃ n d, l[k] = (n, d) := ⟨_, _, rfl⟩
      have hk2 : l[k]? = some (n, d) := by rw [List.getElem?_eq_getElem hkl, hnd]
      have hne : l ≠ [] := by intro h; rw [h] at hkl; simp at hkl
      obtain ⟨b, off, rfl, hbb, hcells⟩ := HR.out hne
      obtain ⟨b', off', rfl, hbb', hcells'⟩ := HR'.out hne
      have x0 := (hbe.cell (p := ⟨b, off + k * 2, none⟩) hbb).trans (hcells k n d hk2).1
      have x1 := (hbe.cell (p := ⟨b, off + k * 2 + 1, none⟩) hbb).trans (hcells k n d hk2).2
      have y0 := (hbe.cell (p := ⟨b', off' + k * 2, none⟩) hbb').trans (hcells' k n d hk2).1
      have y1 := (hbe.cell (p := ⟨b', off' + k * 2 + 1, none⟩) hbb').trans (hcells' k n d hk2).2
      have hbw : b < wr.heap.size := Nat.lt_of_lt_of_le hbb hbe.size
      have hbw' : b' < wr.heap.size := Nat.lt_of_lt_of_le hbb' hbe.size
      have e1 : decide ((k : Int) < (len : Int)) = true := decide_eq_true (by omega)
      have hkk : (k : Int) < (len : Int) := by omega
      have HQ := fun W => neqAngSame n d W
      have HB : Hid (∀ q, Below w.heap.size w (wr.drewN q)) := Lib.hid (fun q => below_drewN hbe q)
      clear hnd hcells hcells' hk2 hne hbe
      go_wp2_with fail
      go_quiet (fail)
      go_wp2
      go_roundw
      case rel => exact ⟨k + 1, by omega, by go_num, by first | exact HB.out _ | (simp only [World.drewN_drewN]; exact HB.out _)⟩
      case measure => simp [intOf]; omega
    · obtain rfl : k = len := by omega
      go_wp2
      go_ret
      exact ⟨rfl, hbe⟩


set_option maxRecDepth 8000 in
set_option maxHeartbeats 2000000 in
theorem eqInts5 (A A' : Option Addr) (len cap cap' : Nat) (l : List Int) (w : World) (hr : IntRow w w.heap.size A l) (hr' : IntRow w w.heap.size A' l) (hl : l.length = len) (hm : len ≤ 4611686018427387904) :
    Calls Try.prog 18 #[.slice A len cap, .slice A' len cap'] w fun e w' => e = .returned (.bool true) ∧ Below w.heap.size w w' := by
  have HR := Lib.hid hr
  have HR' := Lib.hid hr'
  have HL := Lib.hid hl
  clear hr hr' hl
  go_enter Try.func18, Try.ntmps18
  go_wp2
  go_loopw [5] (fun i wr => ∃ k : Nat, k ≤ len ∧ i = .int .i64 k ∧ Below w.heap.size w wr) (fun i _ => len - (intOf i).toNat)
  case atStart => exact ⟨0, by omega, rfl, Below.refl _ _⟩
  case round =>
    obtain ⟨k, hk, rfl, hbe⟩ := hrel
    by_cases hlt : k < len
    · have hkl : k < l.length := by have := HL.out; omega
      obtain ⟨n, hnd⟩ : ∃ n, l[k] = n := ⟨_, rfl⟩
      have hk2 : l[k]? = some n := by rw [List.getElem?_eq_getElem hkl, hnd]
      have hne : l ≠ [] := by intro h; rw [h] at hkl; simp at hkl
      obtain ⟨b, off, rfl, hbb, hcells⟩ := HR.out hne
      obtain ⟨b', off', rfl, hbb', hcells'⟩ := HR'.out hne
      have x0 := (hbe.cell (p := ⟨b, off + k, none⟩) hbb).trans (hcells k n hk2)
      have y0 := (hbe.cell (p := ⟨b', off' + k, none⟩) hbb').trans (hcells' k n hk2)
      have hbw : b < wr.heap.size := Nat.lt_of_lt_of_le hbb hbe.size
      have hbw' : b' < wr.heap.size := Nat.lt_of_lt_of_le hbb' hbe.size
      have e1 : decide ((k : Int) < (len : Int)) = true := decide_eq_true (by omega)
      have hkk : (k : Int) < (len : Int) := by omega
      have HB : Hid (∀ q, Below w.heap.size w (wr.drewN q)) := Lib.hid (fun q => below_drewN hbe q)
      clear hnd hcells hcells' hk2 hne hbe
      go_wp2_with fail
      go_quiet (fail)
      go_wp2
      go_roundw
      case rel => exact ⟨k + 1, by omega, by go_num, by first | exact HB.out _ | (simp only [World.drewN_drewN]; exact HB.out _)⟩
      case measure => simp [intOf]; omega
    · obtain rfl : k = len := by omega
      go_wp2
      go_ret
      exact ⟨rfl, hbe⟩

end Go.Proofs.Ytnciiodgkanpjaa

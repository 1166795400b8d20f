/-
  Contracts: a word taken again and again, as the model writes it into a row of bytes.
-/
import Derived.Test.YtfakkibacepdeaaA2
import Derived.Test.YtfakkibacepdeaaS4
import Derived.Maps.AppendAt
import Derived.Deep.LoopGhost
namespace Go.Proofs.Ytfakkibacepdeaa
open Go.RowKit

/-- The cells of a word. -/
def bv (x : Wd) : List Value := x.map fun c => .int .u8 (c.toNat : Int)
theorem bv_len (x : Wd) : (bv x).length = x.length := by simp [bv]
theorem bv_at {x : Wd} {i : Nat} (h : i < x.length) : (bv x)[i]? = some (.int .u8 ((x.getD i 0).toNat : Int)) := by
  unfold bv
  rw [List.getElem?_map, List.getElem?_eq_getElem h, List.getD_eq_getElem?_getD, List.getElem?_eq_getElem h]
  rfl
/-- A row of bytes from lo on that holds a word and may be written. -/
structure ByOwn (w : World) (lo b : Nat) (x : Wd) : Prop where
  lo : lo ≤ b
  z : b < w.heap.size
  c : ∀ i, i < x.length → w.cell? ⟨b, 0 + i, none⟩ = some (.int .u8 ((x.getD i 0).toNat : Int))
  f : ∀ i, w.frozen? ⟨b, i, none⟩ = false
theorem ByOwn.next {w w' : World} {lo b : Nat} {x : Wd} (h : ByOwn w lo b x) (hb : Below w.heap.size w w') : ByOwn w' lo b x :=
  ⟨h.lo, Nat.lt_of_lt_of_le h.z hb.size, fun i hi => cellThru hb h.z (h.c i hi), fun i => frozThru hb h.z (h.f i)⟩
theorem ByOwn.mono {w : World} {lo lo' b : Nat} {x : Wd} (h : ByOwn w lo b x) (hl : lo' ≤ lo) : ByOwn w lo' b x := ⟨Nat.le_trans hl h.lo, h.z, h.c, h.f⟩
theorem byOwn_of {w : World} {lo b n c : Nat} {x : Wd} (hx : x.length = n) (h : w.ownsRow lo 5 1 (.slice (some ⟨b, 0, none⟩) n c) n (bv x)) (hn : 0 < n) : ByOwn w lo b x := by
  obtain ⟨g, c', hv, hlo, hg⟩ := h.form hn
  obtain ⟨rfl, rfl⟩ : b = g ∧ c = c' := by injection hv with hA _ hc; injection hA with hA; injection hA with hA; exact ⟨hA, hc⟩
  refine ⟨hlo, hg, fun i hi => ?_, fun i => h.frozenAt i⟩
  rw [Nat.zero_add]
  exact (h.cellAt i (by omega)).trans (bv_at hi)
theorem repN_next (x : Wd) (k : Nat) : repN x (k + 1) = repN x k ++ [x.getD (k % x.length) 0] := by
  unfold repN
  rw [List.range_succ, List.map_append]
  rfl
theorem infoU8 : (Try.prog.info? 5).map (fun i => (i.zero, i.size, i.bytes)) = some (some (.int .u8 0), 1, 1) := by kernel_rfl
theorem infoA_parts {t : TypeId} {z : Value} {s b : Nat} (h : (Try.prog.info? t).map (fun i => (i.zero, i.size, i.bytes)) = some (some z, s, b)) : ∃ i, Try.prog.info? t = some i ∧ i.zero = some z ∧ i.size = s ∧ i.bytes = b := by
  cases hi : Try.prog.info? t with
  | none => rw [hi] at h; cases h
  | some i =>
    rw [hi] at h
    simp only [Option.map_some, Option.some.injEq, Prod.mk.injEq] at h
    exact ⟨i, rfl, h.1, h.2.1, h.2.2⟩
theorem cell_oneA (w : World) (u : Value) (t : TypeId) : ∀ j v, [u][j]? = some v → (w.alloc (.cells #[u] t)).cell? ((⟨w.heap.size, 0, none⟩ : Addr).add j) = some v := by
  intro j v hj
  match j, hj with
  | 0, hj => simp at hj; subst hj; simp [Addr.add]
  | j + 1, hj => simp at hj

set_option maxRecDepth 100000 in
set_option maxHeartbeats 2000000 in
theorem specRepd (lo b cap : Nat) (x : Wd) (m : Nat) (w : World) (hx : ByOwn w lo b x) (h1 : 1 ≤ x.length) (h2 : x.length ≤ 40) (hm : m ≤ 40) (hm1 : 1 ≤ m) :
    Calls Try.prog 128 #[.slice (some ⟨b, 0, none⟩) x.length cap, .int .i64 (m : Int)] w fun e w' => ∃ b' c', e = .returned (.slice (some ⟨b', 0, none⟩) m c') ∧ ByOwn w' w.heap.size b' (repN x m) ∧ Below w.heap.size w w' := by
  obtain ⟨i0, hi, hz0, hz1, hz2⟩ := infoA_parts infoU8
  obtain ⟨n, hn⟩ : ∃ n, x.length = n := ⟨_, rfl⟩
  have HC : Hid (∀ W, Below w.heap.size w W → ∀ i, i < n → W.cell? ⟨b, i, none⟩ = some (.int .u8 ((x.getD i 0).toNat : Int))) := Lib.hid (fun W hB i hi => by
    have := cellThru hB hx.z (hx.c i (by omega))
    rw [Nat.zero_add] at this
    exact this)
  have hbw := hx.z
  have HN := Lib.hid hn
  rw [hn] at h1 h2 ⊢
  clear hx hn
  go_enter Try.func128, Try.ntmps128
  go_wp2_with fail
  have HB0 : Hid (Below w.heap.size w (w.alloc (.cells #[] 5))) := Lib.hid (belowAlloc (Below.refl _ _) _)
  have HO0 : Hid ((w.alloc (.cells #[] 5)).ownsRow w.heap.size 5 1 (.slice (some ⟨w.heap.size, 0, none⟩) 0 0) 0 (bv (repN x 0))) := Lib.hid ⟨rfl, .inr ⟨w.heap.size, 0, #[], rfl, Nat.le_refl _, heap_alloc_new w (.cells #[] 5), by omega, by unfold maxLen; omega, rfl, rfl⟩⟩
  generalize w.alloc (.cells #[] 5) = wc at *
  go_loopg [5, 6] m (fun g s5 s6 wx => ∃ (k b1 c1 : Nat), k + g = m ∧ s6 = .int .i64 k ∧ s5 = .slice (some ⟨b1, 0, none⟩) k c1 ∧ Hid (wx.ownsRow w.heap.size 5 1 s5 k (bv (repN x k))) ∧ Hid (Below w.heap.size w wx))
  case atStart => exact ⟨0, w.heap.size, 0, by omega, rfl, rfl, HO0, HB0⟩
  case round =>
    clear HO0 HB0
    obtain ⟨k, b1, c1, hkg, rfl, rfl, HO, HB⟩ := hrel
    cases gk with
    | zero =>
      obtain rfl : k = m := by omega
      have hli : ¬ ((k : Int) < (k : Int)) := by omega
      have H := Lib.hid (byOwn_of (repN_len x k) HO.out (by omega))
      clear HO hkg
      go_wp2
      go_ret
      exact ⟨b1, ⟨c1, rfl⟩, H.out, HB.out⟩
    | succ g =>
      have hlt : (k : Int) < (m : Int) := by omega
      obtain ⟨r, hr⟩ : ∃ r, k % n = r := ⟨_, rfl⟩
      have hrn : r < n := by rw [← hr]; exact Nat.mod_lt _ (by omega)
      have hrn2 : (r : Int) < (n : Int) := by omega
      have hmod : (k : Int) % (n : Int) = (r : Int) := by rw [← hr, Int.natCast_emod]
      have htmod : (k : Int).tmod (n : Int) = (r : Int) := by rw [Int.tmod_eq_emod_of_nonneg (by omega)]; exact hmod
      have hwr : wrap64 (r : Int) = (r : Int) := by unfold wrap64; omega
      have hn0 : ¬ ((n : Int) = 0) := by omega
      have cx := HC.out wr HB.out r hrn
      have HNx : Hid (repN x (k + 1) = repN x k ++ [x.getD r 0]) := Lib.hid (by rw [repN_next, HN.out, hr])
      have hbr : b < wr.heap.size := Nat.lt_of_lt_of_le hbw HB.out.size
      generalize x.getD r 0 = ch at *
      have HKG := Lib.hid hkg
      clear hkg hr
      go_wp2_with (at_builtin; refine wpList_append_own_at _ rfl _ _ 22 rfl w.heap.size 5 i0 (.int .u8 0) 1 1 Try.underlying22 hi hz0 hz1 hz2 rfl (by decide) _ _ _ rfl (World.ownsRow.alloc HO.out _) ⟨wr.heap.size, 0, none⟩ 1 1 [.int .u8 (ch.toNat : Int)] rfl rfl ?c1 ?c2 ?c3 ?c4 ?c5 ?_)
      case c1 => exact cell_oneA _ _ _
      case c2 => intro u hu; simp at hu; subst hu; rfl
      case c3 => unfold maxLen; omega
      case c4 => omega
      case c5 => have := HB.out.size; simp; omega
      intro v' w11 hown' hgrow _ _
      obtain ⟨gn, capn, rfl⟩ := ownsRow_succ hown'
      have HO11 : Hid (w11.ownsRow w.heap.size 5 1 (.slice (some ⟨gn, 0, none⟩) (k + 1) capn) (k + 1) (bv (repN x (k + 1)))) := Lib.hid (by
        rw [HNx.out]
        have e : bv (repN x k ++ [ch]) = bv (repN x k) ++ [.int .u8 (ch.toNat : Int)] := by simp [bv]
        rw [e]
        exact hown')
      have HB11 : Hid (Below w.heap.size w w11) := Lib.hid ((belowAlloc HB.out _).grown hgrow (belowAlloc HB.out _).size (fun j hj => by
        rcases HO.out.2 with ⟨hv, _⟩ | ⟨g0, c0, cur, hv, hlo, _⟩
        · rw [hv] at hj; simp [Value.ownBlock] at hj
        · rw [hv] at hj; simp [Value.ownBlock] at hj; omega))
      clear hown' hgrow HO HB cx hbr
      go_wp2
      go_roundg g
      case measure => omega
      case rel => exact ⟨k + 1, gn, capn, by have := HKG.out; omega, by go_num, rfl, HO11, HB11⟩
end Go.Proofs.Ytfakkibacepdeaa

/-
  The unit matrix, products of matrices and their powers, as the program finds them.
  The unit matrix, products, powers, traces and counts, as the model finds them.
  PathTrace and PathCount on both sides; their laws.
-/
import Derived.Test.YtjomgbjiognmmaaHE
namespace Go.Proofs.Ytjomgbjiognmmaa
open Go.RowKit

set_option maxRecDepth 8000 in
set_option maxHeartbeats 2000000 in
theorem implUnit (r : Nat) (hm : r ≤ 21) (w : World) : Calls Try.prog 92 #[.int .i64 r] w fun e w' => ∃ A c, e = .returned (.slice A r c) ∧ Hid (TabOwn w' w.heap.size A r (fun _ => r) (unitF 1)) ∧ Below w.heap.size w w' := by
  have HZ := Lib.hid (fun W => implZero r hm W)
  go_enter Try.func92, Try.ntmps92
  go_wp2_with fail
  refine (HZ.out _).mono ?_
  rintro e w1 ⟨A, c, rfl, hT, hb1⟩
  obtain ⟨g, off, bb, oo, hTab⟩ := tab_ex hT.out
  have HA : Hid (0 < r → A = some ⟨g, off, none⟩) := Lib.hid (fun h => (hTab h).1)
  have HS0 : Hid ((0 < r → TabAt w1 w.heap.size g off bb oo r (fun _ => r) (fun i j => if i < 0 ∧ i = j then 1 else 0)) ∧ Below w.heap.size w w1) := Lib.hid ⟨fun h => (hTab h).2.congr fun i j _ _ => by rw [if_neg (by omega)], hb1⟩
  clear hT hTab hb1 HZ
  go_wp2
  go_loopg [4, 5, 10] r (fun g' _ _ ix wr => ∃ k : Nat, k + g' = r ∧ ix = .int .i64 k ∧ Hid ((0 < r → TabAt wr w.heap.size g off bb oo r (fun _ => r) (fun i j => if i < k ∧ i = j then 1 else 0)) ∧ Below w.heap.size w wr))
  case atStart => exact ⟨0, by omega, rfl, HS0⟩
  case round =>
    clear HS0
    obtain ⟨k, hkg, rfl, HS⟩ := hrel
    cases gk with
    | zero =>
      obtain rfl : k = r := by omega
      have HT : Hid (TabOwn wr w.heap.size A k (fun _ => k) (unitF 1)) := Lib.hid (fun h => ⟨g, off, bb, oo, HA.out h, (HS.out.1 h).congr fun i j hi _ => by
        unfold unitF
        by_cases e : i = j
        · rw [if_pos ⟨hi, e⟩, if_pos e]
        · rw [if_neg (fun x => e x.2), if_neg e]⟩)
      have B2 := HS.out.2
      clear HS hkg
      go_wp2
      go_ret
      exact ⟨A, c, rfl, HT, B2⟩
    | succ g2 =>
      have hkr : k < r := by omega
      have hkI : (k : Int) < (r : Int) := by omega
      have hr0 : 0 < r := by omega
      obtain rfl := HA.out hr0
      obtain ⟨Ai, ci, x0, hAi⟩ := (HS.out.1 hr0).head k hkr
      obtain rfl := hAi hr0
      obtain ⟨y0, y1⟩ := (HS.out.1 hr0).cell k k hkr hkr
      have hgw := (HS.out.1 hr0).gz
      have hbw := (HS.out.1 hr0).row k hkr hr0
      obtain ⟨v, hv⟩ : ∃ v, (if k < k ∧ k = k then (1 : Int) else 0) = v := ⟨_, rfl⟩
      rw [hv] at y0
      have hbw2 := hbw.2.1
      have HBl := Lib.hid hbw.1
      have HKG := Lib.hid hkg
      clear hAi hkg hv hbw
      go_wp2
      go_roundg g2
      case measure => omega
      case rel =>
        refine ⟨k + 1, by have := HKG.out; omega, by go_num, Lib.hid ⟨fun h => ((HS.out.1 h).put hkr hkr 1).congr fun i j _ _ => ?_, HS.out.2.setCell HBl.out _⟩⟩
        by_cases e : i = k ∧ j = k
        · obtain ⟨rfl, rfl⟩ := e
          rw [if_pos ⟨rfl, rfl⟩, if_pos ⟨by omega, rfl⟩]
        · rw [if_neg e]
          by_cases e2 : i < k ∧ i = j
          · rw [if_pos e2, if_pos ⟨by omega, e2.2⟩]
          · rw [if_neg e2, if_neg (fun x => by
              by_cases e3 : i = k
              · exact e ⟨e3, by omega⟩
              · exact e2 ⟨by omega, x.2⟩)]

/-- The numbers of rows, one behind the other. -/
def rowV (r : Nat) (f : Nat → Int) : List Value := (List.range r).map fun j => .int .i64 (f j)
def prodV (r : Nat) (f : Tab) : Nat → List Value
  | 0 => []
  | k + 1 => prodV r f k ++ rowV r (f k)
theorem rowV_len (r : Nat) (f : Nat → Int) : (rowV r f).length = r := by simp [rowV]
theorem rowV_get {r : Nat} {f : Nat → Int} {j : Nat} (h : j < r) : (rowV r f)[j]? = some (.int .i64 (f j)) := by
  unfold rowV
  rw [List.getElem?_map, List.getElem?_range h]; rfl
theorem prodV_len (r : Nat) (f : Tab) : ∀ k, (prodV r f k).length = k * r
  | 0 => by simp [prodV]
  | k + 1 => by simp only [prodV, List.length_append, rowV_len, prodV_len r f k, Nat.succ_mul]
theorem prodV_at {r : Nat} {f : Tab} {t : Nat} : ∀ {k : Nat}, t < k * r → (prodV r f k)[t]? = some (.int .i64 (f (t / r) (t % r)))
  | 0, h => by simp at h
  | k + 1, h => by
    rw [Nat.succ_mul] at h
    simp only [prodV]
    by_cases h1 : t < k * r
    · rw [List.getElem?_append_left (by rw [prodV_len]; exact h1)]
      exact prodV_at h1
    · have hr : 0 < r := by omega
      have e1 : t / r = k := Nat.div_eq_of_lt_le (by omega) (by rw [Nat.succ_mul]; omega)
      have e2 : t % r = t - k * r := by have := Nat.div_add_mod t r; rw [e1, Nat.mul_comm] at this; omega
      rw [List.getElem?_append_right (by rw [prodV_len]; omega), prodV_len, e1, e2]
      exact rowV_get (by omega)

set_option maxRecDepth 8000 in
set_option maxHeartbeats 4000000 in
theorem implLdAll (A : Option Addr) (r cap : Nat) (a : Tab) (X : Option Addr) (cx : Nat) (x : Tab) (w : World) (ha : TabRd w w.heap.size A r (fun _ => r) a) (hx : TabRd w w.heap.size X r (fun _ => r) x) (hm : r ≤ 21) :
    Calls Try.prog 93 #[.slice A r cap, .slice X r cx] w fun e w' => ∃ Y c, e = .returned (.slice Y r c) ∧ Hid (TabOwn w' w.heap.size Y r (fun _ => r) (mulF r x a)) ∧ Below w.heap.size w w' := by
  obtain ⟨i0, hi, hz0, hz1, hz2⟩ := infoI8_parts
  have HI := Lib.hid hi
  have HZ0 := Lib.hid hz0
  have HA := Lib.hid ha
  have HX := Lib.hid hx
  clear hi hz0 ha hx
  go_enter Try.func93, Try.ntmps93
  go_wp2
  go_loopg [5, 7, 10] r (fun g s5 _ ix wr => ∃ (k q : Nat) (B : Option Addr) (c : Nat), k + g = r ∧ ix = .int .i64 k ∧ Hid (k * r = q) ∧ s5 = .slice B q c ∧ Hid (wr.ownsRow w.heap.size 2 1 (.slice B q c) q (prodV r (mulF r x a) k)) ∧ Hid (Below w.heap.size w wr))
  case atStart => exact ⟨0, 0, none, 0, by omega, rfl, Lib.hid (Nat.zero_mul _), rfl, Lib.hid ownNone8, Lib.hid (Below.refl _ _)⟩
  case round =>
    obtain ⟨k, q, B, c, hkg, rfl, HQ, rfl, HO, HB⟩ := hrel
    cases gk with
    | zero =>
      obtain rfl : k = r := by omega
      have hq : q = k * k := HQ.out.symm
      have hqq : q ≤ 441 := by rw [hq]; exact Nat.mul_le_mul hm hm
      obtain ⟨B', c', hv, hqc, hg⟩ := ownForm8 HO.out
      obtain ⟨rfl, rfl⟩ : B = B' ∧ c = c' := by injection hv with a _ b; exact ⟨a, b⟩
      obtain ⟨b, hb⟩ : ∃ b, 0 < k → B = some ⟨b, 0, none⟩ ∧ w.heap.size ≤ b ∧ b < wr.heap.size := by
        rcases Nat.eq_zero_or_pos k with h0 | h0
        · exact ⟨0, fun h => absurd h (by omega)⟩
        · obtain ⟨b, e⟩ := hg (by rw [hq]; exact Nat.mul_pos h0 h0)
          exact ⟨b, fun _ => e⟩
      have HR := Lib.hid (implRows B q c k k b 0 wr hq hqc (fun h0 => ⟨(hb h0).1, h0⟩) (by omega) (by omega) (by omega))
      have HB0 := Lib.hid hb
      have HQq := Lib.hid hq
      clear hkg hq hqc hg hb hv hqq
      go_wp2_with fail
      refine HR.out.mono ?_
      rintro e w3 ⟨A2, cap2, rfl, H3, hb3⟩
      have HT : Hid (TabOwn w3 w.heap.size A2 k (fun _ => k) (mulF k x a)) := Lib.hid (by
        refine (rows_tab (F := fun t => mulF k x a (t / k) (t % k)) H3.out HB.out.size (fun h0 h1 => ?_) (fun t ht => ?_)).congr fun i j hi hj => ?_
        · obtain ⟨_, h2, h3⟩ := HB0.out h1
          exact ⟨h2, Nat.lt_of_lt_of_le h3 hb3.size, h3⟩
        · have h0 : 0 < k := by
            rcases Nat.eq_zero_or_pos k with h0 | h0
            · subst h0; simp at ht
            · exact h0
          have h3 := ownNext8 HO.out hb3
          rw [(HB0.out h0).1] at h3
          rw [Nat.zero_add]
          refine ⟨(h3.cellAt t (by rw [HQq.out]; omega)).trans (prodV_at ht), h3.frozenAt _⟩
        · have hk : 0 < k := by omega
          have e1 : (i * k + j) / k = i := by rw [Nat.mul_comm, Nat.mul_add_div hk, Nat.div_eq_of_lt hj]; rfl
          have e2 : (i * k + j) % k = j := by rw [Nat.mul_comm, Nat.mul_add_mod, Nat.mod_eq_of_lt hj]
          rw [e1, e2])
      have B3 := belowNext HB.out hb3
      clear H3 HR HO HB hb3
      go_wp2
      go_ret
      exact ⟨A2, cap2, rfl, HT, B3⟩
    | succ g =>
      have hkr : k < r := by omega
      have hr0 : 0 < r := by omega
      have hB := HB.out
      have hBs := hB.size
      obtain ⟨g1, o1, Ai, ci, rfl, hg1, x0, hrow⟩ := tabRow HX.out hkr
      have x0 := cellThru hB hg1 x0
      have hg1w : g1 < wr.heap.size := Nat.lt_of_lt_of_le hg1 hBs
      have HL := Lib.hid (implLdOn A r cap a Ai ci (x k) wr ((HA.out.below hB).more hBs) ((hrow.below hB).more hBs) (by omega))
      have hq441 : q ≤ 441 := by rw [← HQ.out]; exact Nat.le_trans (Nat.mul_le_mul (Nat.le_of_lt hkr) (Nat.le_refl r)) (Nat.mul_le_mul hm hm)
      have HQ2 : Hid ((k + 1) * r = q + r) := Lib.hid (by rw [Nat.succ_mul, HQ.out])
      have HKG := Lib.hid hkg
      clear hrow hkg hB hg1 HQ
      go_wp2_with fail
      refine HL.out.mono ?_
      rintro e w2 ⟨Y, rfl, HY, hb2⟩
      obtain ⟨b, off, rfl, hb0, hbz, hcs⟩ := HY.out hr0
      have hown := ownNext8 HO.out hb2
      have hs2 := hb2.size
      have hi := HI.out
      have hz0 := HZ0.out
      have HCs : Hid (∀ j u, (rowV r (rowF r (x k) a))[j]? = some u → w2.cell? ((⟨b, off, none⟩ : Addr).add j) = some u) := Lib.hid (fun j u hj => by
        have hjr : j < r := by
          rcases Nat.lt_or_ge j r with h | h
          · exact h
          · rw [List.getElem?_eq_none (by rw [rowV_len]; exact h)] at hj; cases hj
        rw [rowV_get hjr] at hj
        injection hj with hj
        rw [← hj]
        have h := (hcs j hjr).1
        simp only [Addr.add]
        split
        · next e => subst e; exact h
        · exact h)
      have HB2 := Lib.hid (belowNext HB.out hb2)
      clear HY hcs HL x0 hg1w
      go_wp2_with (at_builtin; refine wpList_append_own_at _ rfl _ _ 32 rfl w.heap.size 2 i0 (.int .i64 0) 1 8 Try.underlying32 hi hz0 hz1 hz2 rfl (by decide) (.slice B q c) q (prodV r (mulF r x a) k) rfl hown ⟨b, off, none⟩ r r (rowV r (rowF r (x k) a)) rfl (by rw [rowV_len]; omega) HCs.out ?c2 ?c3 ?c4 ?c5 ?_)
      case c2 =>
        intro u hu
        unfold rowV at hu
        rw [List.mem_map] at hu
        obtain ⟨j, _, rfl⟩ := hu
        rfl
      case c3 => unfold maxLen; omega
      case c4 => omega
      case c5 => omega
      intro v' w3 hown' hgrow _ hat
      have HB3 : Hid (Below w.heap.size w w3) := Lib.hid (below_grown8 HB2.out hgrow (fun j e => ownBlock8 hown j e) (by omega))
      obtain ⟨B', c', rfl, _⟩ := ownForm8 hown'
      have HO' : Hid (w3.ownsRow w.heap.size 2 1 (.slice B' (q + r) c') (q + r) (prodV r (mulF r x a) (k + 1))) := Lib.hid hown'
      clear hown hown' hgrow hat HB HB2 HO HCs hi hz0
      go_wp2
      go_roundg g
      case measure => omega
      case rel => exact ⟨k + 1, q + r, B', c', by have := HKG.out; omega, by go_num, HQ2, rfl, HO', HB3⟩

theorem infoMa : (Try.prog.info? 59).map (fun i => (i.zero, i.size, i.bytes)) = some (some (.slice none 0 0), 1, 24) := by kernel_rfl
theorem infoMa_parts : ∃ i : TypeInfo, Try.prog.info? 59 = some i ∧ i.zero = some (.slice none 0 0) ∧ i.size = 1 ∧ i.bytes = 24 := by
  have hinfo := infoMa
  cases hi : Try.prog.info? 59 with
  | none => rw [hi] at hinfo; cases hinfo
  | some i =>
    rw [hi] at hinfo
    simp only [Option.map_some, Option.some.injEq, Prod.mk.injEq] at hinfo
    exact ⟨i, rfl, hinfo⟩
/-- A square table that is read, none of whose blocks is g. -/
def TabNe (W : World) (g : Option Nat) (A : Option Addr) (r : Nat) (f : Tab) : Prop :=
  0 < r → ∃ b off, A = some ⟨b, off, none⟩ ∧ b < W.heap.size ∧ some b ≠ g ∧ ∀ i, i < r → ∃ bi oi ci, W.cell? ⟨b, off + i, none⟩ = some (.slice (some ⟨bi, oi, none⟩) r ci) ∧ bi < W.heap.size ∧ some bi ≠ g ∧ ∀ j, j < r → W.cell? ⟨bi, oi + j, none⟩ = some (.int .i64 (f i j))
theorem TabNe.rd {W : World} {g : Option Nat} {A : Option Addr} {r : Nat} {f : Tab} (h : TabNe W g A r f) : TabRd W W.heap.size A r (fun _ => r) f := by
  intro hr
  obtain ⟨b, off, e, h1, _, hc⟩ := h hr
  refine ⟨b, off, e, h1, fun i hi => ?_⟩
  obtain ⟨bi, oi, ci, x, h2, _, h3⟩ := hc i hi
  exact ⟨_, ci, x, fun _ => ⟨bi, oi, rfl, h2, h3⟩⟩
theorem TabNe.next {W W' : World} {g : Option Nat} {A : Option Addr} {r : Nat} {f : Tab} (h : TabNe W g A r f) (hb : Below W.heap.size W W') : TabNe W' g A r f := by
  intro hr
  obtain ⟨b, off, e, h1, h1', hc⟩ := h hr
  refine ⟨b, off, e, Nat.lt_of_lt_of_le h1 hb.size, h1', fun i hi => ?_⟩
  obtain ⟨bi, oi, ci, x, h2, h2', h3⟩ := hc i hi
  exact ⟨bi, oi, ci, cellThru hb h1 x, Nat.lt_of_lt_of_le h2 hb.size, h2', fun j hj => cellThru hb h2 (h3 j hj)⟩
theorem TabNe.turn {W W2 : World} {g g' : Option Nat} {A : Option Addr} {r : Nat} {f : Tab} (h : TabNe W g A r f) (hg : W.grownBy W2 g) (hv : g' = g ∨ ∃ b, g' = some b ∧ W.heap.size ≤ b) : TabNe W2 g' A r f := by
  have ne : ∀ c, c < W.heap.size → some c ≠ g → some c ≠ g' := by
    intro c hc h1 h2
    rcases hv with e | ⟨b', e, hb'⟩
    · rw [e] at h2; exact h1 h2
    · rw [e] at h2; have := Option.some.inj h2; omega
  intro hr
  obtain ⟨b, off, e, h1, h1', hc⟩ := h hr
  refine ⟨b, off, e, Nat.lt_of_lt_of_le h1 hg.size, ne b h1 h1', fun i hi => ?_⟩
  obtain ⟨bi, oi, ci, x, h2, h2', h3⟩ := hc i hi
  exact ⟨bi, oi, ci, (World.cell?_of_block (a := ⟨b, off + i, none⟩) (hg.block b h1 h1')).trans x, Nat.lt_of_lt_of_le h2 hg.size, ne bi h2 h2', fun j hj => (World.cell?_of_block (a := ⟨bi, oi + j, none⟩) (hg.block bi h2 h2')).trans (h3 j hj)⟩
theorem TabOwn.ne {W : World} {lo : Nat} {g : Option Nat} {A : Option Addr} {r : Nat} {f : Tab} (h : TabOwn W lo A r (fun _ => r) f) (hg : ∀ b, g = some b → b < lo) : TabNe W g A r f := by
  intro hr
  obtain ⟨b, off, bb, oo, e, H⟩ := h hr
  refine ⟨b, off, e, H.gz, fun e => by have := hg b e.symm; have := H.glo; omega, fun i hi => ?_⟩
  obtain ⟨Ai, ci, x, hA⟩ := H.head i hi
  obtain ⟨h1, h2, _⟩ := H.row i hi hr
  rw [hA hr] at x
  exact ⟨bb i, oo i, ci, x, h2, fun e => by have := hg _ e.symm; omega, fun j hj => (H.cell i j hi hj).1⟩
/-- A list of n square tables. -/
structure MatsAt (W : World) (lo : Nat) (v : Value) (n r : Nat) (f : Nat → Tab) (xs : List Value) : Prop where
  own : W.ownsRow lo 59 1 v n xs
  got : ∀ i, i < n → ∃ A c, xs[i]? = some (.slice A r c) ∧ TabNe W v.ownBlock A r (f i)
theorem MatsAt.next {W W' : World} {lo : Nat} {v : Value} {n r : Nat} {f : Nat → Tab} {xs : List Value} (h : MatsAt W lo v n r f xs) (hb : Below W.heap.size W W') : MatsAt W' lo v n r f xs :=
  ⟨ownNext8 h.own hb, fun i hi => by obtain ⟨A, c, h1, h2⟩ := h.got i hi; exact ⟨A, c, h1, h2.next hb⟩⟩
theorem MatsAt.push {W W2 : World} {lo : Nat} {v v' : Value} {n r : Nat} {f : Nat → Tab} {xs : List Value} (h : MatsAt W lo v n r f xs) {A : Option Addr} {c : Nat} (hA : TabNe W v.ownBlock A r (f n))
    (hown : W2.ownsRow lo 59 1 v' (n + 1) (xs ++ [.slice A r c])) (hg : W.grownBy W2 v.ownBlock) (hv : v'.ownBlock = v.ownBlock ∨ ∃ b, v'.ownBlock = some b ∧ W.heap.size ≤ b) : MatsAt W2 lo v' (n + 1) r f (xs ++ [.slice A r c]) := by
  have hl : xs.length = n := by have := h.own.1; omega
  refine ⟨hown, fun i hi => ?_⟩
  by_cases e : i < n
  · obtain ⟨B, d, h1, h2⟩ := h.got i e
    exact ⟨B, d, by rw [List.getElem?_append_left (by omega)]; exact h1, h2.turn hg hv⟩
  · obtain rfl : i = n := by omega
    exact ⟨A, c, by rw [List.getElem?_append_right (by omega), hl, Nat.sub_self]; rfl, hA.turn hg hv⟩

set_option maxRecDepth 8000 in
set_option maxHeartbeats 4000000 in
theorem implPow2 (F : Option Addr) (r cF K : Nat) (A : Option Addr) (cap : Nat) (a : Tab) (w : World) (hF : TabOwn w 0 F r (fun _ => r) (unitF 1)) (ha : TabRd w w.heap.size A r (fun _ => r) a) (hm : r ≤ 21) (hK : K ≤ 1000) :
    Calls Try.prog 91 #[.slice F r cF, .int .i64 K, .func (Fn.func 93) #[.slice A r cap] #[]] w fun e w' => ∃ A' c' xs, e = .returned (.slice A' (K + 1) c') ∧ Hid (MatsAt w' w.heap.size (.slice A' (K + 1) c') (K + 1) r (powF r a) xs) ∧ Below w.heap.size w w' := by
  have hcf : ∀ args W, (callFunc 93 args).run Try.prog W = .ok (.enter 93 args) W := by intro args W; kernel_rfl
  obtain ⟨i0, hi, hz0, hz1, hz2⟩ := infoMa_parts
  have HI := Lib.hid hi
  have HZ0 := Lib.hid hz0
  have HA := Lib.hid ha
  have HF := Lib.hid hF
  clear hi hz0 ha hF
  go_enter Try.func91, Try.ntmps91
  go_wp2
  go_loopg [7, 11] K (fun g s7 ix wr => ∃ (k n : Nat) (v : Value), k + g = K ∧ n = k + 1 ∧ ix = .int .i64 k ∧ s7 = v ∧ Hid (∃ xs, MatsAt wr w.heap.size v n r (powF r a) xs) ∧ Hid (Below w.heap.size w wr))
  case atStart =>
    refine ⟨0, 1, _, by omega, rfl, rfl, rfl, Lib.hid ⟨[.slice F r cF], World.ownsRow_lit w #[.slice F r cF] 1 (Nat.le_refl _) (by decide) rfl, fun i hi => ?_⟩, Lib.hid (belowAlloc (Below.refl _ _) _)⟩
    obtain rfl : i = 0 := by omega
    refine ⟨F, cF, rfl, ?_⟩
    have h : TabNe w (some w.heap.size) F r (unitF 1) := by
      intro hr
      obtain ⟨b, off, bb, oo, e, H⟩ := HF.out hr
      refine ⟨b, off, e, H.gz, fun e => by have := Option.some.inj e; have := H.gz; omega, fun i hi => ?_⟩
      obtain ⟨Ai, ci, x, hA⟩ := H.head i hi
      obtain ⟨_, h2, _⟩ := H.row i hi hr
      rw [hA hr] at x
      exact ⟨bb i, oo i, ci, x, h2, fun e => by have := Option.some.inj e; omega, fun j hj => (H.cell i j hi hj).1⟩
    exact h.next (belowAlloc (Below.refl _ _) _)
  case round =>
    obtain ⟨k, n, v, hkg, hn, rfl, ev, HR, HB⟩ := hrel
    have ev := ev.symm
    subst ev
    cases gk with
    | zero =>
      obtain rfl : k = K := by omega
      obtain ⟨xs, hR⟩ := HR.out
      obtain ⟨A', c, rfl, _⟩ := ownForm8 hR.own
      subst hn
      have HTb := Lib.hid hR
      have B2 := HB.out
      clear hkg hR HR
      go_wp2
      go_ret
      exact ⟨A', c, xs, rfl, HTb, B2⟩
    | succ g =>
      obtain ⟨xs, hR⟩ := HR.out
      obtain ⟨V, cV, rfl, hcV, hg⟩ := ownForm8 hR.own
      obtain ⟨gV, rfl, hgV, hgz⟩ := hg (by omega)
      obtain ⟨Ak, ck, hxk, hNe⟩ := hR.got k (by omega)
      have x0 : wr.cell? ⟨gV, k, none⟩ = some (.slice Ak r ck) := (hR.own.cellAt k (by omega)).trans hxk
      have HLd := Lib.hid (implLdAll A r cap a Ak ck (powF r a k) wr ((HA.out.below HB.out).more HB.out.size) hNe.rd hm)
      have hw1 : IntKind.i64.wrap ((n : Int) - 1) = (k : Int) := (IntWalk.i64_in _ (by omega)).trans (by omega)
      have hw2 : wrap64 ((n : Int) - 1) = (k : Int) := by unfold wrap64; omega
      have hkn : (k : Int) < (n : Int) := by omega
      have hknN : k < n := by omega
      have hkK : k < K := by omega
      have hkKI : (k : Int) < (K : Int) := by omega
      have hn1 : n ≤ 1001 := by omega
      have HRo := Lib.hid hR
      have HNk := Lib.hid hn
      have HKG := Lib.hid hkg
      clear hg hxk hNe hR hkg hn hcV HR
      go_wp2_with fail
      refine HLd.out.mono ?_
      rintro e w2 ⟨Y, cY, rfl, HY, hb2⟩
      have HRo2 := Lib.hid (HRo.out.next hb2)
      have hown := HRo2.out.own
      have hi := HI.out
      have hz0 := HZ0.out
      have hs2 := hb2.size
      have hBs := HB.out.size
      have HBB2 : Hid (Below w.heap.size w w2) := Lib.hid (belowNext HB.out hb2)
      clear x0 hw1 hw2 hb2 HRo
      go_wp2_with (at_builtin; refine wpList_append_own_at _ rfl _ _ 93 rfl w.heap.size 59 i0 (.slice none 0 0) 1 24 Try.underlying93 hi hz0 hz1 hz2 rfl (by decide) (.slice (some ⟨gV, 0, none⟩) n cV) n xs rfl (World.ownsRow.alloc hown _) ⟨w2.heap.size, 0, none⟩ 1 1 [.slice Y r cY] rfl rfl (cell_one_new _ _ _) ?c2 ?c3 ?c4 ?c5 ?_)
      case c2 => first | rfl | (intro u hu; simp at hu; subst hu; rfl)
      case c3 => unfold maxLen; omega
      case c4 => omega
      case c5 => first | omega | (simp; omega)
      intro v' w3 hown' hgrow _ hat
      have HE : Hid (∃ xs, MatsAt w3 w.heap.size v' (n + 1) r (powF r a) xs) := Lib.hid (by
        have hb : Below w2.heap.size w2 (w2.alloc (.cells #[.slice Y r cY] 59)) := belowAlloc (Below.refl _ _) _
        refine ⟨_, (HRo2.out.next hb).push (A := Y) (c := cY) ?_ hown' hgrow (by
          rcases hat with e | e
          · exact .inl e
          · exact .inr ⟨_, e, by simp⟩)⟩
        have h : TabOwn w2 wr.heap.size Y r (fun _ => r) (powF r a n) := by
          have := HY.out
          rw [HNk.out]; exact this
        exact (h.next hb).ne (fun b e => by simp [Value.ownBlock] at e; omega))
      have HB1 : Hid (Below w.heap.size w w3) := Lib.hid (below_grown8 (show Below w.heap.size w (w2.alloc _) from belowAlloc HBB2.out _) hgrow (fun j e => ownBlock8 hown j e) (by simp; omega))
      have hn2 : n + 1 = k + 1 + 1 := by have := HNk.out; omega
      clear hown hown' hgrow hi hz0 HRo2 hat HB HBB2 HY
      go_wp2
      go_roundg g
      case measure => omega
      case rel => exact ⟨k + 1, n + 1, v', by have := HKG.out; omega, hn2, by go_num, rfl, HE, HB1⟩

set_option maxRecDepth 8000 in
set_option maxHeartbeats 2000000 in
theorem implUpT (A : Option Addr) (r cap K : Nat) (a : Tab) (w : World) (ha : TabRd w w.heap.size A r (fun _ => r) a) (hm : r ≤ 21) (hK : K ≤ 1000) :
    Calls Try.prog 81 #[.slice A r cap, .int .i64 K] w fun e w' => ∃ A' c' xs, e = .returned (.slice A' (K + 1) c') ∧ Hid (MatsAt w' w.heap.size (.slice A' (K + 1) c') (K + 1) r (powF r a) xs) ∧ Below w.heap.size w w' := by
  have HU := Lib.hid (fun W => implUnit r hm W)
  have HA := Lib.hid ha
  clear ha
  go_enter Try.func81, Try.ntmps81
  go_wp2_with fail
  refine (HU.out _).mono ?_
  rintro e w1 ⟨F, cF, rfl, hT, hb1⟩
  have HP := Lib.hid (implPow2 F r cF K A cap a w1 (hT.out.low (Nat.zero_le _)) ((HA.out.below hb1).more hb1.size) hm hK)
  clear hT
  go_wp2_with fail
  refine HP.out.mono ?_
  rintro e w2 ⟨A', c', xs, rfl, H2, hb2⟩
  have HM : Hid (MatsAt w2 w.heap.size (.slice A' (K + 1) c') (K + 1) r (powF r a) xs) := Lib.hid ⟨ownLow8 H2.out.own hb1.size, H2.out.got⟩
  clear H2
  go_wp2
  go_ret
  exact ⟨A', c', xs, rfl, HM, belowNext hb1 hb2⟩

set_option maxRecDepth 8000 in
set_option maxHeartbeats 2000000 in
theorem specTr8 (A : Option Addr) (r cap : Nat) (f : Tab) (w : World) (hr : TabRd w w.heap.size A r (fun _ => r) f) (hm : r ≤ 1000) :
    Calls Try.prog 58 #[.slice A r cap] w fun e w' => e = .returned (.int .i64 (trF r f)) ∧ w' = w := by
  have HR := Lib.hid hr
  clear hr
  go_enter Try.func58, Try.ntmps58
  go_wp2
  go_loopg [3, 4] r (fun g s3 ix wr => ∃ (k : Nat) (S : Int), k + g = r ∧ ix = .int .i64 k ∧ s3 = .int .i64 S ∧ Hid (S = wrap64 (sigN k fun i => f i i)) ∧ wr = w)
  case atStart => exact ⟨0, 0, by omega, rfl, rfl, Lib.hid (by simp [sigN, wrap64]), rfl⟩
  case round =>
    obtain ⟨k, S, hkg, rfl, rfl, HS, rfl⟩ := hrel
    cases gk with
    | zero =>
      obtain rfl : k = r := by omega
      clear hkg
      go_wp2
      go_ret
      exact ⟨by unfold trF; rw [← HS.out]; rfl, rfl⟩
    | succ g =>
      have hkn : k < r := by omega
      have hkI : (k : Int) < (r : Int) := by omega
      obtain ⟨g1, o1, Ai, ci, rfl, hg1, x0, hrow⟩ := tabRow HR.out hkn
      obtain ⟨b, off, rfl, hb, hc⟩ := hrow (show 0 < r by omega)
      have x1 := hc k hkn
      obtain ⟨v, hv⟩ : ∃ v, f k k = v := ⟨_, rfl⟩
      have HN : Hid (wrap64 (S + v) = wrap64 (sigN (k + 1) fun i => f i i)) := Lib.hid (by rw [HS.out, ← hv]; exact wrap_step k fun i => f i i)
      rw [hv] at x1
      have HKG := Lib.hid hkg
      clear hc hv hkg hrow
      go_wp2
      go_roundg g
      case measure => omega
      case rel => exact ⟨k + 1, _, by have := HKG.out; omega, by go_num, rfl, HN, rfl⟩

theorem rowsAt_push_fresh {wb W W2 : World} {lo Y : Nat} {v v' : Value} {n r : Nat} {f : Tab} {bb oo : Nat → Nat} (hR : RowsAt wb lo v n (fun _ => r) f bb oo) (hY : Y ≤ wb.heap.size) (hlo : lo ≤ wb.heap.size) (hO : ∀ j, v.ownBlock = some j → Y ≤ j)
    {xs : List Value} (hb : Below wb.heap.size wb W) (hx : ∀ i, i < n → ∃ A cap, xs[i]? = some (.slice A r cap) ∧ (0 < r → A = some ⟨bb i, oo i, none⟩)) (hl : xs.length = n)
    {R c : Nat} {x : Nat → Int} (ho : RowOwn W wb.heap.size (some ⟨R, 0, none⟩) r x) (hf : ∀ j, j < r → x j = f n j)
    (hown : W2.ownsRow lo 32 1 v' (n + 1) (xs ++ [.slice (some ⟨R, 0, none⟩) r c])) (hg : (W.alloc (.cells #[.slice (some ⟨R, 0, none⟩) r c] 32)).grownBy W2 v.ownBlock) (hat : v'.ownBlock = v.ownBlock ∨ v'.ownBlock = some (W.heap.size + 1)) :
    (∃ bb oo, RowsAt W2 lo v' (n + 1) (fun _ => r) f bb oo) ∧ (∀ j, v'.ownBlock = some j → Y ≤ j) ∧ ∀ lo', lo' ≤ Y → Below lo' wb W2 := by
  have hba : Below W.heap.size W (W.alloc (.cells #[.slice (some ⟨R, 0, none⟩) r c] 32)) := belowAlloc (Below.refl _ _) _
  have hs := hb.size
  have hoR : ∀ j, v.ownBlock = some j → j < wb.heap.size := by
    obtain ⟨xs2, ho2, _⟩ := hR.own
    exact fun j e => (World.ownsRow.lt ho2 j e).2
  refine ⟨?_, fun j hj => ?_, fun lo' hl' => ?_⟩
  · have h := RowsAt.push (W := W.alloc (.cells #[.slice (some ⟨R, 0, none⟩) r c] 32)) (b := R) (o := 0) (m := r) (r := x) ((hR.next hb).next hba) (xs := xs) hx hl (A := some ⟨R, 0, none⟩) (cap := c)
      (fun h0 => by
        obtain ⟨b, o, e, h1, h2, h3⟩ := ho h0
        obtain ⟨rfl, rfl⟩ : R = b ∧ 0 = o := by injection e with e; injection e with e1 e2; exact ⟨e1, e2⟩
        exact ⟨rfl, by omega, by simp; omega, (fun e => by have := hoR _ e.symm; omega), fun j hj => ⟨cellThru hba h2 (h3 j hj).1, frozThru hba h2 (h3 j hj).2⟩⟩)
      (fun i j k hi hj hk he => by
        obtain ⟨b, o, e, h1, _, _⟩ := ho (Nat.lt_of_le_of_lt (Nat.zero_le _) hk)
        obtain ⟨rfl, rfl⟩ : R = b ∧ 0 = o := by injection e with e; injection e with e1 e2; exact ⟨e1, e2⟩
        have := (hR.row i hi (Nat.lt_of_le_of_lt (Nat.zero_le _) hk)).2.1
        omega) hown hg (by
        rcases hat with e | e
        · exact .inl e
        · exact .inr ⟨_, e, by simp⟩)
    refine ⟨_, _, h.congr (fun i hi => by by_cases e : i = n <;> simp [e]) (fun i j hi hj => ?_)⟩
    by_cases e : i = n
    · subst e; rw [if_pos rfl]; rw [if_pos rfl] at hj; exact hf j hj
    · rw [if_neg e]
  · rcases hat with e | e
    · rw [e] at hj; exact hO j hj
    · rw [e] at hj; have h1 := Option.some.inj hj; omega
  · exact below_grown8 (show Below lo' wb (W.alloc _) from (hb.trans (hba.mono hs)).mono (by omega)) hg (fun j e => Nat.le_trans hl' (hO j e)) (by simp; omega)

set_option maxRecDepth 8000 in
set_option maxHeartbeats 4000000 in
theorem specUnit8 (r : Nat) (c : Int) (hm : r ≤ 1000) (w : World) : Calls Try.prog 78 #[.int .i64 r, .int .i64 c] w fun e w' => ∃ A cp, e = .returned (.slice A r cp) ∧ Hid (TabOwn w' w.heap.size A r (fun _ => r) (unitF c)) ∧ Below w.heap.size w w' := by
  obtain ⟨i0, hi, hz0, hz1, hz2⟩ := infoS8_parts
  have HI := Lib.hid hi
  have HZ0 := Lib.hid hz0
  obtain ⟨j0, ji, jz0, jz1, jz2⟩ := infoI8_parts
  have HJI := Lib.hid ji
  have HJZ := Lib.hid jz0
  clear hi hz0 ji jz0
  go_enter Try.func78, Try.ntmps78
  go_wp2
  go_loopg [5, 6, 7] r (fun g s5 ix _ wr => ∃ (k : Nat) (v : Value), k + g = r ∧ ix = .int .i64 k ∧ s5 = v ∧ Hid (∃ bb oo, RowsAt wr w.heap.size v k (fun _ => r) (unitF c) bb oo) ∧ Hid (∀ j, v.ownBlock = some j → w.heap.size ≤ j) ∧ Hid (Below w.heap.size w wr))
  case atStart => exact ⟨0, _, by omega, rfl, rfl, Lib.hid ⟨fun _ => 0, fun _ => 0, rowsAt_lit (Nat.le_refl _)⟩, Lib.hid (fun j hj => by simp [Value.ownBlock] at hj; omega), Lib.hid (belowAlloc (Below.refl _ _) _)⟩
  case round =>
    obtain ⟨k, v, hkg, rfl, ev, HR, HO, HB⟩ := hrel
    have ev := ev.symm
    subst ev
    cases gk with
    | zero =>
      obtain rfl : k = r := by omega
      obtain ⟨bb, oo, hR⟩ := HR.out
      obtain ⟨xs, ho, hx⟩ := hR.own
      obtain ⟨A', cp, rfl, _⟩ := ownForm8 ho
      have HT : Hid (TabOwn wr w.heap.size A' k (fun _ => k) (unitF c)) := Lib.hid hR.tab
      have B2 := HB.out
      clear hkg hR ho hx HR
      go_wp2
      go_ret
      exact ⟨A', cp, rfl, HT, B2⟩
    | succ g =>
      have hkr : k < r := by omega
      have hkI : (k : Int) < (r : Int) := by omega
      have hi := HJI.out
      have hz0 := HJZ.out
      have HKG := Lib.hid hkg
      clear hkg
      go_upto_region 7 with (at_make; refine wpList_make_full _ rfl _ _ 32 rfl wr.heap.size 2 j0 (.int .i64 0) 1 Try.underlying32 hi hz0 jz1 .i64 .i64 _ _ r rfl rfl rfl rfl (by rw [jz2]; omega) (by unfold maxLen; omega) (by omega) ?_; intro w2 hown2 hgrow2; have y0 : w2.cell? ⟨wr.heap.size, k, none⟩ = some (.int .i64 0) := (hown2.cellAt k (by omega)).trans (made8 r k hkr); have y1 : w2.frozen? ⟨wr.heap.size, k, none⟩ = false := hown2.frozenAt _)
      obtain ⟨W, hW⟩ : ∃ W, w2.setCell ⟨wr.heap.size, k, none⟩ (.int .i64 c) = W := ⟨_, rfl⟩
      have hbW : Below wr.heap.size wr W := by rw [← hW]; exact (belowGrown8 hgrow2).setCell (Nat.le_refl _) _
      have HOw : Hid (RowOwn W wr.heap.size (some ⟨wr.heap.size, 0, none⟩) r (unitF c k)) := Lib.hid (fun _ => ⟨wr.heap.size, 0, rfl, Nat.le_refl _, by rw [← hW]; simpa using (World.ownsRow.lt hown2 _ rfl).2, fun j hj => by
        have hc : w2.cell? ⟨wr.heap.size, j, none⟩ = some (.int .i64 0) := (hown2.cellAt j (by omega)).trans (made8 r j hj)
        rw [Nat.zero_add, ← hW]
        refine ⟨?_, by simpa using hown2.frozenAt j⟩
        unfold unitF
        by_cases e : k = j
        · subst e; rw [if_pos rfl]; exact World.cell?_setCell_same _ _ _ hc
        · rw [if_neg e, World.cell?_setCell_other _ _ _ _ (by intro e2; injection e2; omega)]; exact hc⟩)
      obtain ⟨bb, oo, hR⟩ := HR.out
      obtain ⟨xs, hown, hx⟩ := (hR.next hbW).own
      have HRR := Lib.hid (And.intro hR (And.intro hx hbW))
      have HX := Lib.hid hown.1
      have hwr := HB.out.size
      have hWs := hbW.size
      have hi := HI.out
      have hz0 := HZ0.out
      rw [hW]
      clear hown2 hgrow2 y0 y1 hW hbW hR hx HR
      go_wp2_with (at_builtin; refine wpList_append_own_at _ rfl _ _ 24 rfl w.heap.size 32 i0 (.slice none 0 0) 1 24 Try.underlying24 hi hz0 hz1 hz2 rfl (by decide) v k xs rfl (World.ownsRow.alloc hown _) ⟨W.heap.size, 0, none⟩ 1 1 [.slice (some ⟨wr.heap.size, 0, none⟩) r r] rfl rfl (cell_one_new _ _ _) ?c2 ?c3 ?c4 ?c5 ?_)
      case c2 => first | rfl | (intro u hu; simp at hu; subst hu; rfl)
      case c3 => unfold maxLen; omega
      case c4 => omega
      case c5 => first | omega | (simp; omega)
      intro v' w3 hown' hgrow _ hat
      obtain ⟨h1, h2, h3⟩ := rowsAt_push_fresh HRR.out.1 hwr hwr HO.out HRR.out.2.2 HRR.out.2.1 (by have := HX.out; omega) HOw.out (fun _ _ => rfl) hown' hgrow (by simpa using hat)
      have HE := Lib.hid h1
      have HO2 := Lib.hid h2
      have HB2 : Hid (Below w.heap.size w w3) := Lib.hid (HB.out.trans (h3 w.heap.size (Nat.le_refl _)))
      clear hown hown' hgrow hi hz0 HRR HX hat HB HO HOw h1 h2 h3
      go_wp2
      go_roundg g
      case measure => omega
      case rel => exact ⟨k + 1, v', by have := HKG.out; omega, by go_num, rfl, HE, HO2, HB2⟩

theorem ldF_skip {r : Nat} {x : Nat → Int} {a : Tab} {i q : Nat} (h : x i = 0) : ldF r x a i 0 q = ldF r x a (i + 1) 0 q := by
  unfold ldF
  rw [if_neg (by omega), if_neg (by omega)]
  simp only [sigN]
  rw [h, Int.zero_mul, Int.add_zero]

set_option maxRecDepth 8000 in
set_option maxHeartbeats 8000000 in
theorem specTimes8 (A : Option Addr) (r ca : Nat) (a : Tab) (B : Option Addr) (cb : Nat) (b : Tab) (w : World) (ha : TabRd w w.heap.size A r (fun _ => r) a) (hb : TabRd w w.heap.size B r (fun _ => r) b) (hm : r ≤ 1000) :
    Calls Try.prog 79 #[.slice A r ca, .slice B r cb] w fun e w' => ∃ Y cp, e = .returned (.slice Y r cp) ∧ Hid (TabOwn w' w.heap.size Y r (fun _ => r) (mulF r a b)) ∧ Below w.heap.size w w' := by
  obtain ⟨i0, hi, hz0, hz1, hz2⟩ := infoS8_parts
  have HI := Lib.hid hi
  have HZ0 := Lib.hid hz0
  obtain ⟨j0, ji, jz0, jz1, jz2⟩ := infoI8_parts
  have HJI := Lib.hid ji
  have HJZ := Lib.hid jz0
  have HA := Lib.hid ha
  have HBt := Lib.hid hb
  clear hi hz0 ji jz0 ha hb
  go_enter Try.func79, Try.ntmps79
  go_wp2
  go_loopg [5, 6, 7, 8, 9] r (fun g s5 ix _ _ _ wr => ∃ (k : Nat) (v : Value), k + g = r ∧ ix = .int .i64 k ∧ s5 = v ∧ Hid (∃ bb oo, RowsAt wr w.heap.size v k (fun _ => r) (mulF r a b) bb oo) ∧ Hid (∀ j, v.ownBlock = some j → w.heap.size ≤ j) ∧ Hid (Below w.heap.size w wr))
  case atStart => exact ⟨0, _, by omega, rfl, rfl, Lib.hid ⟨fun _ => 0, fun _ => 0, rowsAt_lit (Nat.le_refl _)⟩, Lib.hid (fun j hj => by simp [Value.ownBlock] at hj; omega), Lib.hid (belowAlloc (Below.refl _ _) _)⟩
  case round =>
    obtain ⟨k, v, hkg, rfl, ev, HR, HO, HB⟩ := hrel
    have ev := ev.symm
    subst ev
    cases gk with
    | zero =>
      obtain rfl : k = r := by omega
      obtain ⟨bb, oo, hR⟩ := HR.out
      obtain ⟨xs, ho, hx⟩ := hR.own
      obtain ⟨A', cp, rfl, _⟩ := ownForm8 ho
      have HT : Hid (TabOwn wr w.heap.size A' k (fun _ => k) (mulF k a b)) := Lib.hid hR.tab
      have B2 := HB.out
      clear hkg hR ho hx HR
      go_wp2
      go_ret
      exact ⟨A', cp, rfl, HT, B2⟩
    | succ g =>
      have hkr : k < r := by omega
      have hr0 : 0 < r := by omega
      have hkI : (k : Int) < (r : Int) := by omega
      have hi := HJI.out
      have hz0 := HJZ.out
      have HKG := Lib.hid hkg
      have hwr := HB.out.size
      clear hkg
      go_wp2_with (at_make; refine wpList_make_full _ rfl _ _ 32 rfl wr.heap.size 2 j0 (.int .i64 0) 1 Try.underlying32 hi hz0 jz1 .i64 .i64 _ _ r rfl rfl rfl rfl (by rw [jz2]; omega) (by unfold maxLen; omega) (by omega) ?_; intro w6 hown6 hgrow6)
      obtain ⟨R, hR⟩ : ∃ R, wr.heap.size = R := ⟨_, rfl⟩
      have HRe := Lib.hid hR
      have HS0 : Hid (LdS wr R r (ldF r (a k) b 0 0) w6) := Lib.hid (by
        subst hR
        exact ⟨belowGrown8 hgrow6, rfl, fun _ => (World.ownsRow.lt hown6 _ rfl).2, fun q hq => ⟨by rw [ldF_zero]; exact (hown6.cellAt q (by omega)).trans (made8 r q hq), hown6.frozenAt _⟩⟩)
      obtain ⟨wb, hwb⟩ : ∃ wb, wb = wr := ⟨_, rfl⟩
      subst hwb
      have HAw : Hid (TabRd wb wb.heap.size A r (fun _ => r) a) := Lib.hid ((HA.out.below HB.out).more hwr)
      have HBw : Hid (TabRd wb wb.heap.size B r (fun _ => r) b) := Lib.hid ((HBt.out.below HB.out).more hwr)
      clear hown6 hgrow6 hi hz0 hR
      go_wp2_with fail
      try rw [HRe.out]
      go_loopg [8, 9] r (fun gp ix _ wx => ∃ p : Nat, p + gp = r ∧ ix = .int .i64 p ∧ Hid (LdS wb R r (ldF r (a k) b p 0) wx))
      case atStart => exact ⟨0, by omega, rfl, HS0⟩
      case round =>
        clear HS0
        obtain ⟨p, hpg, rfl, HS⟩ := hrel
        cases gk with
        | zero =>
          obtain rfl : p = r := by omega
          have HOwn : Hid (RowOwn wr wb.heap.size (some ⟨R, 0, none⟩) p (rowF p (a k) b)) := Lib.hid (fun h => by
            obtain ⟨b', o, e, h1, h2, h3⟩ := HS.out.own h
            refine ⟨b', o, e, h1, h2, fun q hq => ?_⟩
            rw [← ldF_done]; exact h3 q hq)
          have HbE := Lib.hid HS.out.B
          obtain ⟨bb, oo, hR⟩ := HR.out
          obtain ⟨xs, hown, hx⟩ := (hR.next HbE.out).own
          have HRR := Lib.hid (And.intro hR hx)
          have HX := Lib.hid hown.1
          have hWs := HbE.out.size
          have hi := HI.out
          have hz0 := HZ0.out
          clear HS hpg hR hx HR
          go_wp2_with (at_builtin; refine wpList_append_own_at _ rfl _ _ 24 rfl w.heap.size 32 i0 (.slice none 0 0) 1 24 Try.underlying24 hi hz0 hz1 hz2 rfl (by decide) v k xs rfl (World.ownsRow.alloc hown _) ⟨wr.heap.size, 0, none⟩ 1 1 [.slice (some ⟨R, 0, none⟩) p p] rfl rfl (cell_one_new _ _ _) ?c2 ?c3 ?c4 ?c5 ?_)
          case c2 => first | rfl | (intro u hu; simp at hu; subst hu; rfl)
          case c3 => unfold maxLen; omega
          case c4 => omega
          case c5 => first | omega | (simp; omega)
          intro v' w7 hown' hgrow _ hat
          obtain ⟨h1, h2, h3⟩ := rowsAt_push_fresh HRR.out.1 hwr hwr HO.out HbE.out HRR.out.2 (by have := HX.out; omega) HOwn.out (fun _ _ => rfl) hown' hgrow (by simpa using hat)
          have HE := Lib.hid h1
          have HO2 := Lib.hid h2
          have HB2 : Hid (Below w.heap.size w w7) := Lib.hid (HB.out.trans (h3 w.heap.size (Nat.le_refl _)))
          clear hown hown' hgrow hi hz0 HRR HX hat HB HO HOwn h1 h2 h3
          go_wp2
          go_roundg g
          case measure => omega
          case rel => exact ⟨k + 1, v', by have := HKG.out; omega, by go_num, rfl, HE, HO2, HB2⟩
        | succ gp =>
          have hpN : p < r := by omega
          have hpI : (p : Int) < (r : Int) := by omega
          have HPG := Lib.hid hpg
          obtain ⟨gx, ox, Ax, cx, rfl, hgx, n0, hrowx⟩ := tabRow HAw.out hkr
          obtain ⟨bx, ofx, rfl, hbx, hcx⟩ := hrowx hr0
          obtain ⟨g1, o1, Ai, ci, rfl, hg1, m0, hrow⟩ := tabRow HBw.out hpN
          obtain ⟨b1, off, rfl, hb1, hc⟩ := hrow hr0
          obtain ⟨xv, hxv⟩ : ∃ xv, a k p = xv := ⟨_, rfl⟩
          have HXv := Lib.hid hxv
          have n1 := hcx p hpN
          rw [hxv] at n1
          have HGX := Lib.hid (And.intro hgx n0)
          have HBX := Lib.hid (And.intro hbx n1)
          have HG1 := Lib.hid (And.intro hg1 m0)
          have HC := Lib.hid (And.intro hb1 hc)
          clear hgx n0 hrowx hbx hcx hg1 m0 hrow hb1 hc n1 hpg
          by_cases hx0 : xv = 0
          · have HS2 : Hid (LdS wb R r (ldF r (a k) b (p + 1) 0) wr) := Lib.hid (HS.out.congr fun j hj => ldF_skip (by rw [HXv.out]; exact hx0))
            subst hx0
            have n0 := cellThru HS.out.B HGX.out.1 HGX.out.2
            have n1 := cellThru HS.out.B HBX.out.1 HBX.out.2
            have h1 : gx < wr.heap.size := Nat.lt_of_lt_of_le HGX.out.1 HS.out.B.size
            have h2 : bx < wr.heap.size := Nat.lt_of_lt_of_le HBX.out.1 HS.out.B.size
            have hr0I : (0 : Int) < (r : Int) := by omega
            clear HS hxv
            go_wp2_with fail
            go_loopg [9] 1 (fun gq ix wx => ix = .int .i64 0 ∧ wx = wr)
            case atStart => exact ⟨rfl, rfl⟩
            case round =>
              obtain ⟨rfl, rfl⟩ := hrel
              go_wp2
              go_roundg gp
              case measure => omega
              case rel => exact ⟨p + 1, by have := HPG.out; omega, by go_num, HS2⟩
          · have hxb : (xv == 0) = false := beq_eq_false_iff_ne.2 hx0
            have hxd : decide (xv ≠ 0) = true := decide_eq_true hx0
            have HX0 := Lib.hid hx0
            clear hx0 hxv
            go_wp2_with fail
            go_loopg [9] r (fun gq ix wx => ∃ q : Nat, q + gq = r ∧ ix = .int .i64 q ∧ Hid (LdS wb R r (ldF r (a k) b p q) wx))
            case atStart => exact ⟨0, by omega, rfl, HS⟩
            case round =>
              clear HS
              obtain ⟨q, hqg, rfl, HS⟩ := hrel
              cases gk with
              | zero =>
                obtain rfl : q = r := by omega
                have HS2 : Hid (LdS wb R q (ldF q (a k) b (p + 1) 0) wr) := Lib.hid (HS.out.congr fun j hj => ldF_next hj)
                clear HS hqg
                go_wp2
                go_roundg gp
                case measure => omega
                case rel => exact ⟨p + 1, by have := HPG.out; omega, by go_num, HS2⟩
              | succ gq =>
                have hqN : q < r := by omega
                have hqI : (q : Int) < (r : Int) := by omega
                have hB := HS.out.B
                have n0 := cellThru hB HGX.out.1 HGX.out.2
                have n1 := cellThru hB HBX.out.1 HBX.out.2
                have m0 := cellThru hB HG1.out.1 HG1.out.2
                have m1 := cellThru hB HC.out.1 (HC.out.2 q hqN)
                obtain ⟨y0, y1⟩ := HS.out.cell q hqN
                obtain ⟨av, hav⟩ : ∃ av, b p q = av := ⟨_, rfl⟩
                have HAv := Lib.hid hav
                rw [hav] at m1
                obtain ⟨pv, hpv⟩ : ∃ pv, ldF r (a k) b p q q = pv := ⟨_, rfl⟩
                have HPv := Lib.hid hpv
                rw [hpv] at y0
                have hBs := hB.size
                have h1 : gx < wr.heap.size := Nat.lt_of_lt_of_le HGX.out.1 hBs
                have h2 : bx < wr.heap.size := Nat.lt_of_lt_of_le HBX.out.1 hBs
                have h3 : g1 < wr.heap.size := Nat.lt_of_lt_of_le HG1.out.1 hBs
                have h5 : b1 < wr.heap.size := Nat.lt_of_lt_of_le HC.out.1 hBs
                have h4 := HS.out.z hr0
                have HQG := Lib.hid hqg
                clear hav hpv hqg hB hBs
                go_wp2_with fail
                go_region
                all_goals
                  go_wp2
                  go_roundg gq
                  case measure => omega
                  case rel =>
                    refine ⟨q + 1, by have := HQG.out; omega, by go_num, Lib.hid (LdS.next ((HS.out.put hqN _).congr fun j hj => ?_) (Below.refl _ _).drew)⟩
                    rw [ldF_step]
                    by_cases e : j = q
                    · subst e; rw [if_pos rfl, if_pos rfl, HPv.out, HXv.out, HAv.out]
                    · rw [if_neg e, if_neg e]

set_option maxRecDepth 8000 in
set_option maxHeartbeats 2000000 in
theorem specPow8 (A : Option Addr) (r ca K : Nat) (a : Tab) (w : World) (ha : TabRd w w.heap.size A r (fun _ => r) a) (hm : r ≤ 1000) (hK : K ≤ 1000) :
    Calls Try.prog 59 #[.slice A r ca, .int .i64 K] w fun e w' => ∃ Y cp, e = .returned (.slice Y r cp) ∧ Hid (TabRd w' w'.heap.size Y r (fun _ => r) (powF r a K)) ∧ Below w.heap.size w w' := by
  have HA := Lib.hid ha
  have HU := Lib.hid (fun W => specUnit8 r 1 hm W)
  clear ha
  go_enter Try.func59, Try.ntmps59
  go_wp2_with fail
  refine (HU.out _).mono ?_
  rintro e w1 ⟨U, cU, rfl, hT, hb1⟩
  have HT0 : Hid (TabRd w1 w1.heap.size U r (fun _ => r) (powF r a 0)) := Lib.hid hT.out.rd
  have HB1 := Lib.hid hb1
  clear hT hb1 HU
  go_wp2
  go_loopg [1, 5] K (fun g s1 s5 wr => ∃ (k : Nat) (Y : Option Addr) (c : Nat), k + g = K ∧ s1 = .int .i64 (g : Int) ∧ s5 = .slice Y r c ∧ Hid (TabRd wr wr.heap.size Y r (fun _ => r) (powF r a k)) ∧ Hid (Below w.heap.size w wr))
  case atStart => exact ⟨0, U, cU, by omega, rfl, rfl, HT0, HB1⟩
  case round =>
    clear HT0 HB1
    obtain ⟨k, Y, c, hkg, rfl, rfl, HT, HB⟩ := hrel
    cases gk with
    | zero =>
      obtain rfl : k = K := by omega
      have B2 := HB.out
      clear hkg
      go_wp2
      go_ret
      exact ⟨Y, c, rfl, HT, B2⟩
    | succ g =>
      have hg0 : decide (((g + 1 : Nat) : Int) > 0) = true := decide_eq_true (by omega)
      have hg0' : decide ((0 : Int) < (g : Int) + 1) = true := decide_eq_true (by omega)
      have hgK : g + 1 ≤ 1000 := by omega
      have hwg : IntKind.i64.wrap ((g : Int) + 1 - 1) = (g : Int) := (IntWalk.i64_in _ (by omega)).trans (by omega)
      have hwg2 : wrap64 ((g : Int)) = (g : Int) := by unfold wrap64; omega
      have HM := Lib.hid (specTimes8 Y r c (powF r a k) A ca a wr HT.out ((HA.out.below HB.out).more HB.out.size) hm)
      have HKG := Lib.hid hkg
      clear hkg
      go_wp2_with fail
      refine HM.out.mono ?_
      rintro e w2 ⟨Y2, c2, rfl, hT2, hb2⟩
      have HT2 : Hid (TabRd w2 w2.heap.size Y2 r (fun _ => r) (powF r a (k + 1))) := Lib.hid hT2.out.rd
      have HB2 := Lib.hid (belowNext HB.out hb2)
      clear hT2 hb2 HM HT HB
      go_wp2
      go_roundg g
      case measure => omega
      case rel => exact ⟨k + 1, Y2, c2, by have := HKG.out; omega, by go_num, rfl, HT2, HB2⟩

/-- Rows summed whole, and j numbers of the next one. -/
def cnF (r : Nat) (f : Tab) (i j : Nat) : Int := wrap64 (sigN i (fun i => sigN r (fun j => f i j)) + sigN j (fun j => f i j))
theorem cnF_step (r : Nat) (f : Tab) (i j : Nat) : wrap64 (cnF r f i j + f i j) = cnF r f i (j + 1) := by
  unfold cnF
  refine Cg.eq (((Cg.wrap _).add (Cg.refl _)).trans ?_)
  simp only [sigN]
  rw [Int.add_assoc]
  exact Cg.refl _
theorem cnF_next (r : Nat) (f : Tab) (i : Nat) : cnF r f i r = cnF r f (i + 1) 0 := by
  unfold cnF; simp only [sigN, Int.add_zero]
theorem cnF_done (r : Nat) (f : Tab) : cnF r f r 0 = cntF r f := by
  unfold cnF cntF; simp only [sigN, Int.add_zero]

set_option maxRecDepth 8000 in
set_option maxHeartbeats 4000000 in
theorem specPaths8 (A : Option Addr) (m cap K : Nat) (L : List (Int × Int)) (N : Nat) (w : World) (hr : AngRow w w.heap.size A L) (hl : L.length = m) (hm : m ≤ 7) (ha : allAng L = true) (hN : (prL m).length = N) (hK : K ≤ 1000) :
    Calls Try.prog 55 #[.slice A m cap, .int .i64 K] w fun e w' => e = .returned (.int .i64 (cntF N (powF N (mxF L) K))) ∧ Below w.heap.size w w' := by
  have hN21 := prL_len hm
  rw [hN] at hN21
  have HM := Lib.hid (specMx A m cap L N w hr hl hm ha hN)
  generalize mxF L = a at *
  obtain ⟨f, hf⟩ : ∃ f, powF N a K = f := ⟨_, rfl⟩
  have HF := Lib.hid hf
  rw [hf]
  clear hr hl ha hN hf
  go_enter Try.func55, Try.ntmps55
  go_wp2_with fail
  refine HM.out.mono ?_
  rintro e w1 ⟨A2, c2, rfl, hT, hb1⟩
  have HP := Lib.hid (specPow8 A2 N c2 K a w1 hT.out.rd (by omega) hK)
  clear hT HM
  go_wp2_with fail
  refine HP.out.mono ?_
  rintro e w2 ⟨Y, cY, rfl, hT, hb2⟩
  have HT : Hid (TabRd w2 w2.heap.size Y N (fun _ => N) f) := Lib.hid (by have := hT.out; rw [HF.out] at this; exact this)
  have B2 := belowNext hb1 hb2
  clear hT HP hb1 hb2 HF
  go_wp2
  go_loopg [6, 7, 8] N (fun g s6 ix _ wr => ∃ (i : Nat) (S : Int), i + g = N ∧ ix = .int .i64 i ∧ s6 = .int .i64 S ∧ Hid (S = cnF N f i 0) ∧ wr = w2)
  case atStart => exact ⟨0, 0, by omega, rfl, rfl, Lib.hid (by simp [cnF, sigN, wrap64]), rfl⟩
  case round =>
    obtain ⟨i, S, hig, rfl, rfl, HS, rfl⟩ := hrel
    cases gk with
    | zero =>
      obtain rfl : i = N := by omega
      have HE : Hid (S = cntF i f) := Lib.hid (by rw [HS.out, cnF_done])
      clear hig
      go_wp2
      go_ret
      exact ⟨by rw [← HE.out]; rfl, B2⟩
    | succ g =>
      have hiN : i < N := by omega
      have hiI : (i : Int) < (N : Int) := by omega
      obtain ⟨g1, o1, Ai, ci, rfl, hg1, x0, hrow⟩ := tabRow HT.out hiN
      obtain ⟨b, off, rfl, hb, hc⟩ := hrow (show 0 < N by omega)
      have HC := Lib.hid hc
      have HIG := Lib.hid hig
      clear hrow hc hig
      go_wp2_with fail
      go_loopg [6, 8] N (fun g s6 jx wx => ∃ (j : Nat) (S : Int), j + g = N ∧ jx = .int .i64 j ∧ s6 = .int .i64 S ∧ Hid (S = cnF N f i j) ∧ wx = wr)
      case atStart => exact ⟨0, S, by omega, rfl, rfl, HS, rfl⟩
      case round =>
        clear HS
        obtain ⟨j, S, hjg, rfl, rfl, HS, rfl⟩ := hrel
        cases gk with
        | zero =>
          obtain rfl : j = N := by omega
          have HS2 : Hid (S = cnF j f (i + 1) 0) := Lib.hid (by rw [HS.out, cnF_next])
          clear hjg HS
          go_wp2
          go_roundg g
          case measure => omega
          case rel => exact ⟨i + 1, S, by have := HIG.out; omega, by go_num, rfl, HS2, rfl⟩
        | succ g2 =>
          have hjN : j < N := by omega
          have hjI : (j : Int) < (N : Int) := by omega
          have x1 := HC.out j hjN
          obtain ⟨v, hv⟩ : ∃ v, f i j = v := ⟨_, rfl⟩
          have HN : Hid (wrap64 (S + v) = cnF N f i (j + 1)) := Lib.hid (by rw [HS.out, ← hv]; exact cnF_step N f i j)
          rw [hv] at x1
          have HJG := Lib.hid hjg
          clear hv hjg HS
          go_wp2
          go_roundg g2
          case measure => omega
          case rel => exact ⟨j + 1, _, by have := HJG.out; omega, by go_num, rfl, HN, rfl⟩

/-- The answers of PathTrace and PathCount. -/
def pT8 (n d k : Int) : Int := if lC8 n d k 40 = 0 then trF (prL (o8 n d).length).length (powF (prL (o8 n d).length).length (mxF (o8 n d)) k.toNat) else 0
def pC8 (n d k : Int) : Int := if lC8 n d k 40 = 0 then cntF (prL (o8 n d).length).length (powF (prL (o8 n d).length).length (mxF (o8 n d)) k.toNat) else 0
theorem lC_zero {n d k : Int} (h : lC8 n d k 40 = 0) : c8 n d = 0 ∧ 0 ≤ k ∧ k ≤ 40 := by
  have e : lC8 n d k 40 = if c8 n d = 0 then (if 0 ≤ k ∧ k ≤ 40 then 0 else 2) else c8 n d := rfl
  rw [e] at h
  split at h
  · next h1 =>
    split at h
    · next h2 => exact ⟨h1, h2⟩
    · omega
  · next h1 => exact absurd h h1

set_option maxRecDepth 8000 in
set_option maxHeartbeats 2000000 in
theorem specPT8 (n d k : Int) (w : World) : Calls Try.prog 33 #[ang n d, .int .i64 k] w fun e w' => e = .returned (.tuple #[.int .i64 (pT8 n d k), .int .i64 (lC8 n d k 40)]) ∧ Below w.heap.size w w' := by
  have HO := Lib.hid (fun w => specLen8 n d k 40 w)
  have hm := o8_len n d
  have ha := o8_ang n d
  have e1 : pT8 n d k = if lC8 n d k 40 = 0 then trF (prL (o8 n d).length).length (powF (prL (o8 n d).length).length (mxF (o8 n d)) k.toNat) else 0 := rfl
  rw [e1]
  clear e1
  by_cases hC : lC8 n d k 40 = 0
  · obtain ⟨_, h0, h40⟩ := lC_zero hC
    rw [hC] at HO ⊢
    rw [if_pos rfl]
    obtain ⟨K, rfl⟩ : ∃ K : Nat, k = (K : Int) := ⟨k.toNat, by omega⟩
    have hK : K ≤ 1000 := by omega
    rw [show (K : Int).toNat = K by omega]
    clear hC h0 h40
    generalize o8 n d = L at *
    obtain ⟨N, hN⟩ : ∃ N, (prL L.length).length = N := ⟨_, rfl⟩
    have hN21 := prL_len hm
    rw [hN] at hN21 ⊢
    have HM := Lib.hid (fun A cap W (hr : AngRow W W.heap.size A L) => specMx A L.length cap L N W hr rfl hm ha hN)
    obtain ⟨m, hml⟩ : ∃ m, L.length = m := ⟨_, rfl⟩
    have HLm := Lib.hid hml
    rw [hml] at HM
    generalize mxF L = a at *
    obtain ⟨V, hV⟩ : ∃ V, trF N (powF N a K) = V := ⟨_, rfl⟩
    have HV := Lib.hid hV
    rw [hV]
    clear hN hml ha hV
    go_enter Try.func33, Try.ntmps33
    go_wp2_with fail
    refine (HO.out _).mono ?_
    rintro e w1 ⟨A, cap, rfl, hA, hb1⟩
    rw [HLm.out]
    have B1 : Below w.heap.size w w1 := by
      (repeat' (first | (with_reducible exact Below.refl _ _) | (with_reducible assumption) | (with_reducible refine belowNext ?_ (by with_reducible assumption)) | (with_reducible refine belowAlloc ?_ _) | (with_reducible refine Below.drew ?_) | (with_reducible refine below_drewN ?_ _) | (with_reducible refine Below.setCell ?_ ?_ _) | go_size | (with_reducible refine sizeOf' ?_) | (with_reducible refine sizeAdd ?_) | (dsimp only; first | (with_reducible refine sizeOf' ?_) | (with_reducible refine sizeAdd ?_))))
    go_wp2_with fail
    refine (HM.out A cap _ hA.row).mono ?_
    rintro e w2 ⟨A2, c2, rfl, hT, hb2⟩
    have HP := Lib.hid (specPow8 A2 N c2 K a w2 hT.out.rd (by omega) hK)
    have B2 := belowNext B1 hb2
    clear hA hb1 hT hb2 B1
    go_wp2_with fail
    refine HP.out.mono ?_
    rintro e w3 ⟨Y, cY, rfl, hT, hb3⟩
    have HTr := Lib.hid (specTr8 Y N cY (powF N a K) w3 hT.out (by omega))
    rw [HV.out] at HTr
    clear hT HP
    go_wp2_with fail
    refine HTr.out.mono ?_
    rintro e w4 ⟨rfl, rfl⟩
    go_wp2
    go_ret2
    exact ⟨rfl, belowNext B2 hb3⟩
  · rw [if_neg hC]
    have hC' : (lC8 n d k 40 == 0) = false := beq_eq_false_iff_ne.2 hC
    generalize lC8 n d k 40 = C at *
    clear hC hm ha
    go_enter Try.func33, Try.ntmps33
    go_wp2_with fail
    refine (HO.out _).mono ?_
    rintro e w1 ⟨A, cap, rfl, hA, hb1⟩
    clear hA
    go_wp2
    go_ret2
    refine ⟨rfl, ?_⟩
    (repeat' (first | (with_reducible exact Below.refl _ _) | (with_reducible assumption) | (with_reducible refine belowNext ?_ (by with_reducible assumption)) | (with_reducible refine belowAlloc ?_ _) | (with_reducible refine Below.drew ?_) | (with_reducible refine below_drewN ?_ _) | (with_reducible refine Below.setCell ?_ ?_ _) | go_size | (with_reducible refine sizeOf' ?_) | (with_reducible refine sizeAdd ?_) | (dsimp only; first | (with_reducible refine sizeOf' ?_) | (with_reducible refine sizeAdd ?_))))

set_option maxRecDepth 8000 in
set_option maxHeartbeats 2000000 in
theorem specPC8 (n d k : Int) (w : World) : Calls Try.prog 31 #[ang n d, .int .i64 k] w fun e w' => e = .returned (.tuple #[.int .i64 (pC8 n d k), .int .i64 (lC8 n d k 40)]) ∧ Below w.heap.size w w' := by
  have HO := Lib.hid (fun w => specLen8 n d k 40 w)
  have hm := o8_len n d
  have ha := o8_ang n d
  have e1 : pC8 n d k = if lC8 n d k 40 = 0 then cntF (prL (o8 n d).length).length (powF (prL (o8 n d).length).length (mxF (o8 n d)) k.toNat) else 0 := rfl
  rw [e1]
  clear e1
  by_cases hC : lC8 n d k 40 = 0
  · obtain ⟨_, h0, h40⟩ := lC_zero hC
    rw [hC] at HO ⊢
    rw [if_pos rfl]
    obtain ⟨K, rfl⟩ : ∃ K : Nat, k = (K : Int) := ⟨k.toNat, by omega⟩
    have hK : K ≤ 1000 := by omega
    rw [show (K : Int).toNat = K by omega]
    clear hC h0 h40
    generalize o8 n d = L at *
    have HM := Lib.hid (fun A cap W (hr : AngRow W W.heap.size A L) => specPaths8 A L.length cap K L _ W hr rfl hm ha rfl hK)
    generalize cntF (prL L.length).length (powF (prL L.length).length (mxF L) K) = V at *
    obtain ⟨m, hml⟩ : ∃ m, L.length = m := ⟨_, rfl⟩
    have HLm := Lib.hid hml
    rw [hml] at HM
    clear hml ha
    go_enter Try.func31, Try.ntmps31
    go_wp2_with fail
    refine (HO.out _).mono ?_
    rintro e w1 ⟨A, cap, rfl, hA, hb1⟩
    rw [HLm.out]
    go_wp2_with fail
    refine (HM.out A cap _ hA.row).mono ?_
    rintro e w2 ⟨rfl, hb2⟩
    clear hA
    go_wp2
    go_ret2
    refine ⟨rfl, ?_⟩
    (repeat' (first | (with_reducible exact Below.refl _ _) | (with_reducible assumption) | (with_reducible refine belowNext ?_ (by with_reducible assumption)) | (with_reducible refine belowAlloc ?_ _) | (with_reducible refine Below.drew ?_) | (with_reducible refine below_drewN ?_ _) | (with_reducible refine Below.setCell ?_ ?_ _) | go_size | (with_reducible refine sizeOf' ?_) | (with_reducible refine sizeAdd ?_) | (dsimp only; first | (with_reducible refine sizeOf' ?_) | (with_reducible refine sizeAdd ?_))))
  · rw [if_neg hC]
    have hC' : (lC8 n d k 40 == 0) = false := beq_eq_false_iff_ne.2 hC
    generalize lC8 n d k 40 = C at *
    clear hC hm ha
    go_enter Try.func31, Try.ntmps31
    go_wp2_with fail
    refine (HO.out _).mono ?_
    rintro e w1 ⟨A, cap, rfl, hA, hb1⟩
    clear hA
    go_wp2
    go_ret2
    refine ⟨rfl, ?_⟩
    (repeat' (first | (with_reducible exact Below.refl _ _) | (with_reducible assumption) | (with_reducible refine belowNext ?_ (by with_reducible assumption)) | (with_reducible refine belowAlloc ?_ _) | (with_reducible refine Below.drew ?_) | (with_reducible refine below_drewN ?_ _) | (with_reducible refine Below.setCell ?_ ?_ _) | go_size | (with_reducible refine sizeOf' ?_) | (with_reducible refine sizeAdd ?_) | (dsimp only; first | (with_reducible refine sizeOf' ?_) | (with_reducible refine sizeAdd ?_))))

/-- A matrix that is read, and a code. -/
def ResMx (w : World) (N : Nat) (f : Tab) (C : Int) (e : Ending) (w' : World) : Prop :=
  ∃ A c n, e = .returned (.tuple #[.slice A n c, .int .i64 C]) ∧ Hid (n = (if C = 0 then N else 0) ∧ TabRd w' w'.heap.size A n (fun _ => n) f) ∧ Below w.heap.size w w'

set_option maxRecDepth 8000 in
set_option maxHeartbeats 4000000 in
theorem implPop (n d k : Int) (w : World) : Calls Try.prog 56 #[ang n d, .int .i64 k] w (ResMx w (prL (o8 n d).length).length (powF (prL (o8 n d).length).length (mxF (o8 n d)) k.toNat) (lC8 n d k 40)) := by
  have HO := Lib.hid (fun w => implPT n d w)
  have hm := o8_len n d
  have ha := o8_ang n d
  have e4 : lC8 n d k 40 = if c8 n d = 0 then (if 0 ≤ k ∧ k ≤ 40 then 0 else 2) else c8 n d := rfl
  rw [e4]
  clear e4
  generalize o8 n d = L at *
  generalize c8 n d = C at *
  by_cases hC : C = 0
  · subst hC
    rw [if_pos rfl]
    by_cases hk : 0 ≤ k ∧ k ≤ 40
    · rw [if_pos hk]
      obtain ⟨K, rfl⟩ : ∃ K : Nat, k = (K : Int) := ⟨k.toNat, by omega⟩
      have hK : K ≤ 40 := by omega
      rw [show (K : Int).toNat = K by omega]
      have d2 : decide ((K : Int) < 0) = false := decide_eq_false (by omega)
      have d3 : decide ((K : Int) > 40) = false := decide_eq_false (by omega)
      have d3' : decide ((40 : Int) < (K : Int)) = false := decide_eq_false (by omega)
      obtain ⟨N, hN⟩ : ∃ N, (prL L.length).length = N := ⟨_, rfl⟩
      have hN21 := prL_len hm
      rw [hN] at hN21 ⊢
      have HM := Lib.hid (fun A cap A2 cap2 W (hr : AngRow W W.heap.size A L) ht => implMx A L.length cap A2 N cap2 L W hr rfl hm ha ht hN)
      obtain ⟨m, hml⟩ : ∃ m, L.length = m := ⟨_, rfl⟩
      have HLm := Lib.hid hml
      rw [hml] at HM hN
      have HNn := Lib.hid hN
      generalize mxF L = a at *
      clear hN hml ha hk
      go_enter Try.func56, Try.ntmps56
      go_wp2_with fail
      refine (HO.out _).mono ?_
      rintro e w1 ⟨A, cap, A2, cap2, rfl, hA, ht, hb1⟩
      rw [HLm.out] at ht ⊢
      rw [HNn.out] at ht ⊢
      have HR := Lib.hid hA.row
      have HT := Lib.hid ht.rd
      have B1 : Below w.heap.size w w1 := by
        (repeat' (first | (with_reducible exact Below.refl _ _) | (with_reducible assumption) | (with_reducible refine belowNext ?_ (by with_reducible assumption)) | (with_reducible refine belowAlloc ?_ _) | (with_reducible refine Below.drew ?_) | (with_reducible refine below_drewN ?_ _) | (with_reducible refine Below.setCell ?_ ?_ _) | go_size | (with_reducible refine sizeOf' ?_) | (with_reducible refine sizeAdd ?_) | (dsimp only; first | (with_reducible refine sizeOf' ?_) | (with_reducible refine sizeAdd ?_))))
      clear hA ht
      go_wp2_with fail
      refine (HM.out A cap A2 cap2 _ ((HR.out.below (belowAlloc (Below.refl _ _) _)).more (belowAlloc (Below.refl _ _) _).size) ((HT.out.below (belowAlloc (Below.refl _ _) _)).more (belowAlloc (Below.refl _ _) _).size)).mono ?_
      rintro e w2 ⟨A3, c3, rfl, H2, hb2⟩
      have hU := Lib.hid (implUpT A3 N c3 K a w2 H2.out.rd hN21 (by omega))
      have B2 : Below w.heap.size w w2 := by
        (repeat' (first | (with_reducible exact Below.refl _ _) | (with_reducible assumption) | (with_reducible refine belowNext ?_ (by with_reducible assumption)) | (with_reducible refine belowAlloc ?_ _) | (with_reducible refine Below.drew ?_) | (with_reducible refine below_drewN ?_ _) | (with_reducible refine Below.setCell ?_ ?_ _) | go_size | (with_reducible refine sizeOf' ?_) | (with_reducible refine sizeAdd ?_) | (dsimp only; first | (with_reducible refine sizeOf' ?_) | (with_reducible refine sizeAdd ?_))))
      clear H2 hb2 hb1 HR HT HM
      go_wp2_with fail
      refine hU.out.mono ?_
      rintro e w3 ⟨A4, c4, xs, rfl, H4', hb3⟩
      obtain ⟨V, cV, hV, hcV, hg⟩ := ownForm8 H4'.out.own
      obtain ⟨rfl, rfl⟩ : A4 = V ∧ c4 = cV := by injection hV with a _ b; exact ⟨a, b⟩
      obtain ⟨gV, rfl, hgV, hgz⟩ := hg (by omega)
      obtain ⟨Ak, ck, hxk, hNe⟩ := H4'.out.got K (by omega)
      have x0 : w3.cell? ⟨gV, K, none⟩ = some (.slice Ak N ck) := (H4'.out.own.cellAt K (by omega)).trans hxk
      have HTb := Lib.hid hNe.rd
      have hKI : (K : Int) < ((K + 1 : Nat) : Int) := by omega
      have hKI2 : (K : Int) < (K : Int) + 1 := by omega
      have hKn : K < K + 1 := by omega
      have B3 := belowNext B2 hb3
      clear hg hxk hNe H4' hU hb3 hV hcV
      go_wp2
      go_ret2
      exact ⟨Ak, ck, N, rfl, Lib.hid ⟨by rw [if_pos rfl], HTb.out⟩, B3⟩
    · rw [if_neg hk]
      have HK := Lib.hid hk
      clear hk hm ha
      go_enter Try.func56, Try.ntmps56
      go_wp2_with fail
      refine (HO.out _).mono ?_
      rintro e w1 ⟨A, cap, A2, cap2, rfl, hA, ht, hb1⟩
      clear hA ht
      by_cases h0 : k < 0
      · have d2 : decide (k < 0) = true := decide_eq_true h0
        go_wp2
        go_ret2
        refine ⟨none, 0, 0, rfl, Lib.hid ⟨by rw [if_neg (by omega)], tabRd_nil⟩, ?_⟩
        (repeat' (first | (with_reducible exact Below.refl _ _) | (with_reducible assumption) | (with_reducible refine belowNext ?_ (by with_reducible assumption)) | (with_reducible refine belowAlloc ?_ _) | (with_reducible refine Below.drew ?_) | (with_reducible refine below_drewN ?_ _) | (with_reducible refine Below.setCell ?_ ?_ _) | go_size | (with_reducible refine sizeOf' ?_) | (with_reducible refine sizeAdd ?_) | (dsimp only; first | (with_reducible refine sizeOf' ?_) | (with_reducible refine sizeAdd ?_))))
      · have d2 : decide (k < 0) = false := decide_eq_false h0
        have h40 : k > 40 := by have := HK.out; omega
        have d3 : decide (k > 40) = true := decide_eq_true h40
        have d3' : decide (40 < k) = true := decide_eq_true h40
        go_wp2
        go_ret2
        refine ⟨none, 0, 0, rfl, Lib.hid ⟨by rw [if_neg (by omega)], tabRd_nil⟩, ?_⟩
        (repeat' (first | (with_reducible exact Below.refl _ _) | (with_reducible assumption) | (with_reducible refine belowNext ?_ (by with_reducible assumption)) | (with_reducible refine belowAlloc ?_ _) | (with_reducible refine Below.drew ?_) | (with_reducible refine below_drewN ?_ _) | (with_reducible refine Below.setCell ?_ ?_ _) | go_size | (with_reducible refine sizeOf' ?_) | (with_reducible refine sizeAdd ?_) | (dsimp only; first | (with_reducible refine sizeOf' ?_) | (with_reducible refine sizeAdd ?_))))
  · rw [if_neg hC]
    have hC' : (C == 0) = false := beq_eq_false_iff_ne.2 hC
    have HC := Lib.hid hC
    clear hC hm ha
    go_enter Try.func56, Try.ntmps56
    go_wp2_with fail
    refine (HO.out _).mono ?_
    rintro e w1 ⟨A, cap, A2, cap2, rfl, hA, ht, hb1⟩
    clear hA ht
    go_wp2
    go_ret2
    refine ⟨none, 0, 0, rfl, Lib.hid ⟨by rw [if_neg HC.out], tabRd_nil⟩, ?_⟩
    (repeat' (first | (with_reducible exact Below.refl _ _) | (with_reducible assumption) | (with_reducible refine belowNext ?_ (by with_reducible assumption)) | (with_reducible refine belowAlloc ?_ _) | (with_reducible refine Below.drew ?_) | (with_reducible refine below_drewN ?_ _) | (with_reducible refine Below.setCell ?_ ?_ _) | go_size | (with_reducible refine sizeOf' ?_) | (with_reducible refine sizeAdd ?_) | (dsimp only; first | (with_reducible refine sizeOf' ?_) | (with_reducible refine sizeAdd ?_))))

set_option maxRecDepth 8000 in
set_option maxHeartbeats 2000000 in
theorem implPT8 (n d k : Int) (w : World) : Calls Try.prog 34 #[ang n d, .int .i64 k] w fun e w' => e = .returned (.tuple #[.int .i64 (pT8 n d k), .int .i64 (lC8 n d k 40)]) ∧ Below w.heap.size w w' := by
  have HP := Lib.hid (fun w => implPop n d k w)
  have hN21 := prL_len (o8_len n d)
  have HV : Hid (∀ N, N = (if lC8 n d k 40 = 0 then (prL (o8 n d).length).length else 0) → trF N (powF (prL (o8 n d).length).length (mxF (o8 n d)) k.toNat) = pT8 n d k) := Lib.hid (fun N h => by
    have e1 : pT8 n d k = if lC8 n d k 40 = 0 then trF (prL (o8 n d).length).length (powF (prL (o8 n d).length).length (mxF (o8 n d)) k.toNat) else 0 := rfl
    rw [e1, h]
    split
    · rfl
    · simp [trF, sigN, wrap64])
  generalize pT8 n d k = V at *
  generalize lC8 n d k 40 = C at *
  generalize (prL (o8 n d).length).length = N at *
  generalize powF N (mxF (o8 n d)) k.toNat = f at *
  go_enter Try.func34, Try.ntmps34
  go_wp2_with fail
  refine (HP.out _).mono ?_
  rintro e w1 ⟨A, c, q, rfl, H1, hb1⟩
  have hq : q ≤ 21 := by
    have := H1.out.1
    rw [this]; split <;> omega
  have HTr := Lib.hid (implTr A q c f w1 H1.out.2 (by omega))
  rw [HV.out q H1.out.1] at HTr
  clear H1
  go_wp2_with fail
  refine HTr.out.mono ?_
  rintro e w2 ⟨rfl, rfl⟩
  go_wp2
  go_ret2
  refine ⟨rfl, ?_⟩
  (repeat' (first | (with_reducible exact Below.refl _ _) | (with_reducible assumption) | (with_reducible refine belowNext ?_ (by with_reducible assumption)) | (with_reducible refine belowAlloc ?_ _) | (with_reducible refine Below.drew ?_) | (with_reducible refine below_drewN ?_ _) | (with_reducible refine Below.setCell ?_ ?_ _) | go_size | (with_reducible refine sizeOf' ?_) | (with_reducible refine sizeAdd ?_) | (dsimp only; first | (with_reducible refine sizeOf' ?_) | (with_reducible refine sizeAdd ?_))))

set_option maxRecDepth 8000 in
set_option maxHeartbeats 4000000 in
theorem implPC8 (n d k : Int) (w : World) : Calls Try.prog 32 #[ang n d, .int .i64 k] w fun e w' => e = .returned (.tuple #[.int .i64 (pC8 n d k), .int .i64 (lC8 n d k 40)]) ∧ Below w.heap.size w w' := by
  have HP := Lib.hid (fun w => implPop n d k w)
  have hN21 := prL_len (o8_len n d)
  have HV : Hid (∀ N, N = (if lC8 n d k 40 = 0 then (prL (o8 n d).length).length else 0) → cntF N (powF (prL (o8 n d).length).length (mxF (o8 n d)) k.toNat) = pC8 n d k) := Lib.hid (fun N h => by
    have e1 : pC8 n d k = if lC8 n d k 40 = 0 then cntF (prL (o8 n d).length).length (powF (prL (o8 n d).length).length (mxF (o8 n d)) k.toNat) else 0 := rfl
    rw [e1, h]
    split
    · rfl
    · simp [cntF, sigN, wrap64])
  generalize pC8 n d k = V at *
  generalize lC8 n d k 40 = C at *
  generalize (prL (o8 n d).length).length = N at *
  generalize powF N (mxF (o8 n d)) k.toNat = f at *
  go_enter Try.func32, Try.ntmps32
  go_wp2_with fail
  refine (HP.out _).mono ?_
  rintro e w1 ⟨A, c, q, rfl, H1, hb1⟩
  have hq : q ≤ 21 := by
    have := H1.out.1
    rw [this]; split <;> omega
  have HVq : Hid (cntF q f = V) := Lib.hid (HV.out q H1.out.1)
  have HT := Lib.hid H1.out.2
  have B1 : Below w.heap.size w w1 := by
    (repeat' (first | (with_reducible exact Below.refl _ _) | (with_reducible assumption) | (with_reducible refine belowNext ?_ (by with_reducible assumption)) | (with_reducible refine belowAlloc ?_ _) | (with_reducible refine Below.drew ?_) | (with_reducible refine below_drewN ?_ _) | (with_reducible refine Below.setCell ?_ ?_ _) | go_size | (with_reducible refine sizeOf' ?_) | (with_reducible refine sizeAdd ?_) | (dsimp only; first | (with_reducible refine sizeOf' ?_) | (with_reducible refine sizeAdd ?_))))
  clear H1 hb1
  go_wp2
  go_loopg [8, 10, 19] q (fun g s8 _ ix wr => ∃ (i : Nat) (S : Int), i + g = q ∧ ix = .int .i64 i ∧ s8 = .int .i64 S ∧ Hid (S = wrap64 (sigN i fun i => sigN q fun j => f i j)) ∧ wr = w1)
  case atStart => exact ⟨0, 0, by omega, rfl, rfl, Lib.hid (by simp [sigN, wrap64]), rfl⟩
  case round =>
    obtain ⟨i, S, hig, rfl, rfl, HS, rfl⟩ := hrel
    cases gk with
    | zero =>
      obtain rfl : i = q := by omega
      have HE : Hid (S = V) := Lib.hid (by rw [HS.out, ← HVq.out]; rfl)
      clear hig
      go_wp2
      go_ret2
      exact ⟨by rw [← HE.out]; rfl, B1⟩
    | succ g =>
      have hiq : i < q := by omega
      obtain ⟨g1, o1, Ai, ci, rfl, hg1, x0, hrow⟩ := tabRow HT.out hiq
      have HSm := Lib.hid (implSum Ai q ci (f i) wr hrow (by omega))
      have HN : Hid (wrap64 (S + wrap64 (sigN q (f i))) = wrap64 (sigN (i + 1) fun i => sigN q fun j => f i j)) := Lib.hid (by rw [HS.out]; exact wrap_step2 i fun i => sigN q fun j => f i j)
      obtain ⟨v, hv⟩ : ∃ v, wrap64 (sigN q (f i)) = v := ⟨_, rfl⟩
      rw [hv] at HSm HN
      have HIG := Lib.hid hig
      clear hrow hv hig HS
      go_wp2_with fail
      refine HSm.out.mono ?_
      rintro e w2 ⟨rfl, rfl⟩
      go_wp2
      go_roundg g
      case measure => omega
      case rel => exact ⟨i + 1, _, by have := HIG.out; omega, by go_num, rfl, HN, rfl⟩

set_option maxHeartbeats 4000000 in
theorem lawPathTrace (n d : Int) (_ : (Lit.int .i64 n).wf = true) (_ : (Lit.int .i64 d).wf = true) (k : Int) (_ : (Lit.int .i64 k).wf = true) (w : World) :
    Calls Try.prog 9 #[ang n d, .int .i64 k] w fun e w' => e = .returned (.bool true) ∧ Below w.heap.size w w' := by
  have HA := Lib.hid (fun w => specPT8 n d k w)
  have HB := Lib.hid (fun w => implPT8 n d k w)
  generalize pT8 n d k = V at *
  generalize lC8 n d k 40 = C at *
  go_enter Try.func9, Try.ntmps9
  go_wp2_with fail
  refine (toAngX _ _ _).mono ?_
  rintro e w1 ⟨rfl, rfl⟩
  go_wp2_with fail
  refine (HA.out _).mono ?_
  rintro e w2 ⟨rfl, hb2⟩
  have c0 : w2.cell? ⟨w.heap.size, 0, none⟩ = some (.int .i64 n) := cellThru hb2 (by simp <;> omega) (by simp [go_sem])
  have c1 : w2.cell? ⟨w.heap.size, 1, none⟩ = some (.int .i64 d) := cellThru hb2 (by simp <;> omega) (by simp [go_sem])
  have z2 : w.heap.size < w2.heap.size := by have := hb2.size; simp at this; omega
  have B2 : Below w.heap.size w w2 := by
    (repeat' (first | (with_reducible exact Below.refl _ _) | (with_reducible assumption) | (with_reducible refine belowNext ?_ (by with_reducible assumption)) | (with_reducible refine belowAlloc ?_ _) | (with_reducible refine Below.drew ?_) | (with_reducible refine below_drewN ?_ _) | (with_reducible refine Below.setCell ?_ ?_ _) | go_size | (with_reducible refine sizeOf' ?_) | (with_reducible refine sizeAdd ?_) | (dsimp only; first | (with_reducible refine sizeOf' ?_) | (with_reducible refine sizeAdd ?_))))
  clear hb2
  go_wp2_with fail
  refine (toAngX _ _ _).mono ?_
  rintro e w3 ⟨rfl, rfl⟩
  go_wp2_with fail
  refine (HB.out _).mono ?_
  rintro e w4 ⟨rfl, hb4⟩
  have B4 : Below w.heap.size w w4 := by
    (repeat' (first | (with_reducible exact Below.refl _ _) | (with_reducible assumption) | (with_reducible refine belowNext ?_ (by with_reducible assumption)) | (with_reducible refine belowAlloc ?_ _) | (with_reducible refine Below.drew ?_) | (with_reducible refine below_drewN ?_ _) | (with_reducible refine Below.setCell ?_ ?_ _) | go_size | (with_reducible refine sizeOf' ?_) | (with_reducible refine sizeAdd ?_) | (dsimp only; first | (with_reducible refine sizeOf' ?_) | (with_reducible refine sizeAdd ?_))))
  clear hb4
  go_wp2
  go_ret
  exact ⟨rfl, B4⟩

set_option maxHeartbeats 4000000 in
theorem lawPathCount (n d : Int) (_ : (Lit.int .i64 n).wf = true) (_ : (Lit.int .i64 d).wf = true) (k : Int) (_ : (Lit.int .i64 k).wf = true) (w : World) :
    Calls Try.prog 8 #[ang n d, .int .i64 k] w fun e w' => e = .returned (.bool true) ∧ Below w.heap.size w w' := by
  have HA := Lib.hid (fun w => specPC8 n d k w)
  have HB := Lib.hid (fun w => implPC8 n d k w)
  generalize pC8 n d k = V at *
  generalize lC8 n d k 40 = C at *
  go_enter Try.func8, Try.ntmps8
  go_wp2_with fail
  refine (toAngX _ _ _).mono ?_
  rintro e w1 ⟨rfl, rfl⟩
  go_wp2_with fail
  refine (HA.out _).mono ?_
  rintro e w2 ⟨rfl, hb2⟩
  have c0 : w2.cell? ⟨w.heap.size, 0, none⟩ = some (.int .i64 n) := cellThru hb2 (by simp <;> omega) (by simp [go_sem])
  have c1 : w2.cell? ⟨w.heap.size, 1, none⟩ = some (.int .i64 d) := cellThru hb2 (by simp <;> omega) (by simp [go_sem])
  have z2 : w.heap.size < w2.heap.size := by have := hb2.size; simp at this; omega
  have B2 : Below w.heap.size w w2 := by
    (repeat' (first | (with_reducible exact Below.refl _ _) | (with_reducible assumption) | (with_reducible refine belowNext ?_ (by with_reducible assumption)) | (with_reducible refine belowAlloc ?_ _) | (with_reducible refine Below.drew ?_) | (with_reducible refine below_drewN ?_ _) | (with_reducible refine Below.setCell ?_ ?_ _) | go_size | (with_reducible refine sizeOf' ?_) | (with_reducible refine sizeAdd ?_) | (dsimp only; first | (with_reducible refine sizeOf' ?_) | (with_reducible refine sizeAdd ?_))))
  clear hb2
  go_wp2_with fail
  refine (toAngX _ _ _).mono ?_
  rintro e w3 ⟨rfl, rfl⟩
  go_wp2_with fail
  refine (HB.out _).mono ?_
  rintro e w4 ⟨rfl, hb4⟩
  have B4 : Below w.heap.size w w4 := by
    (repeat' (first | (with_reducible exact Below.refl _ _) | (with_reducible assumption) | (with_reducible refine belowNext ?_ (by with_reducible assumption)) | (with_reducible refine belowAlloc ?_ _) | (with_reducible refine Below.drew ?_) | (with_reducible refine below_drewN ?_ _) | (with_reducible refine Below.setCell ?_ ?_ _) | go_size | (with_reducible refine sizeOf' ?_) | (with_reducible refine sizeAdd ?_) | (dsimp only; first | (with_reducible refine sizeOf' ?_) | (with_reducible refine sizeAdd ?_))))
  clear hb4
  go_wp2
  go_ret
  exact ⟨rfl, B4⟩
end Go.Proofs.Ytjomgbjiognmmaa

/-
  Sums of rows, traces, products of a row and a table, as the program finds them.
  The rows that a matrix makes of a row; PairOrbit, as the program answers it.
  PairOrbit, as the model answers it; its law.
-/
import Derived.Test.YtjomgbjiognmmaaHC
import Derived.Test.YtjomgbjiognmmaaHD
namespace Go.Proofs.Ytjomgbjiognmmaa
open Go.RowKit

/-- A row of numbers that a call owns. -/
def RowOwn (w : World) (lo : Nat) (A : Option Addr) (n : Nat) (f : Nat → Int) : Prop :=
  0 < n → ∃ b off, A = some ⟨b, off, none⟩ ∧ lo ≤ b ∧ b < w.heap.size ∧ ∀ j, j < n → w.cell? ⟨b, off + j, none⟩ = some (.int .i64 (f j)) ∧ w.frozen? ⟨b, off + j, none⟩ = false
theorem RowOwn.rd {w : World} {lo : Nat} {A : Option Addr} {n : Nat} {f : Nat → Int} (h : RowOwn w lo A n f) : RowRd w w.heap.size A n f := by
  intro hn
  obtain ⟨b, off, e, _, h2, h3⟩ := h hn
  exact ⟨b, off, e, h2, fun j hj => (h3 j hj).1⟩
theorem RowOwn.next {w w' : World} {lo : Nat} {A : Option Addr} {n : Nat} {f : Nat → Int} (h : RowOwn w lo A n f) (hb : Below w.heap.size w w') : RowOwn w' lo A n f := by
  intro hn
  obtain ⟨b, off, e, h1, h2, h3⟩ := h hn
  exact ⟨b, off, e, h1, Nat.lt_of_lt_of_le h2 hb.size, fun j hj => ⟨(hb.cell (p := ⟨b, _, none⟩) h2).trans (h3 j hj).1, (hb.frozen (p := ⟨b, _, none⟩) h2).trans (h3 j hj).2⟩⟩
theorem tabRow {w : World} {B : Nat} {A : Option Addr} {n : Nat} {ln : Nat → Nat} {f : Tab} (h : TabRd w B A n ln f) {i : Nat} (hi : i < n) : ∃ g off Ai ci, A = some ⟨g, off, none⟩ ∧ g < B ∧ w.cell? ⟨g, off + i, none⟩ = some (.slice Ai (ln i) ci) ∧ RowRd w B Ai (ln i) (f i) := by
  obtain ⟨g, off, e, hg, hc⟩ := h (by omega)
  obtain ⟨Ai, ci, h1, h2⟩ := hc i hi
  exact ⟨g, off, Ai, ci, e, hg, h1, h2⟩

set_option maxRecDepth 8000 in
set_option maxHeartbeats 2000000 in
theorem implSum (A : Option Addr) (n cap : Nat) (f : Nat → Int) (w : World) (hr : RowRd w w.heap.size A n f) (hm : n ≤ 1000000) :
    Calls Try.prog 57 #[.slice A n cap] w fun e w' => e = .returned (.int .i64 (wrap64 (sigN n f))) ∧ w' = w := by
  have HR := Lib.hid hr
  clear hr
  go_enter Try.func57, Try.ntmps57
  go_wp2
  go_loopg [3, 5, 8] n (fun g s3 _ ix wr => ∃ (k : Nat) (S : Int), k + g = n ∧ ix = .int .i64 k ∧ s3 = .int .i64 S ∧ Hid (S = wrap64 (sigN k f)) ∧ wr = w)
  case atStart => exact ⟨0, 0, by omega, rfl, rfl, Lib.hid (by simp [sigN, wrap64]), rfl⟩
  case round =>
    obtain ⟨k, S, hkg, rfl, rfl, HS, rfl⟩ := hrel
    cases gk with
    | zero =>
      obtain rfl : k = n := by omega
      clear hkg
      go_wp2
      go_ret
      exact ⟨by rw [← HS.out]; rfl, rfl⟩
    | succ g =>
      have hkn : k < n := by omega
      obtain ⟨b, off, rfl, hb, hc⟩ := HR.out (by omega)
      have x0 := hc k hkn
      obtain ⟨v, hv⟩ : ∃ v, f k = v := ⟨_, rfl⟩
      have HN : Hid (wrap64 (S + v) = wrap64 (sigN (k + 1) f)) := Lib.hid (by rw [HS.out, ← hv]; exact wrap_step k f)
      rw [hv] at x0
      have HKG := Lib.hid hkg
      clear hc hv hkg
      go_wp2
      go_roundg g
      case measure => omega
      case rel => exact ⟨k + 1, _, by have := HKG.out; omega, by go_num, rfl, HN, rfl⟩

set_option maxRecDepth 8000 in
set_option maxHeartbeats 2000000 in
theorem implTr (A : Option Addr) (r cap : Nat) (f : Tab) (w : World) (hr : TabRd w w.heap.size A r (fun _ => r) f) (hm : r ≤ 1000) :
    Calls Try.prog 60 #[.slice A r cap] w fun e w' => e = .returned (.int .i64 (trF r f)) ∧ w' = w := by
  have HR := Lib.hid hr
  clear hr
  go_enter Try.func60, Try.ntmps60
  go_wp2
  go_loopg [3, 4, 5, 8] r (fun g s3 _ _ ix wr => ∃ (k : Nat) (S : Int), k + g = r ∧ ix = .int .i64 k ∧ s3 = .int .i64 S ∧ Hid (S = wrap64 (sigN k fun i => f i i)) ∧ wr = w)
  case atStart => exact ⟨0, 0, by omega, rfl, rfl, Lib.hid (by simp [sigN, wrap64]), rfl⟩
  case round =>
    obtain ⟨k, S, hkg, rfl, rfl, HS, rfl⟩ := hrel
    cases gk with
    | zero =>
      obtain rfl : k = r := by omega
      clear hkg
      go_wp2
      go_ret
      exact ⟨by unfold trF; rw [← HS.out]; rfl, rfl⟩
    | succ g =>
      have hkn : k < r := by omega
      have hkI : (k : Int) < (r : Int) := by omega
      obtain ⟨g1, o1, Ai, ci, rfl, hg1, x0, hrow⟩ := tabRow HR.out hkn
      obtain ⟨b, off, rfl, hb, hc⟩ := hrow (show 0 < r by omega)
      have x1 := hc k hkn
      obtain ⟨v, hv⟩ : ∃ v, f k k = v := ⟨_, rfl⟩
      have HN : Hid (wrap64 (S + v) = wrap64 (sigN (k + 1) fun i => f i i)) := Lib.hid (by rw [HS.out, ← hv]; exact wrap_step k fun i => f i i)
      rw [hv] at x1
      have HKG := Lib.hid hkg
      clear hc hv hkg hrow
      go_wp2
      go_roundg g
      case measure => omega
      case rel => exact ⟨k + 1, _, by have := HKG.out; omega, by go_num, rfl, HN, rfl⟩

/-- A row in which products are counted: i of them whole, of the next one the first j numbers. -/
def ldF (_r : Nat) (x : Nat → Int) (a : Tab) (i j : Nat) : Nat → Int := fun q => if q < j then wrap64 (sigN (i + 1) fun k => x k * a k q) else wrap64 (sigN i fun k => x k * a k q)
theorem ldF_step {r : Nat} {x : Nat → Int} {a : Tab} {i j q : Nat} : ldF r x a i (j + 1) q = if q = j then wrap64 (ldF r x a i j q + wrap64 (x i * a i q)) else ldF r x a i j q := by
  unfold ldF
  by_cases h : q = j
  · subst h
    rw [if_pos rfl, if_pos (by omega), if_neg (by omega), wrap_step2 i fun k => x k * a k q]
  · rw [if_neg h]
    by_cases h2 : q < j
    · rw [if_pos h2, if_pos (by omega)]
    · rw [if_neg h2, if_neg (by omega)]
theorem ldF_next {r : Nat} {x : Nat → Int} {a : Tab} {i q : Nat} (h : q < r) : ldF r x a i r q = ldF r x a (i + 1) 0 q := by
  unfold ldF; rw [if_pos h, if_neg (by omega)]
theorem ldF_zero (r : Nat) (x : Nat → Int) (a : Tab) (q : Nat) : ldF r x a 0 0 q = 0 := by unfold ldF; rw [if_neg (by omega)]; simp [sigN, wrap64]
theorem ldF_done (r : Nat) (x : Nat → Int) (a : Tab) (q : Nat) : ldF r x a r 0 q = rowF r x a q := by unfold ldF; rw [if_neg (by omega)]; rfl
/-- The row that is being counted. -/
structure LdS (w : World) (R r : Nat) (f : Nat → Int) (W : World) : Prop where
  B : Below w.heap.size w W
  R0 : R = w.heap.size
  z : 0 < r → R < W.heap.size
  cell : ∀ j, j < r → W.cell? ⟨R, j, none⟩ = some (.int .i64 (f j)) ∧ W.frozen? ⟨R, j, none⟩ = false
theorem LdS.put {w W : World} {R r : Nat} {f : Nat → Int} (H : LdS w R r f W) {j : Nat} (hj : j < r) (v : Int) : LdS w R r (fun q => if q = j then v else f q) (W.setCell ⟨R, j, none⟩ (.int .i64 v)) := by
  refine ⟨H.B.setCell (by show w.heap.size ≤ R; rw [H.R0]; exact Nat.le_refl _) _, H.R0, fun h => by simpa using H.z h, fun q hq => ⟨?_, by simpa using (H.cell q hq).2⟩⟩
  by_cases e : q = j
  · subst e; rw [if_pos rfl]; exact World.cell?_setCell_same _ _ _ (H.cell q hq).1
  · rw [if_neg e, World.cell?_setCell_other _ _ _ _ (by intro e2; injection e2; omega)]; exact (H.cell q hq).1
theorem LdS.congr {w W : World} {R r : Nat} {f f' : Nat → Int} (H : LdS w R r f W) (e : ∀ q, q < r → f q = f' q) : LdS w R r f' W := ⟨H.B, H.R0, H.z, fun j hj => by rw [← e j hj]; exact H.cell j hj⟩

set_option maxRecDepth 8000 in
set_option maxHeartbeats 4000000 in
theorem implLdOn (A : Option Addr) (r cap : Nat) (a : Tab) (X : Option Addr) (cx : Nat) (x : Nat → Int) (w : World) (ha : TabRd w w.heap.size A r (fun _ => r) a) (hx : RowRd w w.heap.size X r x) (hm : r ≤ 1000) :
    Calls Try.prog 66 #[.slice A r cap, .slice X r cx] w fun e w' => ∃ Y, e = .returned (.slice Y r r) ∧ Hid (RowOwn w' w.heap.size Y r (rowF r x a)) ∧ Below w.heap.size w w' := by
  obtain ⟨i0, hi, hz0, hz1, hz2⟩ := infoI8_parts
  have HA := Lib.hid ha
  have HX := Lib.hid hx
  clear ha hx
  go_enter Try.func66, Try.ntmps66
  go_wp2_with (at_make; refine wpList_make_full _ rfl _ _ 32 rfl w.heap.size 2 i0 (.int .i64 0) 1 Try.underlying32 hi hz0 hz1 .i64 .i64 _ _ r rfl rfl rfl rfl (by rw [hz2]; omega) (by unfold maxLen; omega) (by omega) ?_; intro w2 hown2 hgrow2)
  obtain ⟨R, hR⟩ : ∃ R, w.heap.size = R := ⟨_, rfl⟩
  have HRe := Lib.hid hR
  have HS0 : Hid (LdS w R r (ldF r x a 0 0) w2) := Lib.hid (by
    subst hR
    exact ⟨belowGrown8 hgrow2, rfl, fun _ => (World.ownsRow.lt hown2 _ rfl).2, fun j hj => ⟨by rw [ldF_zero]; exact (hown2.cellAt j (by omega)).trans (made8 r j hj), hown2.frozenAt _⟩⟩)
  clear hown2 hgrow2 hi hz0 hR
  go_wp2_with fail
  try rw [HRe.out]
  go_loopg [6, 7, 8, 9, 15] r (fun g _ _ _ _ ix wr => ∃ k : Nat, k + g = r ∧ ix = .int .i64 k ∧ Hid (LdS w R r (ldF r x a k 0) wr))
  case atStart => exact ⟨0, by omega, rfl, HS0⟩
  case round =>
    clear HS0
    obtain ⟨k, hkg, rfl, HS⟩ := hrel
    cases gk with
    | zero =>
      obtain rfl : k = r := by omega
      have HQ : Hid (RowOwn wr w.heap.size (some ⟨R, 0, none⟩) k (rowF k x a)) := Lib.hid (fun h0 => ⟨R, 0, rfl, by rw [HS.out.R0]; exact Nat.le_refl _, HS.out.z h0, fun j hj => by rw [Nat.zero_add, ← ldF_done]; exact HS.out.cell j hj⟩)
      have B2 := HS.out.B
      clear HS hkg
      go_wp2
      go_ret
      exact ⟨_, rfl, HQ, B2⟩
    | succ g =>
      have hkn : k < r := by omega
      have hr0 : 0 < r := by omega
      have hB := HS.out.B
      obtain ⟨bx, ox, rfl, hbx, hcx⟩ := HX.out hr0
      have x0 := cellThru hB hbx (hcx k hkn)
      obtain ⟨g1, o1, Ai, ci, rfl, hg1, y0, hrow⟩ := tabRow HA.out hkn
      obtain ⟨b, off, rfl, hb, hc⟩ := hrow hr0
      have y0 := cellThru hB hg1 y0
      have HC := Lib.hid hc
      have hbxw : bx < wr.heap.size := Nat.lt_of_lt_of_le hbx hB.size
      have hg1w : g1 < wr.heap.size := Nat.lt_of_lt_of_le hg1 hB.size
      obtain ⟨xv, hxv⟩ : ∃ xv, x k = xv := ⟨_, rfl⟩
      have HXv := Lib.hid hxv
      rw [hxv] at x0
      have HKG := Lib.hid hkg
      clear hcx hrow hc hkg hxv hB
      go_wp2_with fail
      go_loopg [8, 9, 25] r (fun g _ _ ix wx => ∃ j : Nat, j + g = r ∧ ix = .int .i64 j ∧ Hid (LdS w R r (ldF r x a k j) wx))
      case atStart => exact ⟨0, by omega, rfl, HS⟩
      case round =>
        clear HS x0 y0 hbxw hg1w
        obtain ⟨j, hjg, rfl, HS⟩ := hrel
        cases gk with
        | zero =>
          obtain rfl : j = r := by omega
          have HS2 : Hid (LdS w R j (ldF j x a (k + 1) 0) wr) := Lib.hid (HS.out.congr fun q hq => ldF_next hq)
          clear HS hjg
          go_wp2
          go_roundg g
          case measure => omega
          case rel => exact ⟨k + 1, by have := HKG.out; omega, by go_num, HS2⟩
        | succ g2 =>
          have hjn : j < r := by omega
          have z0 := cellThru HS.out.B hb (HC.out j hjn)
          obtain ⟨y0, y1⟩ := HS.out.cell j hjn
          obtain ⟨av, hav⟩ : ∃ av, a k j = av := ⟨_, rfl⟩
          have HAv := Lib.hid hav
          rw [hav] at z0
          obtain ⟨pv, hpv⟩ : ∃ pv, ldF r x a k j j = pv := ⟨_, rfl⟩
          have HPv := Lib.hid hpv
          rw [hpv] at y0
          have hbw : b < wr.heap.size := Nat.lt_of_lt_of_le hb HS.out.B.size
          have hRw := HS.out.z hr0
          have HJG := Lib.hid hjg
          clear hav hpv hjg
          go_wp2
          go_roundg g2
          case measure => omega
          case rel =>
            refine ⟨j + 1, by have := HJG.out; omega, by go_num, Lib.hid ((HS.out.put hjn _).congr fun q hq => ?_)⟩
            rw [ldF_step]
            by_cases e : q = j
            · subst e; rw [if_pos rfl, if_pos rfl, HPv.out, HXv.out, HAv.out]
            · rw [if_neg e, if_neg e]

theorem rowsAt_one {W : World} {lo : Nat} (hl : lo ≤ W.heap.size) {F : Option Addr} {r c : Nat} {x : Nat → Int} {f : Tab} (h : RowOwn W lo F r x) (hf : ∀ j, j < r → f 0 j = x j) :
    ∃ bb oo, RowsAt (W.alloc (.cells #[.slice F r c] 32)) lo (.slice (some ⟨W.heap.size, 0, none⟩) 1 1) 1 (fun _ => r) f bb oo := by
  obtain ⟨b, o, hb⟩ : ∃ b o, 0 < r → F = some ⟨b, o, none⟩ ∧ lo ≤ b ∧ b < W.heap.size ∧ ∀ j, j < r → W.cell? ⟨b, o + j, none⟩ = some (.int .i64 (x j)) ∧ W.frozen? ⟨b, o + j, none⟩ = false := by
    rcases Nat.eq_zero_or_pos r with h0 | h0
    · exact ⟨0, 0, fun h => absurd h (by omega)⟩
    · obtain ⟨b, o, e⟩ := h h0
      exact ⟨b, o, fun _ => e⟩
  have hB : Below W.heap.size W (W.alloc (.cells #[.slice F r c] 32)) := belowAlloc (Below.refl _ _) _
  refine ⟨fun _ => b, fun _ => o, ⟨[.slice F r c], World.ownsRow_lit W #[.slice F r c] 1 hl (by decide) rfl, fun i hi => ?_⟩, fun i hi h0 => ?_, fun i j hi hj => ?_, fun i k j m hi hk hne => absurd hne (by omega)⟩
  · obtain rfl : i = 0 := by omega
    exact ⟨F, c, rfl, fun h0 => (hb h0).1⟩
  · obtain ⟨_, h1, h2, _⟩ := hb h0
    exact ⟨h1, Nat.lt_of_lt_of_le h2 hB.size, fun e => by simp [Value.ownBlock] at e; omega⟩
  · obtain rfl : i = 0 := by omega
    obtain ⟨_, h1, h2, h3⟩ := hb (show 0 < r by exact Nat.lt_of_le_of_lt (Nat.zero_le _) hj)
    rw [hf j hj]
    exact ⟨cellThru hB h2 (h3 j hj).1, frozThru hB h2 (h3 j hj).2⟩

set_option maxRecDepth 8000 in
set_option maxHeartbeats 4000000 in
theorem implPow1 (F : Option Addr) (r cF : Nat) (x : Nat → Int) (lo K : Nat) (A : Option Addr) (cap : Nat) (a : Tab) (w : World) (hF : RowOwn w lo F r x) (hlo : lo ≤ w.heap.size) (ha : TabRd w w.heap.size A r (fun _ => r) a) (hm : r ≤ 1000) (hK : K ≤ 1000) :
    Calls Try.prog 65 #[.slice F r cF, .int .i64 K, .func (Fn.func 66) #[.slice A r cap] #[]] w fun e w' => ∃ A' c', e = .returned (.slice A' (K + 1) c') ∧ Hid (TabOwn w' lo A' (K + 1) (fun _ => r) (stepF r x a)) ∧ Below w.heap.size w w' := by
  have hcf : ∀ args W, (callFunc 66 args).run Try.prog W = .ok (.enter 66 args) W := by intro args W; kernel_rfl
  obtain ⟨i0, hi, hz0, hz1, hz2⟩ := infoS8_parts
  have HI := Lib.hid hi
  have HZ0 := Lib.hid hz0
  have HA := Lib.hid ha
  have HF := Lib.hid hF
  clear hi hz0 ha hF
  go_enter Try.func65, Try.ntmps65
  go_wp2
  go_loopg [7, 11] K (fun g s7 ix wr => ∃ (k n : Nat) (v : Value), k + g = K ∧ n = k + 1 ∧ ix = .int .i64 k ∧ s7 = v ∧ Hid (∃ bb oo, RowsAt wr lo v n (fun _ => r) (stepF r x a) bb oo) ∧ Hid (∀ j, v.ownBlock = some j → w.heap.size ≤ j) ∧ Hid (Below w.heap.size w wr))
  case atStart => exact ⟨0, 1, _, by omega, rfl, rfl, rfl, Lib.hid (rowsAt_one hlo HF.out (fun _ _ => rfl)), Lib.hid (fun j hj => by simp [Value.ownBlock] at hj; omega), Lib.hid (belowAlloc (Below.refl _ _) _)⟩
  case round =>
    obtain ⟨k, n, v, hkg, hn, rfl, ev, HR, HO, HB⟩ := hrel
    have ev := ev.symm
    subst ev
    cases gk with
    | zero =>
      obtain rfl : k = K := by omega
      obtain ⟨bb, oo, hR⟩ := HR.out
      obtain ⟨xs, ho, hx⟩ := hR.own
      obtain ⟨A', c, rfl, _⟩ := ownForm8 ho
      subst hn
      have HTb : Hid (TabOwn wr lo A' (k + 1) (fun _ => r) (stepF r x a)) := Lib.hid hR.tab
      have B2 := HB.out
      clear hkg hR ho hx HR
      go_wp2
      go_ret
      exact ⟨A', c, rfl, HTb, B2⟩
    | succ g =>
      obtain ⟨bb, oo, hR⟩ := HR.out
      obtain ⟨xs, hown, hx⟩ := hR.own
      obtain ⟨V, cV, rfl, hcV, hg⟩ := ownForm8 hown
      obtain ⟨gV, rfl, hgV, hgz⟩ := hg (by omega)
      obtain ⟨Ak, ck, hxk, hAk⟩ := hx k (by omega)
      have x0 : wr.cell? ⟨gV, k, none⟩ = some (.slice Ak r ck) := (hown.cellAt k (by omega)).trans hxk
      have HLd := Lib.hid (implLdOn A r cap a Ak ck (stepF r x a k) wr ((HA.out.below HB.out).more HB.out.size) (fun h0 => ⟨bb k, oo k, hAk h0, (hR.row k (by omega) h0).2.1, fun j hj => (hR.cell k j (by omega) hj).1⟩) hm)
      have hw1 : IntKind.i64.wrap ((n : Int) - 1) = (k : Int) := (IntWalk.i64_in _ (by omega)).trans (by omega)
      have hw2 : wrap64 ((n : Int) - 1) = (k : Int) := by unfold wrap64; omega
      have hkn : (k : Int) < (n : Int) := by omega
      have hknN : k < n := by omega
      have hkK : k < K := by omega
      have hkKI : (k : Int) < (K : Int) := by omega
      have hn1 : n ≤ 1001 := by omega
      have HRo := Lib.hid hR
      have HNk := Lib.hid hn
      have HKG := Lib.hid hkg
      clear hg hgV hxk hAk hR hx hkg hn hcV HR hown
      go_wp2_with fail
      refine HLd.out.mono ?_
      rintro e w2 ⟨Y, rfl, HY, hb2⟩
      obtain ⟨xs, hown, hx⟩ := (HRo.out.next hb2).own
      have HRR := Lib.hid (And.intro (HRo.out.next hb2) hx)
      have hi := HI.out
      have hz0 := HZ0.out
      have HX := Lib.hid hown.1
      obtain ⟨b, o, hYb⟩ : ∃ b o, 0 < r → Y = some ⟨b, o, none⟩ ∧ wr.heap.size ≤ b ∧ b < w2.heap.size ∧ ∀ j, j < r → w2.cell? ⟨b, o + j, none⟩ = some (.int .i64 (rowF r (stepF r x a k) a j)) ∧ w2.frozen? ⟨b, o + j, none⟩ = false := by
        rcases Nat.eq_zero_or_pos r with h0 | h0
        · exact ⟨0, 0, fun h => absurd h (by omega)⟩
        · obtain ⟨b, o, e⟩ := HY.out h0
          exact ⟨b, o, fun _ => e⟩
      have hs2 := hb2.size
      have hBs := HB.out.size
      have HYb := Lib.hid hYb
      have HBB2 : Hid (Below w.heap.size w w2) := Lib.hid (belowNext HB.out hb2)
      clear hx hYb HY x0 hw1 hw2 hb2
      go_wp2_with (at_builtin; refine wpList_append_own_at _ rfl _ _ 24 rfl lo 32 i0 (.slice none 0 0) 1 24 Try.underlying24 hi hz0 hz1 hz2 rfl (by decide) (.slice (some ⟨gV, 0, none⟩) n cV) n xs rfl (World.ownsRow.alloc hown _) ⟨w2.heap.size, 0, none⟩ 1 1 [.slice Y r r] rfl rfl (cell_one_new _ _ _) ?c2 ?c3 ?c4 ?c5 ?_)
      case c2 => first | rfl | (intro u hu; simp at hu; subst hu; rfl)
      case c3 => unfold maxLen; omega
      case c4 => omega
      case c5 => first | omega | (simp; omega)
      intro v' w3 hown' hgrow _ hat
      have HE : Hid (∃ bb oo, RowsAt w3 lo v' (n + 1) (fun _ => r) (stepF r x a) bb oo) := Lib.hid (by
        have hb : Below w2.heap.size w2 (w2.alloc (.cells #[.slice Y r r] 32)) := belowAlloc (Below.refl _ _) _
        have hn := HNk.out
        have h := RowsAt.push (W := w2.alloc (.cells #[.slice Y r r] 32)) (b := b) (o := o) (m := r) (r := rowF r (stepF r x a k) a) (HRR.out.1.next hb) (xs := xs) HRR.out.2 (by have := HX.out; omega) (A := Y) (cap := r)
          (fun h0 => by
            obtain ⟨e1, e2, e3, e4⟩ := HYb.out h0
            exact ⟨e1, by omega, by simp; omega, (fun e => by simp [Value.ownBlock] at e; omega), fun j' hj' => ⟨cellThru hb e3 (e4 j' hj').1, frozThru hb e3 (e4 j' hj').2⟩⟩) (fun i j' kk hi hj' hkk he => by
            have h1 := (HRo.out.row i hi (by exact Nat.lt_of_le_of_lt (Nat.zero_le _) hkk)).2.1
            obtain ⟨_, e2, _, _⟩ := HYb.out (by exact Nat.lt_of_le_of_lt (Nat.zero_le _) hkk)
            omega) hown' hgrow (by
            rcases hat with e | e
            · exact .inl e
            · exact .inr ⟨_, e, by simp⟩)
        refine ⟨_, _, h.congr (fun i hi => by by_cases e : i = n <;> simp [e]) (fun i j' hi hj' => ?_)⟩
        by_cases e : i = n
        · rw [if_pos e, e, hn]; rfl
        · rw [if_neg e])
      have HO2 : Hid (∀ j, v'.ownBlock = some j → w.heap.size ≤ j) := Lib.hid (fun j hj => by
        rcases hat with e | e
        · rw [e] at hj; exact HO.out j hj
        · rw [e] at hj; have h1 := Option.some.inj hj; omega)
      have HB1 : Hid (Below w.heap.size w w3) := Lib.hid (below_grown8 (show Below w.heap.size w (w2.alloc _) from belowAlloc HBB2.out _) hgrow (fun j e => HO.out j e) (by simp; omega))
      have hn2 : n + 1 = k + 1 + 1 := by have := HNk.out; omega
      clear hown hown' hgrow hi hz0 HRR HX hat HB HRo HYb HBB2 HO
      go_wp2
      go_roundg g
      case measure => omega
      case rel => exact ⟨k + 1, n + 1, v', by have := HKG.out; omega, hn2, by go_num, rfl, HE, HO2, HB1⟩

theorem prL_all : ∀ k : Fin 8, ∀ i j : Fin 8, 1 ≤ i.1 → i.1 < j.1 → j.1 ≤ k.1 → ((i.1 : Int), (j.1 : Int)) ∈ prL k.1 := by decide +kernel
theorem place_iff {m : Nat} (hm : m ≤ 7) (i j : Int) : 0 ≤ plcI (prL m) (i, j) ↔ 1 ≤ i ∧ i < j ∧ j ≤ (m : Int) := by
  constructor
  · intro h
    have h1 : plc (prL m) (i, j) < (prL m).length := by
      rcases Nat.lt_or_ge (plc (prL m) (i, j)) (prL m).length with h1 | h1
      · exact h1
      · rw [plcI_no (by omega)] at h; omega
    exact prL_bnd hm _ (plc_mem.1 h1)
  · rintro ⟨h1, h2, h3⟩
    have h := prL_all ⟨m, by omega⟩ ⟨i.toNat, by omega⟩ ⟨j.toNat, by omega⟩ (by show 1 ≤ i.toNat; omega) (by show i.toNat < j.toNat; omega) (by show j.toNat ≤ m; omega)
    simp only at h
    rw [show ((i.toNat : Nat) : Int) = i by omega, show ((j.toNat : Nat) : Int) = j by omega] at h
    rw [plcI_yes (plc_mem.2 h)]; omega
/-- The code of PairOrbit. -/
def oC8 (n d i j k : Int) : Int := if c8 n d = 0 then (if 1 ≤ i ∧ i < j ∧ j ≤ ((o8 n d).length : Int) ∧ 0 ≤ k ∧ k ≤ 20 then 0 else 2) else c8 n d
def oN8 (n d i j k : Int) : Nat := if oC8 n d i j k = 0 then k.toNat + 1 else 0
def oF8 (n d i j : Int) : Tab := stepF (prL (o8 n d).length).length (hitJ (prL (o8 n d).length) (i, j)) (mxF (o8 n d))

set_option maxRecDepth 8000 in
set_option maxHeartbeats 4000000 in
theorem implPOr (n d i j k : Int) (w : World) : Calls Try.prog 38 #[ang n d, .int .i64 i, .int .i64 j, .int .i64 k] w (ResTab w (oN8 n d i j k) (fun _ => (prL (o8 n d).length).length) (oF8 n d i j) (oC8 n d i j k)) := by
  have HO := Lib.hid (fun w => implPT n d w)
  have hm := o8_len n d
  have ha := o8_ang n d
  have e1 : oC8 n d i j k = if c8 n d = 0 then (if 1 ≤ i ∧ i < j ∧ j ≤ ((o8 n d).length : Int) ∧ 0 ≤ k ∧ k ≤ 20 then 0 else 2) else c8 n d := rfl
  have e2 : oN8 n d i j k = if oC8 n d i j k = 0 then k.toNat + 1 else 0 := rfl
  have e3 : oF8 n d i j = stepF (prL (o8 n d).length).length (hitJ (prL (o8 n d).length) (i, j)) (mxF (o8 n d)) := rfl
  rw [e2, e1, e3]
  clear e1 e2 e3
  generalize o8 n d = L at *
  generalize c8 n d = C at *
  by_cases hC : C = 0
  · subst hC
    rw [if_pos rfl]
    obtain ⟨N, hN⟩ : ∃ N, (prL L.length).length = N := ⟨_, rfl⟩
    have hN21 := prL_len hm
    rw [hN] at hN21
    have HPl := Lib.hid (fun A cap A2 cap2 W ht => implPlc A L.length cap A2 N cap2 (prL L.length) i j W ht hN (by omega))
    have HM := Lib.hid (fun A cap A2 cap2 W (hr : AngRow W W.heap.size A L) ht => implMx A L.length cap A2 N cap2 L W hr rfl hm ha ht hN)
    have hpi := place_iff hm i j
    have hpb := plcI_bnd (l := prL L.length) (i, j)
    rw [hN] at hpb
    have HHit : Hid (∀ q, q < N → hitJ (prL L.length) (i, j) q = if plcI (prL L.length) (i, j) = (q : Int) then 1 else 0) := Lib.hid (fun q hq => hit_place (prL_nodup hm) (by rw [hN]; exact hq))
    generalize plcI (prL L.length) (i, j) = p at *
    obtain ⟨m, hml⟩ : ∃ m, L.length = m := ⟨_, rfl⟩
    have HLm := Lib.hid hml
    have HNn := Lib.hid hN
    rw [hN]
    rw [hml] at HPl HM hpi ⊢
    clear hml hN
    by_cases hg : 0 ≤ p ∧ 0 ≤ k ∧ k ≤ 20
    · obtain ⟨hp0, hk0, hk20⟩ := hg
      obtain ⟨P, rfl⟩ : ∃ P : Nat, p = (P : Int) := ⟨p.toNat, by omega⟩
      obtain ⟨K, rfl⟩ : ∃ K : Nat, k = (K : Int) := ⟨k.toNat, by omega⟩
      have hgd := hpi.1 hp0
      have hcond : 1 ≤ i ∧ i < j ∧ j ≤ (m : Int) ∧ 0 ≤ (K : Int) ∧ (K : Int) ≤ 20 := ⟨hgd.1, hgd.2.1, hgd.2.2, hk0, hk20⟩
      have hKt : (K : Int).toNat = K := by omega
      simp only [if_pos hcond, if_true, hKt]
      have hPN : P < N := by omega
      have hPI : (P : Int) < (N : Int) := by omega
      have d1 : decide ((P : Int) < 0) = false := decide_eq_false (by omega)
      have d2 : decide ((K : Int) < 0) = false := decide_eq_false (by omega)
      have d3 : decide ((K : Int) > 20) = false := decide_eq_false (by omega)
      have d3' : decide ((20 : Int) < (K : Int)) = false := decide_eq_false (by omega)
      have hK20 : K ≤ 20 := by omega
      obtain ⟨x, hx⟩ : ∃ x, hitJ (prL m) (i, j) = x := ⟨_, rfl⟩
      rw [HLm.out] at HHit
      rw [hx] at HHit ⊢
      obtain ⟨i0, hi, hz0, hz1, hz2⟩ := infoI8_parts
      have HI := Lib.hid hi
      have HZ0 := Lib.hid hz0
      clear hpi hpb hp0 hk0 hk20 hgd hx hi hz0 hcond hKt
      go_enter Try.func38, Try.ntmps38
      go_wp2_with fail
      refine (HO.out _).mono ?_
      rintro e w1 ⟨A, cap, A2, cap2, rfl, hA, ht, hb1⟩
      rw [HLm.out] at ht ⊢
      have hNm : (prL m).length = N := by rw [← HLm.out]; exact HNn.out
      rw [hNm] at ht ⊢
      have hzw : w.heap.size < w1.heap.size := by have := hb1.size; simp at this; omega
      have B1 : Below w.heap.size w w1 := by
        (repeat' (first | (with_reducible exact Below.refl _ _) | (with_reducible assumption) | (with_reducible refine belowNext ?_ (by with_reducible assumption)) | (with_reducible refine belowAlloc ?_ _) | (with_reducible refine Below.drew ?_) | (with_reducible refine below_drewN ?_ _) | (with_reducible refine Below.setCell ?_ ?_ _) | go_size | (with_reducible refine sizeOf' ?_) | (with_reducible refine sizeAdd ?_) | (dsimp only; first | (with_reducible refine sizeOf' ?_) | (with_reducible refine sizeAdd ?_))))
      obtain ⟨G, hG⟩ : ∃ G, w1.heap.size = G := ⟨_, rfl⟩
      have HG := Lib.hid hG
      have HR := Lib.hid hA.row
      have HT : Hid (TabRd w1 w1.heap.size A2 N (fun _ => 2) (pF (prL m))) := Lib.hid ht.rd
      clear hA ht hb1 hNm hG
      go_wp2_with fail
      obtain ⟨wA, hwA⟩ : ∃ wA, w1.alloc (.cells #[.slice A m cap, .slice A2 N cap2] 53) = wA := ⟨_, rfl⟩
      have BA : Below w1.heap.size w1 wA := by rw [← hwA]; exact belowAlloc (Below.refl _ _) _
      have t0 : wA.cell? ⟨G, 0, none⟩ = some (.slice A m cap) := by rw [← hwA, ← HG.out]; simp [go_sem]
      have t1 : wA.cell? ⟨G, 1, none⟩ = some (.slice A2 N cap2) := by rw [← hwA, ← HG.out]; simp [go_sem]
      have zA : G < wA.heap.size := by rw [← hwA, ← HG.out]; simp
      rw [hwA, HG.out]
      have HR := Lib.hid ((HR.out.below BA).more BA.size)
      have HT := Lib.hid ((HT.out.below BA).more BA.size)
      have BwA : Below w.heap.size w wA := belowNext B1 BA
      clear hwA BA B1
      refine (HPl.out A cap A2 cap2 _ HT.out).mono ?_
      rintro e w2 ⟨rfl, hb2⟩
      have t0 := cellThru hb2 zA t0
      have t1 := cellThru hb2 zA t1
      have z2 : G < w2.heap.size := Nat.lt_of_lt_of_le zA hb2.size
      have HR := Lib.hid (HR.out.below hb2)
      have HT := Lib.hid (HT.out.below hb2)
      have HsA := Lib.hid hb2.size
      have Bw2 : Below w.heap.size w w2 := belowNext BwA hb2
      have hi := HI.out
      have hz0 := HZ0.out
      clear BwA hb2 zA
      go_wp2_with (at_make; refine wpList_make_full _ rfl _ _ 32 rfl w2.heap.size 2 i0 (.int .i64 0) 1 Try.underlying32 hi hz0 hz1 .i64 .i64 _ _ N rfl rfl rfl rfl (by rw [hz2]; omega) (by unfold maxLen; omega) (by omega) ?_; intro w3 hown3 hgrow3; have y0 : w3.cell? ⟨w2.heap.size, P, none⟩ = some (.int .i64 0) := (hown3.cellAt P (by omega)).trans (made8 N P hPN); have y1 : w3.frozen? ⟨w2.heap.size, P, none⟩ = false := hown3.frozenAt _; have B3 : Below w2.heap.size w2 w3 := belowGrown8 hgrow3; have t0 := cellThru B3 z2 t0; have t1 := cellThru B3 z2 t1; have hne : ¬ G = w2.heap.size := by omega)
      obtain ⟨R, hR⟩ : ∃ R, w2.heap.size = R := ⟨_, rfl⟩
      have HRe := Lib.hid hR
      have x0 : w3.cell? ⟨R, P, none⟩ = some (.int .i64 0) := by rw [← hR]; exact (hown3.cellAt P (by omega)).trans (made8 N P hPN)
      have x1 : w3.frozen? ⟨R, P, none⟩ = false := by rw [← hR]; exact hown3.frozenAt _
      have z3 : G < w3.heap.size := Nat.lt_of_lt_of_le z2 B3.size
      have zR : R < w3.heap.size := by rw [← hR]; exact (World.ownsRow.lt hown3 _ rfl).2
      have hGR : G < R := by rw [← hR]; exact z2
      have HM3 : Hid (RowOwn (w3.setCell ⟨R, P, none⟩ (.int .i64 1)) R (some ⟨R, 0, none⟩) N x) := Lib.hid (fun _ => ⟨R, 0, rfl, Nat.le_refl _, by simpa using zR, fun q hq => by
        rw [Nat.zero_add]
        have hc : w3.cell? ⟨R, q, none⟩ = some (.int .i64 0) := by rw [← hR]; exact (hown3.cellAt q (by omega)).trans (made8 N q hq)
        refine ⟨?_, by simpa [← hR] using hown3.frozenAt q⟩
        have hh := HHit.out q hq
        by_cases e : q = P
        · subst e
          rw [if_pos rfl] at hh
          rw [hh]; exact World.cell?_setCell_same _ _ _ hc
        · rw [if_neg (by omega)] at hh
          rw [hh, World.cell?_setCell_other _ _ _ _ (by intro e2; injection e2; omega)]
          exact hc⟩)
      have BR : Below R w2 (w3.setCell ⟨R, P, none⟩ (.int .i64 1)) := by rw [← hR]; exact B3.setCell (Nat.le_refl _) _
      have HR := Lib.hid (HR.out.below (BR.mono (by rw [← hR]; exact HsA.out)))
      have HT := Lib.hid (HT.out.below (BR.mono (by rw [← hR]; exact HsA.out)))
      have Bw3 : Below w.heap.size w (w3.setCell ⟨R, P, none⟩ (.int .i64 1)) := Bw2.trans (BR.mono (by rw [← hR]; exact Bw2.size))
      clear hown3 hgrow3 B3 BR hR hi hz0 z2
      go_wp2_with fail
      try rw [HRe.out]
      obtain ⟨w4, hw4⟩ : ∃ w4, w3.setCell ⟨R, P, none⟩ (.int .i64 1) = w4 := ⟨_, rfl⟩
      rw [hw4] at HM3 HR HT Bw3 ⊢
      have hs4 : wA.heap.size ≤ w4.heap.size := by rw [← hw4]; simp; have := HsA.out; have := HRe.out; omega
      have HM4 := Lib.hid (HM.out A cap A2 cap2 w4 (HR.out.more hs4) (HT.out.more hs4))
      have HwR : Hid (w.heap.size ≤ R) := Lib.hid (by have := HsA.out; have := HRe.out; have := Bw2.size; omega)
      clear hw4 t0 t1 x0 x1 y0 y1 hne HR HT
      refine HM4.out.mono ?_
      rintro e w5 ⟨A3, c3, rfl, H5, hb5⟩
      have HPw := Lib.hid (implPow1 (some ⟨R, 0, none⟩) N N x w.heap.size K A3 c3 (mxF L) w5 (fun h => by
        obtain ⟨b, o, e, h1, h2, h3⟩ := HM3.out.next hb5 h
        exact ⟨b, o, e, Nat.le_trans HwR.out h1, h2, h3⟩) (belowNext Bw3 hb5).size H5.out.rd (by omega) (by omega))
      have Bw5 := belowNext Bw3 hb5
      clear H5 hb5 HM3 HM4
      go_wp2_with fail
      refine HPw.out.mono ?_
      rintro e w6 ⟨A4, c4, rfl, H6, hb6⟩
      go_wp2
      go_ret2
      exact ⟨A4, c4, rfl, H6.out, belowNext Bw5 hb6⟩
    · have hcond : ¬ (1 ≤ i ∧ i < j ∧ j ≤ (m : Int) ∧ 0 ≤ k ∧ k ≤ 20) := fun h => hg ⟨hpi.2 ⟨h.1, h.2.1, h.2.2.1⟩, h.2.2.2.1, h.2.2.2.2⟩
      have h20 : ((2 : Int) = 0) = False := by simp
      simp only [if_neg hcond, h20, if_false]
      have HNg := Lib.hid hg
      clear hcond h20 hpi HHit hg
      go_enter Try.func38, Try.ntmps38
      go_wp2_with fail
      refine (HO.out _).mono ?_
      rintro e w1 ⟨A, cap, A2, cap2, rfl, hA, ht, hb1⟩
      rw [HLm.out] at ht ⊢
      have hNm : (prL m).length = N := by rw [← HLm.out]; exact HNn.out
      rw [hNm] at ht ⊢
      have B1 : Below w.heap.size w w1 := by
        (repeat' (first | (with_reducible exact Below.refl _ _) | (with_reducible assumption) | (with_reducible refine belowNext ?_ (by with_reducible assumption)) | (with_reducible refine belowAlloc ?_ _) | (with_reducible refine Below.drew ?_) | (with_reducible refine below_drewN ?_ _) | (with_reducible refine Below.setCell ?_ ?_ _) | go_size | (with_reducible refine sizeOf' ?_) | (with_reducible refine sizeAdd ?_) | (dsimp only; first | (with_reducible refine sizeOf' ?_) | (with_reducible refine sizeAdd ?_))))
      have HT : Hid (TabRd w1 w1.heap.size A2 N (fun _ => 2) (pF (prL m))) := Lib.hid ht.rd
      clear hA ht hb1 hNm
      go_wp2_with fail
      refine (HPl.out A cap A2 cap2 _ ((HT.out.below (belowAlloc (Below.refl _ _) _)).more (belowAlloc (Below.refl _ _) _).size)).mono ?_
      rintro e w2 ⟨rfl, hb2⟩
      by_cases hp : p < 0
      · have d1 : decide (p < 0) = true := decide_eq_true hp
        go_wp2
        go_ret2
        refine ⟨none, 0, rfl, tabOwn_nil, ?_⟩
        (repeat' (first | (with_reducible exact Below.refl _ _) | (with_reducible assumption) | (with_reducible refine belowNext ?_ (by with_reducible assumption)) | (with_reducible refine belowAlloc ?_ _) | (with_reducible refine Below.drew ?_) | (with_reducible refine below_drewN ?_ _) | (with_reducible refine Below.setCell ?_ ?_ _) | go_size | (with_reducible refine sizeOf' ?_) | (with_reducible refine sizeAdd ?_) | (dsimp only; first | (with_reducible refine sizeOf' ?_) | (with_reducible refine sizeAdd ?_))))
      · have d1 : decide (p < 0) = false := decide_eq_false hp
        by_cases hk : k < 0
        · have d2 : decide (k < 0) = true := decide_eq_true hk
          go_wp2
          go_ret2
          refine ⟨none, 0, rfl, tabOwn_nil, ?_⟩
          (repeat' (first | (with_reducible exact Below.refl _ _) | (with_reducible assumption) | (with_reducible refine belowNext ?_ (by with_reducible assumption)) | (with_reducible refine belowAlloc ?_ _) | (with_reducible refine Below.drew ?_) | (with_reducible refine below_drewN ?_ _) | (with_reducible refine Below.setCell ?_ ?_ _) | go_size | (with_reducible refine sizeOf' ?_) | (with_reducible refine sizeAdd ?_) | (dsimp only; first | (with_reducible refine sizeOf' ?_) | (with_reducible refine sizeAdd ?_))))
        · have d2 : decide (k < 0) = false := decide_eq_false hk
          have h20 : k > 20 := by have := HNg.out; omega
          have d3 : decide (k > 20) = true := decide_eq_true h20
          have d3' : decide (20 < k) = true := decide_eq_true h20
          go_wp2
          go_ret2
          refine ⟨none, 0, rfl, tabOwn_nil, ?_⟩
          (repeat' (first | (with_reducible exact Below.refl _ _) | (with_reducible assumption) | (with_reducible refine belowNext ?_ (by with_reducible assumption)) | (with_reducible refine belowAlloc ?_ _) | (with_reducible refine Below.drew ?_) | (with_reducible refine below_drewN ?_ _) | (with_reducible refine Below.setCell ?_ ?_ _) | go_size | (with_reducible refine sizeOf' ?_) | (with_reducible refine sizeAdd ?_) | (dsimp only; first | (with_reducible refine sizeOf' ?_) | (with_reducible refine sizeAdd ?_))))
  · rw [if_neg hC, if_neg hC]
    have hC' : (C == 0) = false := beq_eq_false_iff_ne.2 hC
    clear hC hm ha
    go_enter Try.func38, Try.ntmps38
    go_wp2_with fail
    refine (HO.out _).mono ?_
    rintro e w1 ⟨A, cap, A2, cap2, rfl, hA, ht, hb1⟩
    clear hA ht
    go_wp2
    go_ret2
    refine ⟨none, 0, rfl, tabOwn_nil, ?_⟩
    (repeat' (first | (with_reducible exact Below.refl _ _) | (with_reducible assumption) | (with_reducible refine belowNext ?_ (by with_reducible assumption)) | (with_reducible refine belowAlloc ?_ _) | (with_reducible refine Below.drew ?_) | (with_reducible refine below_drewN ?_ _) | (with_reducible refine Below.setCell ?_ ?_ _) | go_size | (with_reducible refine sizeOf' ?_) | (with_reducible refine sizeAdd ?_) | (dsimp only; first | (with_reducible refine sizeOf' ?_) | (with_reducible refine sizeAdd ?_))))

theorem specIn8 (n a b : Int) (w : World) : Calls Try.prog 77 #[.int .i64 n, .int .i64 a, .int .i64 b] w fun e w' => e = .returned (.bool (decide (a ≤ n) && decide (n ≤ b))) ∧ w = w' := by
  by_cases h1 : a ≤ n
  · by_cases h2 : n ≤ b
    · have d1 : decide (a ≤ n) = true := decide_eq_true h1
      have d2 : decide (n ≤ b) = true := decide_eq_true h2
      rw [d1, d2]
      go_enter Try.func77, Try.ntmps77
      go_wp2
      all_goals
        go_ret
        exact ⟨rfl, rfl⟩
    · have d1 : decide (a ≤ n) = true := decide_eq_true h1
      have d2 : decide (n ≤ b) = false := decide_eq_false h2
      rw [d1, d2]
      go_enter Try.func77, Try.ntmps77
      go_wp2
      all_goals
        go_ret
        exact ⟨rfl, rfl⟩
  · have d1 : decide (a ≤ n) = false := decide_eq_false h1
    rw [d1]
    go_enter Try.func77, Try.ntmps77
    go_wp2
    all_goals
      go_ret
      exact ⟨rfl, rfl⟩
/-- The code of an orbit and a length. -/
def lC8 (n d k most : Int) : Int := if c8 n d = 0 then (if 0 ≤ k ∧ k ≤ most then 0 else 2) else c8 n d

set_option maxRecDepth 8000 in
set_option maxHeartbeats 2000000 in
theorem specLen8 (n d k most : Int) (w : World) : Calls Try.prog 54 #[ang n d, .int .i64 k, .int .i64 most] w (ResAng w (o8 n d) (lC8 n d k most)) := by
  have HO := Lib.hid (fun w => specOrb8 n d w)
  have HI := Lib.hid (fun w => specIn8 k 0 most w)
  have e1 : lC8 n d k most = if c8 n d = 0 then (if 0 ≤ k ∧ k ≤ most then 0 else 2) else c8 n d := rfl
  rw [e1]
  clear e1
  generalize o8 n d = L at *
  generalize c8 n d = C at *
  obtain ⟨m, hml⟩ : ∃ m, L.length = m := ⟨_, rfl⟩
  have HLm := Lib.hid hml
  clear hml
  by_cases hC : C = 0
  · subst hC
    rw [if_pos rfl]
    by_cases hk : 0 ≤ k ∧ k ≤ most
    · rw [if_pos hk]
      have e2 : (decide (0 ≤ k) && decide (k ≤ most)) = true := by simp [hk]
      rw [e2] at HI
      clear e2 hk
      go_enter Try.func54, Try.ntmps54
      go_wp2_with fail
      refine (HO.out _).mono ?_
      rintro e w1 ⟨A, cap, rfl, ha, hb1⟩
      rw [HLm.out]
      have HA := Lib.hid (ha.low8 (lo' := w.heap.size) (by simp))
      have B1 : Below w.heap.size w w1 := by
        (repeat' (first | (with_reducible exact Below.refl _ _) | (with_reducible assumption) | (with_reducible refine belowNext ?_ (by with_reducible assumption)) | (with_reducible refine belowAlloc ?_ _) | (with_reducible refine Below.drew ?_) | (with_reducible refine below_drewN ?_ _) | (with_reducible refine Below.setCell ?_ ?_ _) | go_size | (with_reducible refine sizeOf' ?_) | (with_reducible refine sizeAdd ?_) | (dsimp only; first | (with_reducible refine sizeOf' ?_) | (with_reducible refine sizeAdd ?_))))
      clear ha hb1
      go_wp2_with fail
      refine (HI.out _).mono ?_
      rintro e w2 ⟨rfl, rfl⟩
      go_wp2
      go_ret2
      exact ⟨A, cap, by rw [HLm.out]; rfl, HA.out, B1⟩
    · rw [if_neg hk]
      have e2 : (decide (0 ≤ k) && decide (k ≤ most)) = false := by
        by_cases h : 0 ≤ k
        · have : ¬ k ≤ most := fun x => hk ⟨h, x⟩
          simp [this]
        · simp [h]
      rw [e2] at HI
      clear e2 hk
      go_enter Try.func54, Try.ntmps54
      go_wp2_with fail
      refine (HO.out _).mono ?_
      rintro e w1 ⟨A, cap, rfl, ha, hb1⟩
      rw [HLm.out]
      have HA := Lib.hid (ha.low8 (lo' := w.heap.size) (by simp))
      have B1 : Below w.heap.size w w1 := by
        (repeat' (first | (with_reducible exact Below.refl _ _) | (with_reducible assumption) | (with_reducible refine belowNext ?_ (by with_reducible assumption)) | (with_reducible refine belowAlloc ?_ _) | (with_reducible refine Below.drew ?_) | (with_reducible refine below_drewN ?_ _) | (with_reducible refine Below.setCell ?_ ?_ _) | go_size | (with_reducible refine sizeOf' ?_) | (with_reducible refine sizeAdd ?_) | (dsimp only; first | (with_reducible refine sizeOf' ?_) | (with_reducible refine sizeAdd ?_))))
      clear ha hb1
      go_wp2_with fail
      refine (HI.out _).mono ?_
      rintro e w2 ⟨rfl, rfl⟩
      go_wp2
      go_ret2
      exact ⟨A, cap, by rw [HLm.out]; rfl, HA.out, B1⟩
  · rw [if_neg hC]
    have hC' : (C == 0) = false := beq_eq_false_iff_ne.2 hC
    clear hC
    go_enter Try.func54, Try.ntmps54
    go_wp2_with fail
    refine (HO.out _).mono ?_
    rintro e w1 ⟨A, cap, rfl, ha, hb1⟩
    rw [HLm.out]
    have HA := Lib.hid (ha.low8 (lo' := w.heap.size) (by simp))
    have B1 : Below w.heap.size w w1 := by
      (repeat' (first | (with_reducible exact Below.refl _ _) | (with_reducible assumption) | (with_reducible refine belowNext ?_ (by with_reducible assumption)) | (with_reducible refine belowAlloc ?_ _) | (with_reducible refine Below.drew ?_) | (with_reducible refine below_drewN ?_ _) | (with_reducible refine Below.setCell ?_ ?_ _) | go_size | (with_reducible refine sizeOf' ?_) | (with_reducible refine sizeAdd ?_) | (dsimp only; first | (with_reducible refine sizeOf' ?_) | (with_reducible refine sizeAdd ?_))))
    clear ha hb1
    go_wp2
    go_ret2
    exact ⟨A, cap, by rw [HLm.out]; rfl, HA.out, B1⟩

theorem LdS.next {w W W1 : World} {R r : Nat} {f : Nat → Int} (H : LdS w R r f W) (hb : Below W.heap.size W W1) : LdS w R r f W1 :=
  ⟨belowNext H.B hb, H.R0, fun h => Nat.lt_of_lt_of_le (H.z h) hb.size, fun j hj => ⟨cellThru hb (H.z (by omega)) (H.cell j hj).1, frozThru hb (H.z (by omega)) (H.cell j hj).2⟩⟩
theorem LdS.own {w W : World} {R r : Nat} {f : Nat → Int} (H : LdS w R r f W) : RowOwn W w.heap.size (some ⟨R, 0, none⟩) r f := fun h0 => ⟨R, 0, rfl, by rw [H.R0]; exact Nat.le_refl _, H.z h0, fun j hj => by rw [Nat.zero_add]; exact H.cell j hj⟩

set_option maxRecDepth 8000 in
set_option maxHeartbeats 8000000 in
theorem specPOk (n d i j : Int) (K : Nat) (L : List (Int × Int)) (m N : Nat) (w : World) (HO : Hid (∀ w, Calls Try.prog 54 #[ang n d, .int .i64 K, .int .i64 20] w (ResAng w L 0))) (hml : L.length = m) (hm : m ≤ 7) (ha : allAng L = true) (hN : (prL m).length = N) (hi1 : 1 ≤ i) (hij : i < j) (hjm : j ≤ (m : Int)) (hK : K ≤ 20) :
    Calls Try.prog 37 #[ang n d, .int .i64 i, .int .i64 j, .int .i64 K] w (ResTabR w (K + 1) (fun _ => N) (stepF N (hitJ (prL m) (i, j)) (mxF L)) 0) := by
  have hN21 := prL_len hm
  rw [hN] at hN21
  have HPr := Lib.hid (fun w => specPairs8 m hm w)
  have HM := Lib.hid (fun A cap W (hr : AngRow W W.heap.size A L) => specMx A m cap L N W hr hml hm ha hN)
  rw [hN] at HPr
  have hN0 : 0 < N := by
    have h := (place_iff hm i j).2 ⟨hi1, hij, hjm⟩
    have h2 := (plcI_bnd (l := prL m) (i, j)).2
    omega
  have HLm := Lib.hid hml
  have HNn := Lib.hid hN
  have d1 : decide (i < 1) = false := decide_eq_false (by omega)
  have d2 : decide (j ≤ i) = false := decide_eq_false (by omega)
  have d3 : decide (j > (m : Int)) = false := decide_eq_false (by omega)
  have d3' : decide ((m : Int) < j) = false := decide_eq_false (by omega)
  obtain ⟨x, hx⟩ : ∃ x, hitJ (prL m) (i, j) = x := ⟨_, rfl⟩
  have HAd := Lib.hid (fun R A2 cap2 w (ht : TabRd w R A2 N (fun _ => 2) (pF (prL m))) hx => specAdd8 R N N A2 cap2 (prL m) i j (fun _ => 0) w ht hN (by omega) hx (fun j hj => ⟨by omega, by omega⟩))
  have hmn : (min i j, max i j) = (i, j) := by simp only [Prod.mk.injEq]; omega
  rw [hmn] at HAd
  have HXf : Hid (∀ q, 0 + hitJ (prL m) (i, j) q = x q) := Lib.hid (fun q => by rw [hx]; omega)
  obtain ⟨a, haf⟩ : ∃ a, mxF L = a := ⟨_, rfl⟩
  rw [haf] at HM ⊢
  rw [hx]
  obtain ⟨i0, hi, hz0, hz1, hz2⟩ := infoS8_parts
  have HI := Lib.hid hi
  have HZ0 := Lib.hid hz0
  obtain ⟨j0, ji, jz0, jz1, jz2⟩ := infoI8_parts
  have HJI := Lib.hid ji
  have HJZ := Lib.hid jz0
  clear hml ha hN hi1 hij hjm hx hmn haf hi hz0 ji jz0
  go_enter Try.func37, Try.ntmps37
  go_wp2_with fail
  refine (HO.out _).mono ?_
  rintro e w1 ⟨A, cap, rfl, hA, hb1⟩
  rw [HLm.out]
  have B1 : Below w.heap.size w w1 := by
    (repeat' (first | (with_reducible exact Below.refl _ _) | (with_reducible assumption) | (with_reducible refine belowNext ?_ (by with_reducible assumption)) | (with_reducible refine belowAlloc ?_ _) | (with_reducible refine Below.drew ?_) | (with_reducible refine below_drewN ?_ _) | (with_reducible refine Below.setCell ?_ ?_ _) | go_size | (with_reducible refine sizeOf' ?_) | (with_reducible refine sizeAdd ?_) | (dsimp only; first | (with_reducible refine sizeOf' ?_) | (with_reducible refine sizeAdd ?_))))
  have HR := Lib.hid hA.row
  clear hA hb1
  go_wp2_with fail
  refine (HPr.out _).mono ?_
  rintro e w2 ⟨A2, cap2, rfl, ht, hb2⟩
  have HT := Lib.hid ht.out.rd
  have B2 := belowNext B1 hb2
  have HR := Lib.hid ((HR.out.below hb2).more hb2.size)
  clear ht hb2 B1
  go_wp2_with fail
  refine (HM.out A cap _ HR.out).mono ?_
  rintro e w3 ⟨A3, c3, rfl, hMx, hb3⟩
  have HT := Lib.hid ((HT.out.below hb3).more hb3.size)
  have HMx := Lib.hid hMx.out.rd
  have B3 := belowNext B2 hb3
  have hi := HJI.out
  have hz0 := HJZ.out
  clear hMx hb3 B2 HR HM HPr
  go_wp2_with (at_make; refine wpList_make_full _ rfl _ _ 32 rfl w3.heap.size 2 j0 (.int .i64 0) 1 Try.underlying32 hi hz0 jz1 .i64 .i64 _ _ N rfl rfl rfl rfl (by rw [jz2]; omega) (by unfold maxLen; omega) (by omega) ?_; intro w4 hown4 hgrow4)
  obtain ⟨R0, hR0⟩ : ∃ R0, w3.heap.size = R0 := ⟨_, rfl⟩
  have HR0 := Lib.hid hR0
  have B4 : Below w3.heap.size w3 w4 := belowGrown8 hgrow4
  have HA4 : Hid (AddS R0 N (fun _ => 0) w4 w4) := Lib.hid (by
    subst hR0
    exact ⟨Below.refl _ _, (World.ownsRow.lt hown4 _ rfl).2, fun q hq => ⟨(hown4.cellAt q (by omega)).trans (made8 N q hq), hown4.frozenAt _⟩⟩)
  have HT4 : Hid (TabRd w4 R0 A2 N (fun _ => 2) (pF (prL m))) := Lib.hid (by rw [← hR0]; exact HT.out.below B4)
  have HMx := Lib.hid (HMx.out.below B4)
  have B4w : Below w.heap.size w w4 := belowNext B3 B4
  have HAd4 := Lib.hid (HAd.out R0 A2 cap2 w4 HT4.out HA4.out)
  have HR0w : Hid (w.heap.size ≤ R0) := Lib.hid (by rw [← hR0]; exact B3.size)
  clear hown4 hgrow4 B4 hi hz0 hR0 HT HT4 HA4 HAd B3
  go_wp2_with fail
  try rw [HR0.out]
  refine HAd4.out.mono ?_
  rintro e w5 ⟨rfl, H5⟩
  have HX0 : Hid (RowOwn w5 R0 (some ⟨R0, 0, none⟩) N x) := Lib.hid (fun _ => ⟨R0, 0, rfl, Nat.le_refl _, H5.out.2.1, fun q hq => by
    have := H5.out.2.2 q hq
    rw [Nat.zero_add, ← HXf.out q]
    exact this⟩)
  have HMx : Hid (TabRd w5 w5.heap.size A3 N (fun _ => N) a) := Lib.hid ((HMx.out.below (by rw [HR0.out]; exact H5.out.1)).more (by rw [HR0.out]; exact Nat.le_of_lt H5.out.2.1))
  have B5 : Below w.heap.size w w5 := B4w.trans (H5.out.1.mono HR0w.out)
  obtain ⟨Y, hY⟩ : ∃ Y, w5.heap.size = Y := ⟨_, rfl⟩
  have HY := Lib.hid hY
  have hYw : w.heap.size ≤ Y := by rw [← hY]; exact B5.size
  have HRA : Hid (∃ bb oo, RowsAt (w5.alloc (.cells #[.slice (some ⟨R0, 0, none⟩) N N] 32)) w.heap.size (.slice (some ⟨Y, 0, none⟩) 1 1) 1 (fun _ => N) (stepF N x a) bb oo) := Lib.hid (by
    rw [← hY]
    exact rowsAt_one B5.size (fun h => by
      obtain ⟨b, o, e, h1, h2, h3⟩ := HX0.out h
      exact ⟨b, o, e, Nat.le_trans HR0w.out h1, h2, h3⟩) (fun _ _ => rfl))
  have HXr : Hid (RowRd w5 w5.heap.size (some ⟨R0, 0, none⟩) N x) := Lib.hid HX0.out.rd
  clear H5 HX0 HXf hY B4w HAd4
  go_wp2
  rw [HY.out]
  go_loopg [3, 14, 15, 16, 17, 18] K (fun g s3 s14 s15 _ _ _ wr => ∃ (t nn Rr : Nat) (v : Value), t + g = K ∧ nn = t + 1 ∧ s3 = .int .i64 (g : Int) ∧ s14 = .slice (some ⟨Rr, 0, none⟩) N N ∧ s15 = v ∧ Hid (RowRd wr wr.heap.size (some ⟨Rr, 0, none⟩) N (stepF N x a t)) ∧ Hid (∃ bb oo, RowsAt wr w.heap.size v nn (fun _ => N) (stepF N x a) bb oo) ∧ Hid (∀ j, v.ownBlock = some j → Y ≤ j) ∧ Hid (Below Y w5 wr))
  case atStart => exact ⟨0, 1, R0, _, by omega, rfl, rfl, rfl, rfl, Lib.hid (HXr.out.next (belowAlloc (Below.refl _ _) _)), HRA, Lib.hid (fun j hj => by simp [Value.ownBlock] at hj; omega), Lib.hid (by have := HY.out; subst this; exact belowAlloc (Below.refl _ _) _)⟩
  case round =>
    clear HXr HRA
    obtain ⟨t, nn, Rr, v, htg, hnn, rfl, rfl, ev, HX, HRr, HOY, HB⟩ := hrel
    have ev := ev.symm
    subst ev
    cases gk with
    | zero =>
      obtain rfl : t = K := by omega
      obtain ⟨bb, oo, hR⟩ := HRr.out
      obtain ⟨xs, ho, hx⟩ := hR.own
      obtain ⟨A', c, rfl, _⟩ := ownForm8 ho
      subst hnn
      have HTb : Hid (TabRd wr wr.heap.size A' (t + 1) (fun _ => N) (stepF N x a)) := Lib.hid hR.tab.rd
      have B6 : Below w.heap.size w wr := B5.trans (HB.out.mono hYw)
      clear htg hR ho hx HRr
      go_wp2
      go_ret2
      exact ⟨A', c, rfl, HTb.out, B6⟩
    | succ g =>
      have hg0 : decide (((g + 1 : Nat) : Int) > 0) = true := decide_eq_true (by omega)
      have hg0' : decide ((0 : Int) < (g : Int) + 1) = true := decide_eq_true (by omega)
      have hgK : g + 1 ≤ 20 := by omega
      have hwg : IntKind.i64.wrap ((g : Int) + 1 - 1) = (g : Int) := (IntWalk.i64_in _ (by omega)).trans (by omega)
      have hwg2 : wrap64 ((g : Int)) = (g : Int) := by unfold wrap64; omega
      have HTG := Lib.hid htg
      have HNN := Lib.hid hnn
      have hnn21 : nn ≤ 21 := by rw [hnn]; exact Nat.succ_le_succ (Nat.le_trans (Nat.le.intro htg) hK)
      obtain ⟨sx, hsx⟩ : ∃ sx, stepF N x a t = sx := ⟨_, rfl⟩
      have HSx := Lib.hid hsx
      rw [hsx] at HX
      have hi := HJI.out
      have hz0 := HJZ.out
      clear htg hnn hsx
      go_wp2_with (at_make; refine wpList_make_full _ rfl _ _ 32 rfl wr.heap.size 2 j0 (.int .i64 0) 1 Try.underlying32 hi hz0 jz1 .i64 .i64 _ _ N rfl rfl rfl rfl (by rw [jz2]; omega) (by unfold maxLen; omega) (by omega) ?_; intro w6 hown6 hgrow6)
      obtain ⟨R, hR⟩ : ∃ R, wr.heap.size = R := ⟨_, rfl⟩
      have HRe := Lib.hid hR
      have HS0 : Hid (LdS wr R N (ldF N sx a 0 0) w6) := Lib.hid (by
        subst hR
        exact ⟨belowGrown8 hgrow6, rfl, fun _ => (World.ownsRow.lt hown6 _ rfl).2, fun q hq => ⟨by rw [ldF_zero]; exact (hown6.cellAt q (by omega)).trans (made8 N q hq), hown6.frozenAt _⟩⟩)
      obtain ⟨wb, hwb⟩ : ∃ wb, wb = wr := ⟨_, rfl⟩
      subst hwb
      have HMw : Hid (TabRd wb wb.heap.size A3 N (fun _ => N) a) := Lib.hid ((HMx.out.below (by rw [HY.out]; exact HB.out)).more (by rw [HY.out]; have := HB.out.size; have := HY.out; omega))
      clear hown6 hgrow6 hi hz0 hR
      go_wp2_with fail
      try rw [HRe.out]
      go_loopg [17, 18] N (fun gp ix _ wx => ∃ p : Nat, p + gp = N ∧ ix = .int .i64 p ∧ Hid (LdS wb R N (ldF N sx a p 0) wx))
      case atStart => exact ⟨0, by omega, rfl, HS0⟩
      case round =>
        clear HS0
        obtain ⟨p, hpg, rfl, HS⟩ := hrel
        cases gk with
        | zero =>
          obtain rfl : p = N := by omega
          have HOwn : Hid (RowOwn wr wb.heap.size (some ⟨R, 0, none⟩) p (stepF p x a (t + 1))) := Lib.hid (fun h => by
            obtain ⟨b, o, e, h1, h2, h3⟩ := HS.out.own h
            refine ⟨b, o, e, h1, h2, fun q hq => ?_⟩
            have e2 : stepF p x a (t + 1) q = ldF p sx a p 0 q := by rw [ldF_done, ← HSx.out]; rfl
            rw [e2]; exact h3 q hq)
          have HbE := Lib.hid HS.out.B
          clear HS hpg
          obtain ⟨bb, oo, hR⟩ := HRr.out
          obtain ⟨xs, hown, hx⟩ := (hR.next HbE.out).own
          have HRR := Lib.hid (And.intro (hR.next HbE.out) hx)
          have HlR : Hid (∀ i, i < nn → bb i < wb.heap.size) := Lib.hid (fun i hi => (hR.row i hi hN0).2.1)
          have HoR : Hid (∀ j, v.ownBlock = some j → j < wb.heap.size) := by
            obtain ⟨xs2, ho2, _⟩ := hR.own
            exact Lib.hid (fun j e => (World.ownsRow.lt ho2 j e).2)
          have hYs : Y ≤ wb.heap.size := by have := HB.out.size; have := HY.out; omega
          have hWs := HbE.out.size
          have hwR : wb.heap.size ≤ R := by rw [← HRe.out]; exact Nat.le_refl _
          obtain ⟨bo, oo', eo, ho1, ho2, ho3⟩ := HOwn.out hN0
          obtain ⟨rfl, rfl⟩ : R = bo ∧ 0 = oo' := by injection eo with ex; injection ex with e1 e2; exact ⟨e1, e2⟩
          have HO3 := Lib.hid ho3
          have HX := Lib.hid hown.1
          have hi := HI.out
          have hz0 := HZ0.out
          have hzS : w.heap.size ≤ wr.heap.size := by omega
          clear hR hx eo ho3
          go_wp2_with (at_builtin; refine wpList_append_own_at _ rfl _ _ 24 rfl w.heap.size 32 i0 (.slice none 0 0) 1 24 Try.underlying24 hi hz0 hz1 hz2 rfl (by decide) v nn xs rfl (World.ownsRow.alloc hown _) ⟨wr.heap.size, 0, none⟩ 1 1 [.slice (some ⟨R, 0, none⟩) p p] rfl rfl (cell_one_new _ _ _) ?c2 ?c3 ?c4 ?c5 ?_)
          case c2 => first | rfl | (intro u hu; simp at hu; subst hu; rfl)
          case c3 => unfold maxLen; omega
          case c4 => omega
          case c5 => first | omega | (simp; omega)
          intro v' w7 hown' hgrow _ hat
          have HE : Hid (∃ bb oo, RowsAt w7 w.heap.size v' (nn + 1) (fun _ => p) (stepF p x a) bb oo) := Lib.hid (by
            have hb : Below wr.heap.size wr (wr.alloc (.cells #[.slice (some ⟨R, 0, none⟩) p p] 32)) := belowAlloc (Below.refl _ _) _
            have h := RowsAt.push (W := wr.alloc (.cells #[.slice (some ⟨R, 0, none⟩) p p] 32)) (b := R) (o := 0) (m := p) (r := stepF p x a (t + 1)) (HRR.out.1.next hb) (xs := xs) HRR.out.2 (by have := HX.out; omega) (A := some ⟨R, 0, none⟩) (cap := p)
              (fun _ => ⟨rfl, by omega, by simp; omega, (fun e => by have := HoR.out _ e.symm; omega), fun j' hj' => ⟨cellThru hb ho2 (HO3.out j' hj').1, frozThru hb ho2 (HO3.out j' hj').2⟩⟩) (fun i j' kk hi _ _ he => by have := HlR.out i hi; omega) hown' hgrow (by
                rcases hat with e | e
                · exact .inl e
                · exact .inr ⟨_, e, by simp⟩)
            refine ⟨_, _, h.congr (fun i hi => by by_cases e : i = nn <;> simp [e]) (fun i j' hi hj' => ?_)⟩
            by_cases e : i = nn
            · rw [if_pos e, e, HNN.out]
            · rw [if_neg e])
          have HX2 : Hid (RowRd w7 w7.heap.size (some ⟨R, 0, none⟩) p (stepF p x a (t + 1))) := Lib.hid (fun _ => ⟨R, 0, rfl, Nat.lt_of_lt_of_le (Nat.lt_of_lt_of_le ho2 (by simp)) hgrow.size, fun j' hj' => by
            have hb : Below wr.heap.size wr (wr.alloc (.cells #[.slice (some ⟨R, 0, none⟩) p p] 32)) := belowAlloc (Below.refl _ _) _
            have hbk := hgrow.block R (Nat.lt_of_lt_of_le ho2 hb.size) (fun e => by have := HoR.out _ e.symm; omega)
            exact (World.cell?_of_block (a := ⟨R, 0 + j', none⟩) hbk).trans (cellThru hb ho2 (HO3.out j' hj').1)⟩)
          have HB1 : Hid (Below Y w5 w7) := Lib.hid (below_grown8 (show Below Y w5 (wr.alloc _) from HB.out.trans ((HbE.out.trans ((belowAlloc (Below.refl _ _) _).mono HbE.out.size)).mono hYs)) hgrow (fun j e => HOY.out j e) (by simp; omega))
          have HOY1 : Hid (∀ j, v'.ownBlock = some j → Y ≤ j) := Lib.hid (fun j hj => by
            rcases hat with e | e
            · rw [e] at hj; exact HOY.out j hj
            · rw [e] at hj; have h1 := Option.some.inj hj; omega)
          have hnn2 : nn + 1 = t + 1 + 1 := by rw [HNN.out]
          clear hown hown' hgrow hzS hi hz0 HRR HX hat HB HbE HlR HoR HO3 HOY
          go_wp2
          go_roundg g
          case measure => omega
          case rel => exact ⟨t + 1, nn + 1, R, v', by rw [← HTG.out]; omega, hnn2, by go_num, rfl, rfl, HX2, HE, HOY1, HB1⟩
        | succ gp =>
          have hpN : p < N := by omega
          have hpI : (p : Int) < (N : Int) := by omega
          have HPG := Lib.hid hpg
          obtain ⟨bx, ox, ex, hbx, hcx⟩ := HX.out hN0
          obtain ⟨rfl, rfl⟩ : Rr = bx ∧ 0 = ox := by injection ex with ex; injection ex with e1 e2; exact ⟨e1, e2⟩
          have hxp := hcx p hpN
          rw [Nat.zero_add] at hxp
          have HXP := Lib.hid hxp
          obtain ⟨xv, hxv⟩ : ∃ xv, sx p = xv := ⟨_, rfl⟩
          have HXv := Lib.hid hxv
          rw [hxv] at HXP
          have HbX := Lib.hid hbx
          obtain ⟨g1, o1, Ai, ci, rfl, hg1, m0, hrow⟩ := tabRow HMw.out hpN
          obtain ⟨b, off, rfl, hb, hc⟩ := hrow hN0
          have HG1 := Lib.hid (And.intro hg1 m0)
          have HC := Lib.hid (And.intro hb hc)
          clear ex hcx hxp hxv hbx hrow hc hg1 m0 hb hpg
          go_wp2_with fail
          go_loopg [18] N (fun gq ix wx => ∃ q : Nat, q + gq = N ∧ ix = .int .i64 q ∧ Hid (LdS wb R N (ldF N sx a p q) wx))
          case atStart => exact ⟨0, by omega, rfl, HS⟩
          case round =>
            clear HS
            obtain ⟨q, hqg, rfl, HS⟩ := hrel
            cases gk with
            | zero =>
              obtain rfl : q = N := by omega
              have HS2 : Hid (LdS wb R q (ldF q sx a (p + 1) 0) wr) := Lib.hid (HS.out.congr fun j hj => ldF_next hj)
              clear HS hqg
              go_wp2
              go_roundg gp
              case measure => omega
              case rel => exact ⟨p + 1, by have := HPG.out; omega, by go_num, HS2⟩
            | succ gq =>
              have hqN : q < N := by omega
              have hqI : (q : Int) < (N : Int) := by omega
              have hB := HS.out.B
              have z0 := cellThru hB HbX.out HXP.out
              have m0 := cellThru hB HG1.out.1 HG1.out.2
              have m1 := cellThru hB HC.out.1 (HC.out.2 q hqN)
              obtain ⟨y0, y1⟩ := HS.out.cell q hqN
              obtain ⟨av, hav⟩ : ∃ av, a p q = av := ⟨_, rfl⟩
              have HAv := Lib.hid hav
              rw [hav] at m1
              obtain ⟨pv, hpv⟩ : ∃ pv, ldF N sx a p q q = pv := ⟨_, rfl⟩
              have HPv := Lib.hid hpv
              rw [hpv] at y0
              have hBs := hB.size
              have h1 : Rr < wr.heap.size := Nat.lt_of_lt_of_le HbX.out hBs
              have h2 : g1 < wr.heap.size := Nat.lt_of_lt_of_le HG1.out.1 hBs
              have h3 : b < wr.heap.size := Nat.lt_of_lt_of_le HC.out.1 hBs
              have h4 := HS.out.z hN0
              have HQG := Lib.hid hqg
              clear hav hpv hqg hB hBs
              go_wp2_with fail
              go_region
              all_goals
                go_wp2
                go_roundg gq
                case measure => omega
                case rel =>
                  refine ⟨q + 1, by have := HQG.out; omega, by go_num, Lib.hid (LdS.next ((HS.out.put hqN _).congr fun j hj => ?_) (Below.refl _ _).drew)⟩
                  rw [ldF_step]
                  by_cases e : j = q
                  · subst e; rw [if_pos rfl, if_pos rfl, HPv.out, HXv.out, HAv.out]
                  · rw [if_neg e, if_neg e]

set_option maxRecDepth 8000 in
set_option maxHeartbeats 4000000 in
theorem specPOr (n d i j k : Int) (w : World) : Calls Try.prog 37 #[ang n d, .int .i64 i, .int .i64 j, .int .i64 k] w (ResTabR w (oN8 n d i j k) (fun _ => (prL (o8 n d).length).length) (oF8 n d i j) (oC8 n d i j k)) := by
  have HO := Lib.hid (fun w => specLen8 n d k 20 w)
  have hm := o8_len n d
  have ha := o8_ang n d
  have e1 : oC8 n d i j k = if c8 n d = 0 then (if 1 ≤ i ∧ i < j ∧ j ≤ ((o8 n d).length : Int) ∧ 0 ≤ k ∧ k ≤ 20 then 0 else 2) else c8 n d := rfl
  have e2 : oN8 n d i j k = if oC8 n d i j k = 0 then k.toNat + 1 else 0 := rfl
  have e3 : oF8 n d i j = stepF (prL (o8 n d).length).length (hitJ (prL (o8 n d).length) (i, j)) (mxF (o8 n d)) := rfl
  have e4 : lC8 n d k 20 = if c8 n d = 0 then (if 0 ≤ k ∧ k ≤ 20 then 0 else 2) else c8 n d := rfl
  rw [e2, e1, e3]
  rw [e4] at HO
  clear e1 e2 e3 e4
  generalize o8 n d = L at *
  generalize c8 n d = C at *
  by_cases hC : C = 0
  · subst hC
    rw [if_pos rfl] at HO
    rw [if_pos rfl]
    by_cases hk : 0 ≤ k ∧ k ≤ 20
    · rw [if_pos hk] at HO
      by_cases hg : 1 ≤ i ∧ i < j ∧ j ≤ (L.length : Int)
      · have hcond : 1 ≤ i ∧ i < j ∧ j ≤ (L.length : Int) ∧ 0 ≤ k ∧ k ≤ 20 := ⟨hg.1, hg.2.1, hg.2.2, hk.1, hk.2⟩
        obtain ⟨K, rfl⟩ : ∃ K : Nat, k = (K : Int) := ⟨k.toNat, by omega⟩
        have hKt : (K : Int).toNat = K := by omega
        simp only [if_pos hcond, if_true, hKt]
        exact specPOk n d i j K L L.length _ w HO rfl hm ha rfl hg.1 hg.2.1 hg.2.2 (by omega)
      · have hcond : ¬ (1 ≤ i ∧ i < j ∧ j ≤ (L.length : Int) ∧ 0 ≤ k ∧ k ≤ 20) := fun h => hg ⟨h.1, h.2.1, h.2.2.1⟩
        have h20 : ((2 : Int) = 0) = False := by simp
        simp only [if_neg hcond, h20, if_false]
        obtain ⟨m, hml⟩ : ∃ m, L.length = m := ⟨_, rfl⟩
        have HLm := Lib.hid hml
        rw [hml] at hg ⊢
        have HNg := Lib.hid hg
        clear hcond h20 hg hml hk ha hm
        by_cases h1 : i < 1
        · have d1 : decide (i < 1) = true := decide_eq_true h1
          go_enter Try.func37, Try.ntmps37
          go_wp2_with fail
          refine (HO.out _).mono ?_
          rintro e w1 ⟨A, cap, rfl, hA, hb1⟩
          clear hA
          go_wp2
          go_ret2
          refine ⟨none, 0, rfl, tabRd_nil, ?_⟩
          (repeat' (first | (with_reducible exact Below.refl _ _) | (with_reducible assumption) | (with_reducible refine belowNext ?_ (by with_reducible assumption)) | (with_reducible refine belowAlloc ?_ _) | (with_reducible refine Below.drew ?_) | (with_reducible refine below_drewN ?_ _) | (with_reducible refine Below.setCell ?_ ?_ _) | go_size | (with_reducible refine sizeOf' ?_) | (with_reducible refine sizeAdd ?_) | (dsimp only; first | (with_reducible refine sizeOf' ?_) | (with_reducible refine sizeAdd ?_))))
        · have d1 : decide (i < 1) = false := decide_eq_false h1
          by_cases h2 : j ≤ i
          · have d2 : decide (j ≤ i) = true := decide_eq_true h2
            go_enter Try.func37, Try.ntmps37
            go_wp2_with fail
            refine (HO.out _).mono ?_
            rintro e w1 ⟨A, cap, rfl, hA, hb1⟩
            clear hA
            go_wp2
            go_ret2
            refine ⟨none, 0, rfl, tabRd_nil, ?_⟩
            (repeat' (first | (with_reducible exact Below.refl _ _) | (with_reducible assumption) | (with_reducible refine belowNext ?_ (by with_reducible assumption)) | (with_reducible refine belowAlloc ?_ _) | (with_reducible refine Below.drew ?_) | (with_reducible refine below_drewN ?_ _) | (with_reducible refine Below.setCell ?_ ?_ _) | go_size | (with_reducible refine sizeOf' ?_) | (with_reducible refine sizeAdd ?_) | (dsimp only; first | (with_reducible refine sizeOf' ?_) | (with_reducible refine sizeAdd ?_))))
          · have d2 : decide (j ≤ i) = false := decide_eq_false h2
            have h3 : j > (m : Int) := by have := HNg.out; omega
            have d3 : decide (j > (m : Int)) = true := decide_eq_true h3
            have d3' : decide ((m : Int) < j) = true := decide_eq_true h3
            go_enter Try.func37, Try.ntmps37
            go_wp2_with fail
            refine (HO.out _).mono ?_
            rintro e w1 ⟨A, cap, rfl, hA, hb1⟩
            rw [HLm.out]
            clear hA
            go_wp2
            go_ret2
            refine ⟨none, 0, rfl, tabRd_nil, ?_⟩
            (repeat' (first | (with_reducible exact Below.refl _ _) | (with_reducible assumption) | (with_reducible refine belowNext ?_ (by with_reducible assumption)) | (with_reducible refine belowAlloc ?_ _) | (with_reducible refine Below.drew ?_) | (with_reducible refine below_drewN ?_ _) | (with_reducible refine Below.setCell ?_ ?_ _) | go_size | (with_reducible refine sizeOf' ?_) | (with_reducible refine sizeAdd ?_) | (dsimp only; first | (with_reducible refine sizeOf' ?_) | (with_reducible refine sizeAdd ?_))))
    · rw [if_neg hk] at HO
      have hcond : ¬ (1 ≤ i ∧ i < j ∧ j ≤ (L.length : Int) ∧ 0 ≤ k ∧ k ≤ 20) := fun h => hk ⟨h.2.2.2.1, h.2.2.2.2⟩
      have h20 : ((2 : Int) = 0) = False := by simp
      simp only [if_neg hcond, h20, if_false]
      clear hcond h20 hk hm ha
      go_enter Try.func37, Try.ntmps37
      go_wp2_with fail
      refine (HO.out _).mono ?_
      rintro e w1 ⟨A, cap, rfl, hA, hb1⟩
      clear hA
      go_wp2
      go_ret2
      refine ⟨none, 0, rfl, tabRd_nil, ?_⟩
      (repeat' (first | (with_reducible exact Below.refl _ _) | (with_reducible assumption) | (with_reducible refine belowNext ?_ (by with_reducible assumption)) | (with_reducible refine belowAlloc ?_ _) | (with_reducible refine Below.drew ?_) | (with_reducible refine below_drewN ?_ _) | (with_reducible refine Below.setCell ?_ ?_ _) | go_size | (with_reducible refine sizeOf' ?_) | (with_reducible refine sizeAdd ?_) | (dsimp only; first | (with_reducible refine sizeOf' ?_) | (with_reducible refine sizeAdd ?_))))
  · rw [if_neg hC] at HO
    rw [if_neg hC, if_neg hC]
    have hC' : (C == 0) = false := beq_eq_false_iff_ne.2 hC
    clear hC hm ha
    go_enter Try.func37, Try.ntmps37
    go_wp2_with fail
    refine (HO.out _).mono ?_
    rintro e w1 ⟨A, cap, rfl, hA, hb1⟩
    clear hA
    go_wp2
    go_ret2
    refine ⟨none, 0, rfl, tabRd_nil, ?_⟩
    (repeat' (first | (with_reducible exact Below.refl _ _) | (with_reducible assumption) | (with_reducible refine belowNext ?_ (by with_reducible assumption)) | (with_reducible refine belowAlloc ?_ _) | (with_reducible refine Below.drew ?_) | (with_reducible refine below_drewN ?_ _) | (with_reducible refine Below.setCell ?_ ?_ _) | go_size | (with_reducible refine sizeOf' ?_) | (with_reducible refine sizeAdd ?_) | (dsimp only; first | (with_reducible refine sizeOf' ?_) | (with_reducible refine sizeAdd ?_))))
theorem oN8_le (n d i j k : Int) : oN8 n d i j k ≤ 21 := by
  have e1 : oC8 n d i j k = if c8 n d = 0 then (if 1 ≤ i ∧ i < j ∧ j ≤ ((o8 n d).length : Int) ∧ 0 ≤ k ∧ k ≤ 20 then 0 else 2) else c8 n d := rfl
  have e2 : oN8 n d i j k = if oC8 n d i j k = 0 then k.toNat + 1 else 0 := rfl
  rw [e2]
  split
  · next h =>
    rw [e1] at h
    split at h
    · split at h
      · omega
      · omega
    · omega
  · omega
theorem totON {n N : Nat} (h : n ≤ 21) (h' : N ≤ 21) : totN (fun _ => N) n ≤ 1000000 := by
  rw [totN_const]
  have : n * N ≤ 21 * 21 := Nat.mul_le_mul h h'
  omega

set_option maxHeartbeats 4000000 in
theorem lawPairOrbit (n d : Int) (_ : (Lit.int .i64 n).wf = true) (_ : (Lit.int .i64 d).wf = true) (i : Int) (_ : (Lit.int .i64 i).wf = true) (j : Int) (_ : (Lit.int .i64 j).wf = true) (k : Int) (_ : (Lit.int .i64 k).wf = true) (w : World) :
    Calls Try.prog 11 #[ang n d, .int .i64 i, .int .i64 j, .int .i64 k] w fun e w' => e = .returned (.bool true) ∧ Below w.heap.size w w' := by
  have HA := Lib.hid (fun w => specPOr n d i j k w)
  have HB := Lib.hid (fun w => implPOr n d i j k w)
  have hN : oN8 n d i j k ≤ 1000000 := Nat.le_trans (oN8_le n d i j k) (by omega)
  have hT : totN (fun _ => (prL (o8 n d).length).length) (oN8 n d i j k) ≤ 1000000 := totON (oN8_le n d i j k) (prL_len (o8_len n d))
  obtain ⟨LN, hLN⟩ : ∃ LN : Nat → Nat, (fun _ => (prL (o8 n d).length).length) = LN := ⟨_, rfl⟩
  rw [hLN] at HA HB hT
  clear hLN
  generalize oN8 n d i j k = N at *
  generalize oF8 n d i j = F at *
  generalize oC8 n d i j k = C at *
  obtain ⟨T, hTe⟩ : ∃ T, totN LN N = T := ⟨_, rfl⟩
  have HTe := Lib.hid hTe
  have HT2 := Lib.hid hT
  rw [hTe] at hT
  clear hTe
  go_enter Try.func11, Try.ntmps11
  go_wp2_with fail
  refine (toAngX _ _ _).mono ?_
  rintro e w1 ⟨rfl, rfl⟩
  go_wp2_with fail
  refine (HA.out _).mono ?_
  rintro e w2 ⟨A, cap, rfl, ha, hb2⟩
  have hc2 := bcell hb2
  have c0 : w2.cell? ⟨w.heap.size, 0, none⟩ = some (.int .i64 n) := cellThru hb2 (by simp <;> omega) (by simp [go_sem])
  have c1 : w2.cell? ⟨w.heap.size, 1, none⟩ = some (.int .i64 d) := cellThru hb2 (by simp <;> omega) (by simp [go_sem])
  have z2 : w.heap.size < w2.heap.size := by have := hb2.size; simp at this; omega
  have B2 : Below w.heap.size w w2 := by
    (repeat' (first | (with_reducible exact Below.refl _ _) | (with_reducible assumption) | (with_reducible refine belowNext ?_ (by with_reducible assumption)) | (with_reducible refine belowAlloc ?_ _) | (with_reducible refine Below.drew ?_) | (with_reducible refine below_drewN ?_ _) | (with_reducible refine Below.setCell ?_ ?_ _) | go_size | (with_reducible refine sizeOf' ?_) | (with_reducible refine sizeAdd ?_) | (dsimp only; first | (with_reducible refine sizeOf' ?_) | (with_reducible refine sizeAdd ?_))))
  clear hc2 hb2
  have R := Lib.hid ha
  clear ha
  go_wp2_with fail
  refine (toAngX _ _ _).mono ?_
  rintro e w3 ⟨rfl, rfl⟩
  go_wp2_with fail
  refine (HB.out _).mono ?_
  rintro e w4 ⟨A', cap', rfl, ha', hb4⟩
  have s4 := hb4.size
  simp at s4
  have z4 : w.heap.size < w4.heap.size := by omega
  have B24 : Below w2.heap.size w2 w4 := by
    (repeat' (first | (with_reducible exact Below.refl _ _) | (with_reducible assumption) | (with_reducible refine belowNext ?_ (by with_reducible assumption)) | (with_reducible refine belowAlloc ?_ _) | (with_reducible refine Below.drew ?_) | (with_reducible refine below_drewN ?_ _) | (with_reducible refine Below.setCell ?_ ?_ _) | go_size | (with_reducible refine sizeOf' ?_) | (with_reducible refine sizeAdd ?_) | (dsimp only; first | (with_reducible refine sizeOf' ?_) | (with_reducible refine sizeAdd ?_))))
  have c0 : w4.cell? ⟨w.heap.size, 0, none⟩ = some (.int .i64 n) := cellThru B24 z2 c0
  have c1 : w4.cell? ⟨w.heap.size, 1, none⟩ = some (.int .i64 d) := cellThru B24 z2 c1
  have R4 := Lib.hid (R.out.below B24)
  have Rs4 := Lib.hid (R4.out.more B24.size)
  have Q4 := Lib.hid ha'
  clear ha' hb4
  go_wp2_with fail
  refine (eqTab _ _ _ _ _ LN F _ Q4.out.rd Rs4.out hN HT2.out).mono ?_
  rintro e w5 ⟨rfl, hb5⟩
  have c0 : w5.cell? ⟨w.heap.size, 0, none⟩ = some (.int .i64 n) := cellThru hb5 z4 c0
  have c1 : w5.cell? ⟨w.heap.size, 1, none⟩ = some (.int .i64 d) := cellThru hb5 z4 c1
  have z5 : w.heap.size < w5.heap.size := by have := hb5.size; omega
  have R5 := Lib.hid (R4.out.below (hb5.mono B24.size))
  have Q5 := Lib.hid (Q4.out.next hb5)
  have B25 : Below w2.heap.size w2 w5 := belowNext B24 hb5
  go_wp2_with fail
  refine (markTab _ _ _ LN F _ _ Q5.out hN HT2.out).mono ?_
  rintro e w6 ⟨rfl, H6⟩
  rw [HTe.out]
  simp only [World.size_alloc] at H6
  have b6 := H6.out.2.mono (show w2.heap.size ≤ w2.heap.size + 1 + 1 + 1 by omega)
  have c0 : w6.cell? ⟨w.heap.size, 0, none⟩ = some (.int .i64 n) := (b6.cell (p := ⟨w.heap.size, 0, none⟩) z2).trans c0
  have c1 : w6.cell? ⟨w.heap.size, 1, none⟩ = some (.int .i64 d) := (b6.cell (p := ⟨w.heap.size, 1, none⟩) z2).trans c1
  have z6 : w.heap.size < w6.heap.size := by have := b6.size; omega
  have R6 := Lib.hid (R5.out.below b6)
  have Q6 := Lib.hid H6.out.1
  have B26 : Below w2.heap.size w2 w6 := B25.trans b6
  have nn : (1 + (T : Int) < 0) = False := by simp; omega
  clear b6 H6 hb5
  go_wp2_with fail
  refine (heldTab _ _ _ LN _ Q6.out.rd hN HT2.out).mono ?_
  rintro e w7 ⟨rfl, rfl⟩
  rw [HTe.out]
  go_wp2_with fail
  refine (toAngX _ _ _).mono ?_
  rintro e w8 ⟨rfl, rfl⟩
  go_wp2_with fail
  refine (HB.out _).mono ?_
  rintro e w9 ⟨A'', cap'', rfl, ha'', hb9⟩
  have s9 := hb9.size
  simp at s9
  have B69 : Below w6.heap.size w6 w9 := by
    (repeat' (first | (with_reducible exact Below.refl _ _) | (with_reducible assumption) | (with_reducible refine belowNext ?_ (by with_reducible assumption)) | (with_reducible refine belowAlloc ?_ _) | (with_reducible refine Below.drew ?_) | (with_reducible refine below_drewN ?_ _) | (with_reducible refine Below.setCell ?_ ?_ _) | go_size | (with_reducible refine sizeOf' ?_) | (with_reducible refine sizeAdd ?_) | (dsimp only; first | (with_reducible refine sizeOf' ?_) | (with_reducible refine sizeAdd ?_))))
  have B29 : Below w2.heap.size w2 w9 := belowNext B26 B69
  have R9 := Lib.hid ((R6.out.below (B69.mono B26.size)).more B29.size)
  have Q9 := Lib.hid (Q6.out.next B69)
  have P9 := Lib.hid ha''.rd
  clear ha'' hb9
  go_wp2_with fail
  refine (eqTab _ _ _ _ _ LN F _ P9.out R9.out hN HT2.out).mono ?_
  rintro e w10 ⟨rfl, hb10⟩
  have Q10 := Lib.hid (Q9.out.next hb10)
  go_wp2_with fail
  refine (heldTab _ _ _ LN _ Q10.out.rd hN HT2.out).mono ?_
  rintro e w11 ⟨rfl, rfl⟩
  rw [HTe.out]
  go_wp2
  go_ret
  exact ⟨rfl, belowNext (belowNext B2 B29) hb10⟩
end Go.Proofs.Ytjomgbjiognmmaa

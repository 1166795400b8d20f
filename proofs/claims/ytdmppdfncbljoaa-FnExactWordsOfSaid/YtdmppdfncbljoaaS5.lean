/-
  Contracts: the letters along an orbit (the program's), for any function of letters.
  Contracts: expansions, itineraries and kneading sequences (the program's).
-/
import Derived.Test.YtdmppdfncbljoaaS3
import Derived.Test.YtdmppdfncbljoaaW24
import Derived.Test.YtdmppdfncbljoaaW25
import Derived.StillTailTactics
namespace Go.Proofs.Ytdmppdfncbljoaa
open Go.RowKit

/-- The letters with the numbers a, a + 1, .. (c of them). -/
def lw (L : Nat → UInt8) (a c : Nat) : Wd := (List.range c).map fun j => L (a + j)
theorem lw_len (L : Nat → UInt8) (a c : Nat) : (lw L a c).length = c := by simp [lw]
theorem lw_at (L : Nat → UInt8) (a c : Nat) {j : Nat} (h : j < c) : (lw L a c).getD j 0 = L (a + j) := by
  simp [lw, List.getElem?_range h]
theorem lw_succ (L : Nat → UInt8) (a c : Nat) : lw L a (c + 1) = lw L a c ++ [L (a + c)] := by
  simp [lw, List.range_succ]
def nums (x : Wd) : List Int := x.map fun c => (c.toNat : Int)
theorem nums_str (x : Wd) : strOfNums (nums x) = bs x := by
  unfold strOfNums nums bs
  congr 2
  rw [List.map_map]
  conv => rhs; rw [← List.map_id x]
  apply List.map_congr_left
  intro a _
  simp
theorem nums_at (x : Wd) (i : Nat) : (nums x).getD i 0 = ((x.getD i 0).toNat : Int) := by
  simp [nums]
  cases x[i]? <;> simp

/-- The bytes of a row are these letters. -/
theorem bytesAre (x : Wd) (W : World) (g off : Nat) (c : Nat) (n : Nat) (hn : x.length = n) (h : ∀ i, i < n → W.cell? ⟨g, off + i, none⟩ = some (.int .u8 ((x.getD i 0).toNat : Int))) :
    (convert 141 9 (.slice (some ⟨g, off, none⟩) n c)).run Try.prog W = .ok (.string (bs x)) W := by
  have := run_convert_bytes_arg (P := Try.prog) W 141 5 Try.underlying141 Try.underlying5 g off n c (nums x) (by simp [nums, hn]) (fun i hi => by rw [nums_at]; exact h i hi) 9 Try.underlying9
  rw [this, nums_str]

theorem rowTo (g k P : Nat) (hP : P ≤ k) (W : World) : (Instr.slice 141 (.slice (some ⟨g, 0, none⟩) k k) none (some (.int .i64 (P : Int))) none).run Try.prog W = .ok (.slice (some ⟨g, 0, none⟩) P k) W := by
  have h : (P : Int) ≤ (k : Int) := by omega
  simp [go_sem, h]
theorem rowFrom (g k P : Nat) (hP : P < k) (W : World) : (Instr.slice 141 (.slice (some ⟨g, 0, none⟩) k k) (some (.int .i64 (P : Int))) none none).run Try.prog W = .ok (.slice (some ⟨g, P, none⟩) (k - P) (k - P)) W := by
  have h : (P : Int) ≤ (k : Int) := by omega
  have h2 : ¬ k = P := by omega
  simp [go_sem, h, h2]

structure AlongSt (w : World) (p : Int × Int) (gb K g : Nat) (L : Nat → UInt8) (k : Nat) (W : World) : Prop where
  below : Below w.heap.size w W
  gb1 : w.heap.size + 2 ≤ gb
  gb2 : gb < g
  g2 : g < W.heap.size
  orbit : ∀ i, i < K → W.cell? ⟨gb, i * 2, none⟩ = some (.int .i64 (orb p i).1) ∧ W.cell? ⟨gb, i * 2 + 1, none⟩ = some (.int .i64 (orb p i).2)
  bytes : ∀ i, i < K → W.cell? ⟨g, i, none⟩ = some (.int .u8 (if i < k then ((L i).toNat : Int) else 0)) ∧ W.frozen? ⟨g, i, none⟩ = false
  r0 : W.cell? ⟨w.heap.size + 1, 0, none⟩ = some (.string ⟨#[]⟩)
  r1 : W.cell? ⟨w.heap.size + 1, 1, none⟩ = some (.string ⟨#[]⟩)
  f0 : W.frozen? ⟨w.heap.size + 1, 0, none⟩ = false
  f1 : W.frozen? ⟨w.heap.size + 1, 1, none⟩ = false
theorem AlongSt.next {w : World} {p : Int × Int} {gb K g : Nat} {L : Nat → UInt8} {k : Nat} {W W' : World} (h : AlongSt w p gb K g L k W) (hb : Below W.heap.size W W') : AlongSt w p gb K g L k W' := by
  have h1 := h.gb1
  have h2 := h.gb2
  have h3 := h.g2
  have hz := hb.size
  refine ⟨h.below.trans (hb.mono (by omega)), h1, h2, by omega, fun i hi => ?_, fun i hi => ?_, ?_, ?_, ?_, ?_⟩
  · obtain ⟨a, b⟩ := h.orbit i hi
    exact ⟨cellThru hb (by omega) a, cellThru hb (by omega) b⟩
  · obtain ⟨a, b⟩ := h.bytes i hi
    exact ⟨cellThru hb (by omega) a, frozThru hb (by omega) b⟩
  · exact cellThru hb (by omega) h.r0
  · exact cellThru hb (by omega) h.r1
  · exact frozThru hb (by omega) h.f0
  · exact frozThru hb (by omega) h.f1
theorem setCell_other {W : World} {q p : Addr} {v : Value} (h : q.block ≠ p.block) : (W.setCell p v).cell? q = W.cell? q ∧ (W.setCell p v).frozen? q = W.frozen? q := by
  have e : (W.setCell p v).heap[q.block]? = W.heap[q.block]? := Below.heap_setCell _ _ _ _ h
  exact ⟨World.cell?_of_block e, World.frozen?_of_block e⟩
theorem AlongSt.put {w : World} {p : Int × Int} {gb K g : Nat} {L : Nat → UInt8} {k : Nat} {W : World} (h : AlongSt w p gb K g L k W) (hk : k < K) : AlongSt w p gb K g L (k + 1) (W.setCell ⟨g, k, none⟩ (.int .u8 ((L k).toNat : Int))) := by
  have h1 := h.gb1
  have h2 := h.gb2
  have h3 := h.g2
  refine ⟨h.below.setCell (by simp; omega) _, h1, h2, by simpa using h3, fun i hi => ?_, fun i hi => ?_, ?_, ?_, ?_, ?_⟩
  · obtain ⟨a, b⟩ := h.orbit i hi
    exact ⟨(setCell_other (by simp; omega)).1.trans a, (setCell_other (by simp; omega)).1.trans b⟩
  · by_cases e : i = k
    · subst e
      obtain ⟨a, b⟩ := h.bytes i hi
      refine ⟨?_, ?_⟩
      · simp [go_sem, a]
      · simpa [go_sem] using b
    · obtain ⟨a, b⟩ := h.bytes i hi
      refine ⟨?_, ?_⟩
      · have : (W.setCell ⟨g, k, none⟩ (.int .u8 ((L k).toNat : Int))).cell? ⟨g, i, none⟩ = W.cell? ⟨g, i, none⟩ := by
          have _e' : k ≠ i := fun h => e h.symm
          simp [go_sem]
        rw [this, a]
        have : (i < k + 1) = (i < k) := by simp; omega
        simp only [this]
      · simpa [go_sem] using b
  · exact (setCell_other (by simp; omega)).1.trans h.r0
  · exact (setCell_other (by simp; omega)).1.trans h.r1
  · exact (setCell_other (by simp; omega)).2.trans h.f0
  · exact (setCell_other (by simp; omega)).2.trans h.f1
theorem made0 (n i : Nat) (h : i < n) : (madeCells (Value.int .u8 0).cells (n * 1)).toList[i]? = some (.int .u8 0) := by
  simp [madeCells, Value.cells, h, Nat.mod_one]
theorem infoB : (Try.prog.info? 5).map (fun i => (i.zero, i.size, i.bytes)) = some (some (.int .u8 0), 1, 1) := by kernel_rfl

/-- What the sequence along an orbit is. -/
def sqA (n d : Int) (L : Nat → UInt8) : Wd × Wd := if isAng n d then (match findOrb (n, d) 65 0 with | some k => canon (lw L 0 (pre (n, d))) (lw L (pre (n, d)) (k - pre (n, d))) | none => ([], [])) else ([], [])

set_option maxHeartbeats 2000000 in
theorem implAlong0 (n d : Int) (f : Value) (L : Nat → UInt8) (w : World) (h : isAng n d = false ∨ findOrb (n, d) 65 0 = none) :
    Calls Try.prog 186 #[ang n d, f] w fun e w' => e = .returned (.tuple #[sqV (sqA n d L).1 (sqA n d L).2, .int .i64 (oC n d)]) ∧ Below w.heap.size w w' := by
  cases h1 : isAng n d
  · have HO := Lib.hid (fun w => implOap0 n d w h1)
    have e1 : sqA n d L = ([], []) := by unfold sqA; simp [h1]
    have e2 : oC n d = 1 := by unfold oC; simp [h1]
    rw [e1, e2]
    clear e1 e2 h1 h
    go_enter Try.func186, Try.ntmps186
    go_wp2_with fail
    refine (HO.out _).mono ?_
    rintro e w1 ⟨rfl, hb1⟩
    have hz1 : w.heap.size + 1 < w1.heap.size := by have := hb1.size; simp at this; omega
    have q0 : w1.cell? ⟨w.heap.size + 1, 0, none⟩ = some (.string ⟨#[]⟩) := cellThru hb1 (by simp) (by simp [go_sem])
    have q1 : w1.cell? ⟨w.heap.size + 1, 1, none⟩ = some (.string ⟨#[]⟩) := cellThru hb1 (by simp) (by simp [go_sem])
    have g0 : w1.frozen? ⟨w.heap.size + 1, 0, none⟩ = false := frozThru hb1 (by simp) (by simp [go_sem])
    have g1 : w1.frozen? ⟨w.heap.size + 1, 1, none⟩ = false := frozThru hb1 (by simp) (by simp [go_sem])
    go_wp2
    refine bodyPost_ret (v := .tuple #[sqV [] [], .int .i64 1]) (by simp [results, Try.results186, go_sem, sqV, bs, q0, q1]) rfl ⟨rfl, ?_⟩
    (repeat' (first | (with_reducible exact Below.refl _ _) | (with_reducible assumption) | (with_reducible refine belowNext ?_ (by with_reducible assumption)) | (with_reducible refine belowAlloc ?_ _) | (with_reducible refine Below.drew ?_) | (with_reducible refine below_drewN ?_ _) | (with_reducible refine Below.setCell ?_ ?_ _) | go_size | (with_reducible refine sizeOf' ?_) | (with_reducible refine sizeAdd ?_) | (dsimp only; first | (with_reducible refine sizeOf' ?_) | (with_reducible refine sizeAdd ?_))))
  · have hf : findOrb (n, d) 65 0 = none := by rcases h with h | h; · rw [h1] at h; cases h
                                               · exact h
    have HO := Lib.hid (fun w => implOap n d w h1)
    have e1 : sqA n d L = ([], []) := by unfold sqA; simp [h1, hf]
    have e2 : oC n d = 3 := by unfold oC; simp [h1, hf]
    rw [e1, e2]
    have HO2 : Hid (∀ w : World, Calls Try.prog 95 #[ang n d] w fun e w' => e = .returned (.tuple #[.slice none 0 0, .int .i64 0, .int .i64 3]) ∧ Below w.heap.size w w') := Lib.hid (fun w => (HO.out w).mono fun e w' h => by unfold ResOap at h; rw [hf] at h; exact h)
    clear e1 e2 h1 hf HO h
    go_enter Try.func186, Try.ntmps186
    go_wp2_with fail
    refine (HO2.out _).mono ?_
    rintro e w1 ⟨rfl, hb1⟩
    have hz1 : w.heap.size + 1 < w1.heap.size := by have := hb1.size; simp at this; omega
    have q0 : w1.cell? ⟨w.heap.size + 1, 0, none⟩ = some (.string ⟨#[]⟩) := cellThru hb1 (by simp) (by simp [go_sem])
    have q1 : w1.cell? ⟨w.heap.size + 1, 1, none⟩ = some (.string ⟨#[]⟩) := cellThru hb1 (by simp) (by simp [go_sem])
    have g0 : w1.frozen? ⟨w.heap.size + 1, 0, none⟩ = false := frozThru hb1 (by simp) (by simp [go_sem])
    have g1 : w1.frozen? ⟨w.heap.size + 1, 1, none⟩ = false := frozThru hb1 (by simp) (by simp [go_sem])
    go_wp2
    refine bodyPost_ret (v := .tuple #[sqV [] [], .int .i64 3]) (by simp [results, Try.results186, go_sem, sqV, bs, q0, q1]) rfl ⟨rfl, ?_⟩
    (repeat' (first | (with_reducible exact Below.refl _ _) | (with_reducible assumption) | (with_reducible refine belowNext ?_ (by with_reducible assumption)) | (with_reducible refine belowAlloc ?_ _) | (with_reducible refine Below.drew ?_) | (with_reducible refine below_drewN ?_ _) | (with_reducible refine Below.setCell ?_ ?_ _) | go_size | (with_reducible refine sizeOf' ?_) | (with_reducible refine sizeAdd ?_) | (dsimp only; first | (with_reducible refine sizeOf' ?_) | (with_reducible refine sizeAdd ?_))))

set_option maxHeartbeats 4000000 in
theorem implAlong (n d : Int) (F : FuncId) (cp : Array Value) (L : Nat → UInt8) (w : World) (h1 : isAng n d = true) (K : Nat) (hf : findOrb (n, d) 65 0 = some K)
    (hcf : ∀ args W, (callFunc F args).run Try.prog W = .ok (.enter F args) W)
    (hF : ∀ i, i < K → ∀ W, Below w.heap.size w W → Calls Try.prog F (#[ang (orb (n, d) i).1 (orb (n, d) i).2] ++ cp) W fun e W' => e = .returned (.int .u8 ((L i).toNat : Int)) ∧ Below W.heap.size W W') :
    Calls Try.prog 186 #[ang n d, .func (.func F) #[] cp] w fun e w' => e = .returned (.tuple #[sqV (sqA n d L).1 (sqA n d L).2, .int .i64 0]) ∧ Below w.heap.size w w' := by
  obtain ⟨i0, hi, hz0, hz1, hz2⟩ := info_parts infoB
  have HF := Lib.hid hF
  have e1 : sqA n d L = canon (lw L 0 (pre (n, d))) (lw L (pre (n, d)) (K - pre (n, d))) := by unfold sqA; simp [h1, hf]
  rw [e1]
  have hK := find_le _ _ _ hf
  have hpk : pre (n, d) < K := by have := (hit_iff (n, d) K).1 hK.2.2.1; exact this.1
  have hK65 : K < 65 := by omega
  have HO : Hid (∀ w : World, Calls Try.prog 95 #[ang n d] w fun e w' => ∃ A cap, e = .returned (.tuple #[.slice A K cap, .int .i64 (pre (n, d) : Int), .int .i64 0]) ∧ w'.ownsRow w.heap.size 29 2 (.slice A K cap) K (flat (n, d) K) ∧ Below w.heap.size w w') := Lib.hid (fun w => (implOap n d w h1).mono fun e w' h => by unfold ResOap at h; rw [hf] at h; exact h)
  clear e1 h1 hf hK hF
  generalize pre (n, d) = P at *
  go_enter Try.func186, Try.ntmps186
  go_wp2_with fail
  refine (HO.out _).mono ?_
  rintro e w1 ⟨A, cap, rfl, hown, hb1⟩
  have hz1' : w.heap.size + 1 < w1.heap.size := by have := hb1.size; simp at this; omega
  obtain ⟨gb, cb, hA, hgl, hgb⟩ := hown.form (by omega : 0 < K)
  obtain ⟨rfl, rfl⟩ : A = some ⟨gb, 0, none⟩ ∧ cap = cb := by injection hA with hA hn hc; exact ⟨hA, hc⟩
  clear hA
  have hB1 : Below w.heap.size w w1 := by
    (repeat' (first | (with_reducible exact Below.refl _ _) | (with_reducible assumption) | (with_reducible refine belowNext ?_ (by with_reducible assumption)) | (with_reducible refine belowAlloc ?_ _) | (with_reducible refine Below.drew ?_) | (with_reducible refine below_drewN ?_ _) | (with_reducible refine Below.setCell ?_ ?_ _) | go_size | (with_reducible refine sizeOf' ?_) | (with_reducible refine sizeAdd ?_) | (dsimp only; first | (with_reducible refine sizeOf' ?_) | (with_reducible refine sizeAdd ?_))))
  have q0 : w1.cell? ⟨w.heap.size + 1, 0, none⟩ = some (.string ⟨#[]⟩) := cellThru hb1 (by simp) (by simp [go_sem])
  have q1 : w1.cell? ⟨w.heap.size + 1, 1, none⟩ = some (.string ⟨#[]⟩) := cellThru hb1 (by simp) (by simp [go_sem])
  have g0 : w1.frozen? ⟨w.heap.size + 1, 0, none⟩ = false := frozThru hb1 (by simp) (by simp [go_sem])
  have g1 : w1.frozen? ⟨w.heap.size + 1, 1, none⟩ = false := frozThru hb1 (by simp) (by simp [go_sem])
  have hgl2 : w.heap.size + 2 ≤ gb := by simpa using hgl
  have HR : Hid (∀ i, i < K → w1.cell? ⟨gb, i * 2, none⟩ = some (.int .i64 (orb (n, d) i).1) ∧ w1.cell? ⟨gb, i * 2 + 1, none⟩ = some (.int .i64 (orb (n, d) i).2)) := Lib.hid (fun i hi => by
    have fa := flat_at (n, d) hi
    exact ⟨(hown.cellAt (i * 2) (by omega)).trans fa.1, (hown.cellAt (i * 2 + 1) (by omega)).trans fa.2⟩)
  clear hown hb1 hgl
  go_wp2_with (at_make; refine wpList_make_full _ rfl _ _ 141 rfl w.heap.size 5 i0 (.int .u8 0) 1 Try.underlying141 hi hz0 hz1 .i64 .i64 _ _ K rfl rfl rfl rfl (by rw [hz2]; omega) (by unfold maxLen; omega) (by omega) ?_; intro w2 hown2 hgrow2)
  have hz2' := hgrow2.size
  have hst : AlongSt w (n, d) gb K w1.heap.size L 0 w2 := by
    obtain ⟨gz, cz, hAz, _, hgz⟩ := hown2.form (by omega : 0 < K)
    have egz : gz = w1.heap.size := by have := congrArg Value.ownBlock hAz; simp [Value.ownBlock] at this; exact this.symm
    subst egz
    have blk : ∀ {b : Nat} (o : Nat), b < w1.heap.size → w2.cell? ⟨b, o, none⟩ = w1.cell? ⟨b, o, none⟩ ∧ w2.frozen? ⟨b, o, none⟩ = w1.frozen? ⟨b, o, none⟩ := fun o hb => by
      have e := hgrow2.block _ hb (by simp)
      exact ⟨World.cell?_of_block e, World.frozen?_of_block e⟩
    refine ⟨hB1.trans ((below_of_grown hgrow2).mono (by omega)), hgl2, hgb, hgz, fun i hi => ?_, fun i hi => ?_, ?_, ?_, ?_, ?_⟩
    · exact ⟨(blk _ hgb).1.trans (HR.out i hi).1, (blk _ hgb).1.trans (HR.out i hi).2⟩
    · exact ⟨(hown2.cellAt i (by omega)).trans (by simpa using made0 K i hi), hown2.frozenAt i⟩
    · exact (blk _ hz1').1.trans q0
    · exact (blk _ hz1').1.trans q1
    · exact (blk _ hz1').2.trans g0
    · exact (blk _ hz1').2.trans g1
  have HS := Lib.hid hst
  clear hst hown2 hgrow2 hB1 q0 q1 g0 g1 HR hz2'
  generalize w1.heap.size = g at *
  go_loopw [27] (fun i wr => ∃ k : Nat, k ≤ K ∧ i = .int .i64 k ∧ Hid (AlongSt w (n, d) gb K g L k wr)) (fun i _ => K - (intOf i).toNat)
  case atStart => exact ⟨0, by omega, rfl, HS⟩
  case round =>
    obtain ⟨k, hk, rfl, H⟩ := hrel
    by_cases hlt : k < K
    · obtain ⟨x0, x1⟩ := H.out.orbit k hlt
      have HC : Hid (∀ W, Below w.heap.size w W → Calls Try.prog F (#[ang (orb (n, d) k).1 (orb (n, d) k).2] ++ cp) W fun e W' => e = .returned (.int .u8 ((L k).toNat : Int)) ∧ Below W.heap.size W W') := Lib.hid (HF.out k hlt)
      have hbw := H.out.below
      have h3 := H.out.g2
      have HY : Hid (∀ W2, Below (wr.alloc (.cells #[.int .i64 (orb (n, d) k).1, .int .i64 (orb (n, d) k).2] 29)).heap.size (wr.alloc (.cells #[.int .i64 (orb (n, d) k).1, .int .i64 (orb (n, d) k).2] 29)) W2 → AlongSt w (n, d) gb K g L k W2) := Lib.hid (fun W2 hb => H.out.next ((belowAlloc (Below.refl _ _) _).trans (hb.mono (by simp))))
      obtain ⟨x, hxx⟩ : ∃ x, (orb (n, d) k).1 = x := ⟨_, rfl⟩
      obtain ⟨y, hyy⟩ : ∃ y, (orb (n, d) k).2 = y := ⟨_, rfl⟩
      rw [hxx] at x0 HC HY
      rw [hyy] at x1 HC HY
      clear hxx hyy
      have hbz := hbw.size
      set_option maxRecDepth 4000 in
      go_wp2_with fail
      refine (HC.out _ (belowAlloc hbw _)).mono ?_
      rintro e w3 ⟨rfl, hb3⟩
      have H3 := Lib.hid (HY.out w3 hb3)
      obtain ⟨y0, y1⟩ := H3.out.bytes k hlt
      simp only [Nat.lt_irrefl, if_false] at y0
      clear hb3 HC HY x0 x1
      go_wp2
      go_roundw
      case rel => exact ⟨k + 1, by omega, by go_num, Lib.hid (H3.out.put hlt)⟩
      case measure => simp [intOf]; omega
    · obtain rfl : k = K := by omega
      have H3 := Lib.hid H.out
      have HB : ∀ a c, a + c ≤ k → ∀ i, i < c → wr.cell? ⟨g, a + i, none⟩ = some (.int .u8 (((lw L a c).getD i 0).toNat : Int)) := fun a c hac i hi => by
        rw [(H3.out.bytes (a + i) (by omega)).1, if_pos (by omega), lw_at _ _ _ hi]
      have cv1 := bytesAre (lw L 0 P) wr.drew g 0 k P (by rw [lw_len]) (fun i hi => HB 0 P (by omega) i hi)
      have cv2 := bytesAre (lw L P (k - P)) wr.drew g P (k - P) (k - P) (by rw [lw_len]) (fun i hi => HB P (k - P) (by omega) i hi)
      have HCN := Lib.hid (fun w => implCanon (lw L 0 P) (lw L P (k - P)) w (by rw [lw_len]; omega) (by rw [lw_len, lw_len]; omega))
      have HE1 : Hid (∃ X, lw L 0 P = X) := Lib.hid ⟨_, rfl⟩
      obtain ⟨X, hX⟩ := HE1.out
      obtain ⟨Y, hY⟩ : ∃ Y, lw L P (k - P) = Y := ⟨_, rfl⟩
      rw [hX] at cv1 HCN
      rw [hY] at cv2 HCN
      have HX := Lib.hid (And.intro hX hY)
      clear HB HF HO hX hY HE1
      have hbw := H3.out.below
      have q0 := H3.out.r0
      have q1 := H3.out.r1
      have g0 := H3.out.f0
      have g1 := H3.out.f1
      go_wp2_with fail
      have sl1 := rowTo g k P (by omega)
      have sl2 := rowFrom g k P (by omega)
      set_option maxRecDepth 8000 in
      go_still_tail 8, (by kernel_rfl)
      change wpList _ _ _ _ _ wr.drew
      clear cv1 cv2 sl1 sl2
      have HBz := Lib.hid hbw
      go_wp2_with fail
      refine (HCN.out _).mono ?_
      rintro e w3 ⟨rfl, hb3⟩
      have hzz : w.heap.size + 1 < wr.heap.size := by have := H3.out.g2; omega
      have t0 := cellThru hb3 (by simpa using hzz) q0
      have t1 := cellThru hb3 (by simpa using hzz) q1
      have u0 := frozThru hb3 (by simpa using hzz) g0
      have u1 := frozThru hb3 (by simpa using hzz) g1
      have hB3 : Below w.heap.size w w3 := hbw.drew.trans (hb3.mono (by simp; omega))
      clear hb3 q0 q1 g0 g1
      go_wp2
      refine bodyPost_ret (v := .tuple #[sqV (canon X Y).1 (canon X Y).2, .int .i64 0]) (by simp [results, Try.results186, go_sem, sqV, t0, t1]) rfl ⟨?_, ?_⟩
      · rw [← HX.out.1, ← HX.out.2]
      · (repeat' (first | (with_reducible exact Below.refl _ _) | (with_reducible assumption) | (with_reducible refine belowNext ?_ (by with_reducible assumption)) | (with_reducible refine belowAlloc ?_ _) | (with_reducible refine Below.drew ?_) | (with_reducible refine below_drewN ?_ _) | (with_reducible refine Below.setCell ?_ ?_ _) | go_size | (with_reducible refine sizeOf' ?_) | (with_reducible refine sizeAdd ?_) | (dsimp only; first | (with_reducible refine sizeOf' ?_) | (with_reducible refine sizeAdd ?_))))

/-- The letters of the orbit, for m / c. -/
def lt (n d m c : Int) (i : Nat) : UInt8 := UInt8.ofNat (ltrI (orb (n, d) i).1 (orb (n, d) i).2 m c).toNat
theorem lt_int (n d m c : Int) (i : Nat) : ((lt n d m c i).toNat : Int) = ltrI (orb (n, d) i).1 (orb (n, d) i).2 m c := by
  unfold lt
  rcases ltr_three (orb (n, d) i).1 (orb (n, d) i).2 m c with h | h | h <;> rw [h] <;> rfl
/-- The digits of the orbit. -/
def dg (n d : Int) (i : Nat) : UInt8 := if (orb (n, d) i).2 ≤ 2 * (orb (n, d) i).1 then 49 else 48
def itS (n d m c : Int) : Wd × Wd := if isAng m c then sqA n d (lt n d m c) else ([], [])
def itC (n d m c : Int) : Int := if isAng m c then oC n d else 1
theorem orb_ok {n d : Int} (h : isAng n d = true) (i : Nat) : angOk (orb (n, d) i).1 (orb (n, d) i).2 := by
  obtain ⟨a, b, c, e, _⟩ := orb_red (ang_red h) i
  exact ⟨a, b, c, e⟩

theorem enterEx (args : Array Value) (W : World) : (callFunc 187 args).run Try.prog W = .ok (.enter 187 args) W := by
  kernel_rfl

theorem closEx (n d : Int) (L : Int) (w : World) (h1 : angOk n d) (hL : L = if d ≤ 2 * n then 49 else 48) :
    Calls Try.prog 187 #[ang n d] w fun e w' => e = .returned (.int .u8 L) ∧ Below w.heap.size w w' := by
  obtain ⟨a1, a2, a3, a4⟩ := h1
  by_cases h : d ≤ 2 * n
  · have hd : decide (d ≤ 2 * n) = true := by simp [h]
    rw [if_pos h] at hL
    subst hL
    go_enter Try.func187, Try.ntmps187
    go_wp2
    go_ret
    refine ⟨rfl, ?_⟩
    (repeat' (first | (with_reducible exact Below.refl _ _) | (with_reducible assumption) | (with_reducible refine belowNext ?_ (by with_reducible assumption)) | (with_reducible refine belowAlloc ?_ _) | (with_reducible refine Below.drew ?_) | (with_reducible refine below_drewN ?_ _) | (with_reducible refine Below.setCell ?_ ?_ _) | go_size | (with_reducible refine sizeOf' ?_) | (with_reducible refine sizeAdd ?_) | (dsimp only; first | (with_reducible refine sizeOf' ?_) | (with_reducible refine sizeAdd ?_))))
  · have hd : decide (d ≤ 2 * n) = false := by simp [h]
    rw [if_neg h] at hL
    subst hL
    go_enter Try.func187, Try.ntmps187
    go_wp2
    go_ret
    refine ⟨rfl, ?_⟩
    (repeat' (first | (with_reducible exact Below.refl _ _) | (with_reducible assumption) | (with_reducible refine belowNext ?_ (by with_reducible assumption)) | (with_reducible refine belowAlloc ?_ _) | (with_reducible refine Below.drew ?_) | (with_reducible refine below_drewN ?_ _) | (with_reducible refine Below.setCell ?_ ?_ _) | go_size | (with_reducible refine sizeOf' ?_) | (with_reducible refine sizeAdd ?_) | (dsimp only; first | (with_reducible refine sizeOf' ?_) | (with_reducible refine sizeAdd ?_))))

theorem implExpansionOf (n d : Int) (w : World) :
    Calls Try.prog 142 #[ang n d] w fun e w' => e = .returned (.tuple #[sqV (sqA n d (dg n d)).1 (sqA n d (dg n d)).2, .int .i64 (oC n d)]) ∧ Below w.heap.size w w' := by
  have HA : Hid (∀ w, Calls Try.prog 186 #[ang n d, .func (.func 187) #[] #[]] w fun e w' => e = .returned (.tuple #[sqV (sqA n d (dg n d)).1 (sqA n d (dg n d)).2, .int .i64 (oC n d)]) ∧ Below w.heap.size w w') := Lib.hid (fun w => by
    cases h1 : isAng n d
    · exact implAlong0 n d _ _ w (.inl h1)
    · cases hf : findOrb (n, d) 65 0 with
      | none => exact implAlong0 n d _ _ w (.inr hf)
      | some K =>
        have e2 : oC n d = 0 := by unfold oC; simp [h1, hf]
        rw [e2]
        refine implAlong n d _ #[] (dg n d) w h1 K hf enterEx (fun i _ W _ => ?_)
        refine closEx _ _ _ W (orb_ok h1 i) ?_
        unfold dg
        split <;> rfl)
  generalize (sqA n d (dg n d)).1 = X at *
  generalize (sqA n d (dg n d)).2 = Y at *
  generalize oC n d = C at *
  go_enter Try.func142, Try.ntmps142
  go_wp2_with fail
  refine (HA.out _).mono ?_
  rintro e w1 ⟨rfl, hb1⟩
  have hz1 : w.heap.size + 1 < w1.heap.size := by have := hb1.size; simp at this; omega
  have q0 : w1.cell? ⟨w.heap.size + 1, 0, none⟩ = some (.string ⟨#[]⟩) := cellThru hb1 (by simp) (by simp [go_sem])
  have q1 : w1.cell? ⟨w.heap.size + 1, 1, none⟩ = some (.string ⟨#[]⟩) := cellThru hb1 (by simp) (by simp [go_sem])
  have g0 : w1.frozen? ⟨w.heap.size + 1, 0, none⟩ = false := frozThru hb1 (by simp) (by simp [go_sem])
  have g1 : w1.frozen? ⟨w.heap.size + 1, 1, none⟩ = false := frozThru hb1 (by simp) (by simp [go_sem])
  go_wp2
  refine bodyPost_ret (v := .tuple #[sqV X Y, .int .i64 C]) (by simp [results, Try.results142, go_sem, sqV, q0, q1]) rfl ⟨rfl, ?_⟩
  (repeat' (first | (with_reducible exact Below.refl _ _) | (with_reducible assumption) | (with_reducible refine belowNext ?_ (by with_reducible assumption)) | (with_reducible refine belowAlloc ?_ _) | (with_reducible refine Below.drew ?_) | (with_reducible refine below_drewN ?_ _) | (with_reducible refine Below.setCell ?_ ?_ _) | go_size | (with_reducible refine sizeOf' ?_) | (with_reducible refine sizeAdd ?_) | (dsimp only; first | (with_reducible refine sizeOf' ?_) | (with_reducible refine sizeAdd ?_))))

end Go.Proofs.Ytdmppdfncbljoaa

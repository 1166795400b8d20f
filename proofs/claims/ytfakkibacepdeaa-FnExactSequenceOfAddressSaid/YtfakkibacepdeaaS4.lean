/-
  Contracts: the letters along an orbit (the program's), for any function of letters.
-/
import Derived.Test.YtfakkibacepdeaaS3
import Derived.Test.YtfakkibacepdeaaW24
import Derived.Test.YtfakkibacepdeaaW25
import Derived.StillTailTactics
namespace Go.Proofs.Ytfakkibacepdeaa
open Go.RowKit

/-- The letters with the numbers a, a + 1, .. (c of them). -/
def lw (L : Nat → UInt8) (a c : Nat) : Wd := (List.range c).map fun j => L (a + j)
theorem lw_len (L : Nat → UInt8) (a c : Nat) : (lw L a c).length = c := by simp [lw]
theorem lw_at (L : Nat → UInt8) (a c : Nat) {j : Nat} (h : j < c) : (lw L a c).getD j 0 = L (a + j) := by
  simp [lw, List.getElem?_range h]
theorem lw_succ (L : Nat → UInt8) (a c : Nat) : lw L a (c + 1) = lw L a c ++ [L (a + c)] := by
  simp [lw, List.range_succ]
def nums (x : Wd) : List Int := x.map fun c => (c.toNat : Int)
theorem nums_str (x : Wd) : strOfNums (nums x) = bs x := by
  unfold strOfNums nums bs
  congr 2
  rw [List.map_map]
  conv => rhs; rw [← List.map_id x]
  apply List.map_congr_left
  intro a _
  simp
theorem nums_at (x : Wd) (i : Nat) : (nums x).getD i 0 = ((x.getD i 0).toNat : Int) := by
  simp [nums]
  cases x[i]? <;> simp

/-- The bytes of a row are these letters. -/
theorem bytesAre (x : Wd) (W : World) (g off : Nat) (c : Nat) (n : Nat) (hn : x.length = n) (h : ∀ i, i < n → W.cell? ⟨g, off + i, none⟩ = some (.int .u8 ((x.getD i 0).toNat : Int))) :
    (convert 22 9 (.slice (some ⟨g, off, none⟩) n c)).run Try.prog W = .ok (.string (bs x)) W := by
  have := run_convert_bytes_arg (P := Try.prog) W 22 5 Try.underlying22 Try.underlying5 g off n c (nums x) (by simp [nums, hn]) (fun i hi => by rw [nums_at]; exact h i hi) 9 Try.underlying9
  rw [this, nums_str]

theorem rowTo (g k P : Nat) (hP : P ≤ k) (W : World) : (Instr.slice 22 (.slice (some ⟨g, 0, none⟩) k k) none (some (.int .i64 (P : Int))) none).run Try.prog W = .ok (.slice (some ⟨g, 0, none⟩) P k) W := by
  have h : (P : Int) ≤ (k : Int) := by omega
  simp [go_sem, h]
theorem rowFrom (g k P : Nat) (hP : P < k) (W : World) : (Instr.slice 22 (.slice (some ⟨g, 0, none⟩) k k) (some (.int .i64 (P : Int))) none none).run Try.prog W = .ok (.slice (some ⟨g, P, none⟩) (k - P) (k - P)) W := by
  have h : (P : Int) ≤ (k : Int) := by omega
  have h2 : ¬ k = P := by omega
  simp [go_sem, h, h2]

structure AlongSt (w : World) (p : Int × Int) (gb K g : Nat) (L : Nat → UInt8) (k : Nat) (W : World) : Prop where
  below : Below w.heap.size w W
  gb1 : w.heap.size + 2 ≤ gb
  gb2 : gb < g
  g2 : g < W.heap.size
  orbit : ∀ i, i < K → W.cell? ⟨gb, i * 2, none⟩ = some (.int .i64 (orb p i).1) ∧ W.cell? ⟨gb, i * 2 + 1, none⟩ = some (.int .i64 (orb p i).2)
  bytes : ∀ i, i < K → W.cell? ⟨g, i, none⟩ = some (.int .u8 (if i < k then ((L i).toNat : Int) else 0)) ∧ W.frozen? ⟨g, i, none⟩ = false
  r0 : W.cell? ⟨w.heap.size + 1, 0, none⟩ = some (.string ⟨#[]⟩)
  r1 : W.cell? ⟨w.heap.size + 1, 1, none⟩ = some (.string ⟨#[]⟩)
  f0 : W.frozen? ⟨w.heap.size + 1, 0, none⟩ = false
  f1 : W.frozen? ⟨w.heap.size + 1, 1, none⟩ = false
theorem AlongSt.next {w : World} {p : Int × Int} {gb K g : Nat} {L : Nat → UInt8} {k : Nat} {W W' : World} (h : AlongSt w p gb K g L k W) (hb : Below W.heap.size W W') : AlongSt w p gb K g L k W' := by
  have h1 := h.gb1
  have h2 := h.gb2
  have h3 := h.g2
  have hz := hb.size
  refine ⟨h.below.trans (hb.mono (by omega)), h1, h2, by omega, fun i hi => ?_, fun i hi => ?_, ?_, ?_, ?_, ?_⟩
  · obtain ⟨a, b⟩ := h.orbit i hi
    exact ⟨cellThru hb (by omega) a, cellThru hb (by omega) b⟩
  · obtain ⟨a, b⟩ := h.bytes i hi
    exact ⟨cellThru hb (by omega) a, frozThru hb (by omega) b⟩
  · exact cellThru hb (by omega) h.r0
  · exact cellThru hb (by omega) h.r1
  · exact frozThru hb (by omega) h.f0
  · exact frozThru hb (by omega) h.f1
theorem setCell_other {W : World} {q p : Addr} {v : Value} (h : q.block ≠ p.block) : (W.setCell p v).cell? q = W.cell? q ∧ (W.setCell p v).frozen? q = W.frozen? q := by
  have e : (W.setCell p v).heap[q.block]? = W.heap[q.block]? := Below.heap_setCell _ _ _ _ h
  exact ⟨World.cell?_of_block e, World.frozen?_of_block e⟩
theorem AlongSt.put {w : World} {p : Int × Int} {gb K g : Nat} {L : Nat → UInt8} {k : Nat} {W : World} (h : AlongSt w p gb K g L k W) (hk : k < K) : AlongSt w p gb K g L (k + 1) (W.setCell ⟨g, k, none⟩ (.int .u8 ((L k).toNat : Int))) := by
  have h1 := h.gb1
  have h2 := h.gb2
  have h3 := h.g2
  refine ⟨h.below.setCell (by simp; omega) _, h1, h2, by simpa using h3, fun i hi => ?_, fun i hi => ?_, ?_, ?_, ?_, ?_⟩
  · obtain ⟨a, b⟩ := h.orbit i hi
    exact ⟨(setCell_other (by simp; omega)).1.trans a, (setCell_other (by simp; omega)).1.trans b⟩
  · by_cases e : i = k
    · subst e
      obtain ⟨a, b⟩ := h.bytes i hi
      refine ⟨?_, ?_⟩
      · simp [go_sem, a]
      · simpa [go_sem] using b
    · obtain ⟨a, b⟩ := h.bytes i hi
      refine ⟨?_, ?_⟩
      · have : (W.setCell ⟨g, k, none⟩ (.int .u8 ((L k).toNat : Int))).cell? ⟨g, i, none⟩ = W.cell? ⟨g, i, none⟩ := by
          have _e' : k ≠ i := fun h => e h.symm
          simp [go_sem]
        rw [this, a]
        have : (i < k + 1) = (i < k) := by simp; omega
        simp only [this]
      · simpa [go_sem] using b
  · exact (setCell_other (by simp; omega)).1.trans h.r0
  · exact (setCell_other (by simp; omega)).1.trans h.r1
  · exact (setCell_other (by simp; omega)).2.trans h.f0
  · exact (setCell_other (by simp; omega)).2.trans h.f1
theorem made0 (n i : Nat) (h : i < n) : (madeCells (Value.int .u8 0).cells (n * 1)).toList[i]? = some (.int .u8 0) := by
  simp [madeCells, Value.cells, h, Nat.mod_one]
theorem infoB : (Try.prog.info? 5).map (fun i => (i.zero, i.size, i.bytes)) = some (some (.int .u8 0), 1, 1) := by kernel_rfl

/-- What the sequence along an orbit is. -/
def sqA (n d : Int) (L : Nat → UInt8) : Wd × Wd := if isAng n d then (match findOrb (n, d) 65 0 with | some k => canon (lw L 0 (pre (n, d))) (lw L (pre (n, d)) (k - pre (n, d))) | none => ([], [])) else ([], [])

end Go.Proofs.Ytfakkibacepdeaa

/-
  A leaf as an argument of a law: opened and shut.
-/
import Derived.Test.YtdmppdfncbljoaaProg
import Derived.WalkKit
import Derived.ProofKit
import Derived.OpenShut
import Derived.Lib.SmallJoins
import Derived.ChangeOld
namespace Go.Proofs.Ytdmppdfncbljoaa
open Go.ChangeShapes Go.WideShapes Go.ChangeAt Go.RowKit Go.Joins

theorem cellsLfA : Try.prog.cellsOf 23 = 2 := by kernel_rfl
theorem cellsLf : Try.prog.cellsOf 25 = 4 := by kernel_rfl

section
variable {H : Type} {enc : TypeId × Value → H} {w : World} {base : Nat} {spare : Nat → Bool} {held : Bool}

/-- What a leaf reads as. -/
abbrev lfData (a b c e : Int) : DataW H := .agg [.agg [.lit (.int .i64 a), .lit (.int .i64 b)], .agg [.lit (.int .i64 c), .lit (.int .i64 e)]]

set_option maxRecDepth 100000 in
theorem openAngC {n : Nat} {c0 c1 : Value} {y : DataW H × List MemPlace} (h : DataW.trod enc Try.prog w base spare held n 23 [c0, c1] = some y) :
    ∃ a b : Int, c0 = .int .i64 a ∧ c1 = .int .i64 b ∧ y = (.agg [.lit (.int .i64 a), .lit (.int .i64 b)], []) ∧ (Lit.int .i64 a).wf = true ∧ (Lit.int .i64 b).wf = true := by
  obtain ⟨y0, y1, m, hx, _, h0, h1⟩ := trod_struct2 Try.underlying23 h
  have k0 : Try.prog.cellsOf 2 = 1 := by kernel_rfl
  rw [k0] at h0 h1
  obtain ⟨a, e0, rfl, wa⟩ := DataW.trod_int Try.underlying2 h0
  obtain ⟨b, e1, rfl, wb⟩ := DataW.trod_int Try.underlying2 h1
  simp at e0 e1
  exact ⟨a, b, e0, e1, hx, wa, wb⟩

set_option maxRecDepth 100000 in
theorem openLf {r : Reach} {b0 : Nat} {v : Value} {d : DataW H} {p : List MemPlace} (hv : Value.okWide Try.prog w r b0 25 v) (h : DataW.Trod enc Try.prog w base spare held 25 v d p) :
    ∃ a b c e : Int, v = .agg #[.int .i64 a, .int .i64 b, .int .i64 c, .int .i64 e] ∧ d = lfData a b c e ∧ p = [] ∧ (Lit.int .i64 a).wf = true ∧ (Lit.int .i64 b).wf = true ∧ (Lit.int .i64 c).wf = true ∧ (Lit.int .i64 e).wf = true := by
  obtain ⟨cs, rfl, hsz⟩ := okWide_struct Try.underlying25 hv
  obtain ⟨c0, c1, c2, c3, rfl⟩ := array4 (hsz.trans cellsLf)
  obtain ⟨fuel, hf⟩ := h
  obtain ⟨y0, y1, n, hx, _, h0, h1⟩ := trod_struct2 Try.underlying25 hf
  rw [cellsLfA] at h0 h1
  obtain ⟨a, b, e0, e1, rfl, wa, wb⟩ := openAngC (c0 := c0) (c1 := c1) h0
  obtain ⟨c, e, e2, e3, rfl, wc, we⟩ := openAngC (c0 := c2) (c1 := c3) h1
  subst e0 e1 e2 e3
  simp only [Prod.mk.injEq] at hx
  exact ⟨a, b, c, e, rfl, hx.1, hx.2, wa, wb, wc, we⟩

set_option maxRecDepth 100000 in
theorem shutLf {a b c e : Int} (wa : (Lit.int .i64 a).wf = true) (wb : (Lit.int .i64 b).wf = true) (wc : (Lit.int .i64 c).wf = true) (we : (Lit.int .i64 e).wf = true) :
    DataW.Trod enc Try.prog w base spare held 25 (.agg #[.int .i64 a, .int .i64 b, .int .i64 c, .int .i64 e]) (lfData a b c e) [] := by
  have k0 : Try.prog.cellsOf 2 = 1 := by kernel_rfl
  have i : ∀ x : Int, (Lit.int .i64 x).wf = true → DataW.trod enc Try.prog w base spare held 1 2 [.int .i64 x] = some (.lit (.int .i64 x), []) := fun x hx => trod_int_mk 0 Try.underlying2 hx
  have A : ∀ x y : Int, (Lit.int .i64 x).wf = true → (Lit.int .i64 y).wf = true → DataW.trod enc Try.prog w base spare held 2 23 [.int .i64 x, .int .i64 y] = some (.agg [.lit (.int .i64 x), .lit (.int .i64 y)], []) := fun x y hx hy => by
    have := trod_struct2_mk (enc := enc) (w := w) (base := base) (spare := spare) (held := held) (n := 1) (cs := [.int .i64 x, .int .i64 y]) (y0 := (.lit (.int .i64 x), [])) (y1 := (.lit (.int .i64 y), [])) Try.underlying23 (by rw [cellsLfA]; rfl)
      (by rw [k0]; exact i x hx) (by rw [k0]; exact i y hy)
    exact this
  have := trod_struct2_mk (enc := enc) (w := w) (base := base) (spare := spare) (held := held) (n := 2) (cs := [.int .i64 a, .int .i64 b, .int .i64 c, .int .i64 e]) (y0 := (.agg [.lit (.int .i64 a), .lit (.int .i64 b)], [])) (y1 := (.agg [.lit (.int .i64 c), .lit (.int .i64 e)], [])) Try.underlying25 (by rw [cellsLf]; rfl)
    (by rw [cellsLfA]; exact A a b wa wb) (by rw [cellsLfA]; exact A c e wc we)
  exact ⟨3, this⟩
end
end Go.Proofs.Ytdmppdfncbljoaa

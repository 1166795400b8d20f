/-
  Maps whose keys are ray pairs, or angles: what they hold; looked up, ranged over.
-/
import Derived.Test.YtabddjfgbhnldaaR7
import Derived.Maps.RangeWalk
import Derived.Maps.OwnSet
namespace Go.Proofs.Ytabddjfgbhnldaa
open Go.RowKit

theorem rpLt : 28 < Try.prog.types.size := of_decide_eq_true (by kernel_rfl)
theorem rpAt : Try.prog.keyTypeAt 3 28 = true := by kernel_rfl
theorem rpLaw0 : WideMaps.KeyLaw Try.prog 28 := deep_law_laid laidOut (m := 3) (by omega) rpLt rpAt (by rw [Try.underlying28])
theorem rpLaw : Maps.Keyed Try.prog 28 := Maps.Keyed.of_law rpLaw0
theorem rpKeyType : Try.prog.keyType 28 = true := by kernel_rfl
theorem rpCells : Try.prog.cellsOf 28 = 4 := by kernel_rfl
/-- The key of a pair in a map. -/
def kp (p : Lf4) : Lit := .string (keyBytes [.int .i64 p.1, .int .i64 p.2.1, .int .i64 p.2.2.1, .int .i64 p.2.2.2])
theorem kp_key (p : Lf4) : WideAt.IsKeyLit (kp p) := trivial
def wf4 (p : Lf4) : Prop := (Lit.int .i64 p.1).wf = true ∧ (Lit.int .i64 p.2.1).wf = true ∧ (Lit.int .i64 p.2.2.1).wf = true ∧ (Lit.int .i64 p.2.2.2).wf = true
theorem typesSome2 : ∃ m, Try.prog.types.size = m + 2 := ⟨Try.prog.types.size - 2, by have : 1 < Try.prog.types.size := of_decide_eq_true (by kernel_rfl); omega⟩
theorem angLits (m : Nat) (a b : Int) (ha : (Lit.int .i64 a).wf = true) (hb : (Lit.int .i64 b).wf = true) : Try.prog.keyLits (m + 2) 25 [.int .i64 a, .int .i64 b] = some [.int .i64 a, .int .i64 b] := by
  simp [Program.keyLits, Try.underlying25, Try.underlying2, angCells, intCells, ha, hb]
theorem rpKey (p : Lf4) (h : wf4 p) : keyOf Try.prog 28 (leafV p.1 p.2.1 p.2.2.1 p.2.2.2) = some (kp p) := by
  obtain ⟨m, hm⟩ := typesSome2
  obtain ⟨a, b, c, e⟩ := p
  obtain ⟨h1, h2, h3, h4⟩ := h
  dsimp only at *
  have hf : (leafV a b c e).formed Try.prog 28 = true := by simp [Value.formed, Try.underlying28, rpCells]
  have hk : Try.prog.keyLits (Try.prog.types.size + 1) 28 [.int .i64 a, .int .i64 b, .int .i64 c, .int .i64 e] = some [.int .i64 a, .int .i64 b, .int .i64 c, .int .i64 e] := by
    rw [hm]
    unfold Program.keyLits
    rw [Try.underlying28]
    simp [rpCells, angCells, angLits m a b h1 h2, angLits m c e h3 h4]
  unfold keyOf
  rw [Try.underlying28]
  simp only [rpKeyType, hf, Bool.and_self, if_true]
  rw [show (leafV a b c e).cells.toList = [.int .i64 a, .int .i64 b, .int .i64 c, .int .i64 e] from rfl, hk]
  rfl
theorem kp_inj {p q : Lf4} (hp : wf4 p) (hq : wf4 q) (e : kp p = kp q) : p = q := by
  have h1 := rpKey p hp
  have h2 := rpKey q hq
  rw [e] at h1
  have h3 := rpLaw.inj h1 h2
  simp only [Value.agg.injEq, Array.mk.injEq, List.cons.injEq, Value.int.injEq, true_and, and_true] at h3
  obtain ⟨a, b, c, d⟩ := h3
  exact Prod.ext a (Prod.ext b (Prod.ext c d))
theorem ok_wf {p : Lf4} (h : okP p = true) : wf4 p := by
  obtain ⟨r1, r2, -⟩ := isLf_yes h
  exact ⟨(red_wf r1).1, (red_wf r1).2, (red_wf r2).1, (red_wf r2).2⟩

/-- What a map of pairs reads as. -/
def putP (m : DataW Unit) (x : Lf4 × Nat) : DataW Unit := m.put (kp x.1) (.lit (.int .i64 (x.2 : Int)))
def pD (l : List (Lf4 × Nat)) : DataW Unit := l.foldl putP (.map [])
theorem pD_snoc (l : List (Lf4 × Nat)) (x : Lf4 × Nat) : pD (l ++ [x]) = (pD l).put (kp x.1) (.lit (.int .i64 (x.2 : Int))) := by simp [pD, List.foldl_append, putP]
theorem putP_has (k : Lit) : ∀ (l : List (Lf4 × Nat)) (m : DataW Unit), Maps.IsMap m → (Maps.has (l.foldl putP m) k = true ↔ Maps.has m k = true ∨ ∃ x ∈ l, kp x.1 = k)
  | [], m, _ => by simp
  | x :: l, m, hm => by
    rw [List.foldl_cons, putP_has k l (putP m x) (hm.put _ _)]
    unfold putP
    by_cases e : kp x.1 = k
    · rw [← e, Maps.has_put_same hm (kp_key _)]
      simp
    · rw [Maps.has_put_other (fun h => e h.symm)]
      simp [e]
theorem pD_has {l : List (Lf4 × Nat)} {k : Lit} : Maps.has (pD l) k = true ↔ ∃ x ∈ l, kp x.1 = k := by
  unfold pD
  rw [putP_has k l _ Maps.isMap_empty]
  simp [Maps.has_eq]
/-- What a set of joined angles reads as. -/
def putJ (A : List (Int × Int)) (m : DataW Unit) (j : Nat) : DataW Unit := m.put (kl (at_ A j)) (.lit (.bool true))
def jD (A : List (Int × Int)) (U : List Nat) : DataW Unit := U.foldl (putJ A) (.map [])
theorem jD_snoc (A : List (Int × Int)) (U : List Nat) (j : Nat) : jD A (U ++ [j]) = (jD A U).put (kl (at_ A j)) (.lit (.bool true)) := by simp [jD, List.foldl_append, putJ]
theorem putJ_at (A : List (Int × Int)) (k : Lit) (z : DataW Unit) : ∀ (U : List Nat) (m : DataW Unit), Maps.IsMap m → ((U.foldl (putJ A) m).atKey k z = .lit (.bool true) ∧ ∃ j ∈ U, kl (at_ A j) = k) ∨ ((U.foldl (putJ A) m).atKey k z = m.atKey k z ∧ ∀ j ∈ U, kl (at_ A j) ≠ k)
  | [], m, _ => .inr ⟨rfl, by simp⟩
  | x :: U, m, hm => by
    rw [List.foldl_cons]
    rcases putJ_at A k z U (putJ A m x) (hm.put _ _) with ⟨h1, j, hj, hk⟩ | ⟨h1, h2⟩
    · exact .inl ⟨h1, j, List.mem_cons_of_mem _ hj, hk⟩
    · by_cases e : kl (at_ A x) = k
      · refine .inl ⟨?_, x, List.mem_cons_self .., e⟩
        rw [h1]
        unfold putJ
        rw [e]
        exact Maps.atKey_put_same hm (e ▸ kl_key _) _ z
      · refine .inr ⟨?_, fun j hj => ?_⟩
        · rw [h1]
          unfold putJ
          exact Maps.atKey_put_other (fun h => e h.symm) _ z
        · rw [List.mem_cons] at hj
          rcases hj with rfl | hj
          · exact e
          · exact h2 j hj
theorem jD_at {N : Nat} {A : List (Int × Int)} (hA : Asc N A) {U : List Nat} (hU : ∀ j ∈ U, j < A.length) {k : Nat} (hk : k < A.length) : (jD A U).atKey (kl (at_ A k)) (.lit (.bool false)) = .lit (.bool (U.contains k)) := by
  have red : ∀ j, j < A.length → Red (at_ A j) := fun j hj => ang_red (hA.is j _ (at_some hj)).1
  unfold jD
  rcases putJ_at A (kl (at_ A k)) (.lit (.bool false)) U _ Maps.isMap_empty with ⟨h1, j, hj, e⟩ | ⟨h1, h2⟩
  · have : j = k := hA.inj (hU j hj) hk (kl_inj (red j (hU j hj)) (red k hk) e)
    subst this
    rw [h1, List.contains_iff_mem.2 hj]
  · have : U.contains k = false := by
      cases hc : U.contains k
      · rfl
      · exact absurd rfl (h2 k (List.contains_iff_mem.1 hc))
    rw [h1, this]
    rfl

theorem plainElem_bool_inv {H : Type} {P : Program} {e : TypeId} (he : P.underlying e = some .bool) {v : Value} {z : DataW H × List MemPlace} (h : plainElem P e v = some z) : ∃ b, v = .bool b ∧ z = (.lit (.bool b), []) := by
  unfold plainElem at h
  rw [he] at h
  cases v <;> simp at h
  exact ⟨_, rfl, h.symm⟩
/-- 'm[k]' in a map[K]bool. -/
theorem wpList_lookup_own_bool {H : Type} {P : Program} (w : World) {ops : Array Oper} {rest : List Oper} {o : Oper} {a : Act} {Q : Exit → Act → World → Prop}
    (hg : o.guard = none) (m x : Operand) (t : TypeId) (hop : o.op = Op.lookup t m x false)
    (k e : TypeId) (K : Maps.Keyed P k) (ht : P.underlying t = some (.map k e)) (he : P.underlying e = some .bool) (hz : (zeroValue e).run P w = .ok (.bool false) w) (b n : Nat) (D : DataW H)
    (hm : a.eval m = .map (some b)) (hown : w.ownsMap P k (plainElem P e) b n D) (key : Value) (kl : Lit) (hx : a.eval x = key) (hkey : keyOf P k key = some kl) (c : Bool) (hc : D.atKey kl (.lit (.bool false)) = .lit (.bool c))
    (hK : wpList P ops Q rest (a.put o.dst (.bool c)) w) :
    wpList P ops Q (o :: rest) a w := by
  refine wpList_plain hg fun K' hK' => ?_
  obtain ⟨v, ps, hrun, hv⟩ := hown.lookup K ht hz (plainElem_bool he false) hkey
  obtain ⟨c', rfl, hz'⟩ := plainElem_bool_inv he hv
  simp only [Prod.mk.injEq] at hz'
  rw [hc] at hz'
  have : c = c' := by simpa using hz'.1
  subst this
  unfold Oper.wp
  simp [execOp, hop, hm, hx, hrun, Result.andThen]
  exact hK' _ _ hK
/-- The step of a range over a map of pairs: nothing is left; or one of the pairs comes. -/
theorem wpList_next_pairs (w : World) {ops : Array Oper} {rest : List Oper} {o : Oper} {a : Act} {Q : Exit → Act → World → Prop} (hg : o.guard = none) (it : Operand) (hop : o.op = Op.next it false)
    (b r n : Nat) (l : List (Lf4 × Nat)) (hl : allP l) (left : Lit → Bool) (cnt : Nat)
    (hit : a.eval it = .pointer (some ⟨r, 0, none⟩)) (h : w.ranges Try.prog 28 (plainElem Try.prog 2) b r n (pD l) left cnt)
    (hDone : (∀ kl, left kl = false) → wpList Try.prog ops Q rest (a.put o.dst (.tuple #[.bool false])) w)
    (hMore : ∀ (x : Lf4 × Nat) (c : Int) (w' : World) (cnt' : Nat), x ∈ l → left (kp x.1) = true → (∀ zd, (pD l).atKey (kp x.1) zd = .lit (.int .i64 c)) → w'.ranges Try.prog 28 (plainElem Try.prog 2) b r n (pD l) (fun z => left z && !z.sameKey (kp x.1)) cnt' → cnt' < cnt →
      w.grownBy w' (some r) → w'.heap.size = w.heap.size → (Instr.entry (.pointer (some ⟨r, 0, none⟩))).run Try.prog w' = .ok (.tuple #[leafV x.1.1 x.1.2.1 x.1.2.2.1 x.1.2.2.2, .int .i64 c]) w' → wpList Try.prog ops Q rest (a.put o.dst (.tuple #[.bool true, leafV x.1.1 x.1.2.1 x.1.2.2.1 x.1.2.2.2, .int .i64 c])) w') :
    wpList Try.prog ops Q (o :: rest) a w := by
  refine wpList_plain hg fun K' hK' => ?_
  unfold Oper.wp
  rcases h.next rpLaw o.type with ⟨h0, hl0, hrun⟩ | ⟨key, v, kl0, y, w', cnt', hkey, hlk, hv, hat, hrun, hrg, hlt, hgr, hsz, hen⟩
  · simp [execOp, hop, hit, hrun, Result.andThen]
    exact hK' _ _ (hDone hl0)
  · have hhas := Maps.has_true_of_atKey hat
    obtain ⟨x, hx, rfl⟩ := pD_has.1 hhas
    obtain rfl := rpLaw.inj hkey (rpKey x.1 (ok_wf (hl x hx)))
    obtain ⟨c, rfl, rfl, _⟩ := plainElem_int_inv Try.underlying2 hv
    simp [execOp, hop, hit, hrun, Result.andThen]
    exact hK' _ _ (hMore x c w' cnt' hx hlk hat hrg hlt hgr hsz hen)
end Go.Proofs.Ytabddjfgbhnldaa

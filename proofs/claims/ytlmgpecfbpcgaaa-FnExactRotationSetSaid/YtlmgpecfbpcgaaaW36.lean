/-
  Contracts: SortAngles, on the program's side.
-/
import Derived.Test.YtlmgpecfbpcgaaaW35
import Derived.Deep.LoopGhost
namespace Go.Proofs.Ytlmgpecfbpcgaaa
open Go.RowKit

theorem zeroBoolS (w : World) : (zeroValue 4).run Try.prog w = .ok (.bool false) w := by kernel_rfl
theorem plainElem_boolS {H : Type} {P : Program} {e : TypeId} (he : P.underlying e = some .bool) {v : Value} {z : DataW H × List MemPlace} (h : plainElem P e v = some z) : ∃ b, v = .bool b ∧ z = (.lit (.bool b), []) := by
  unfold plainElem at h
  rw [he] at h
  cases v <;> simp at h
  exact ⟨_, rfl, h.symm⟩
/-- 'm[k]' in a map[K]bool. -/
theorem wpList_lookup_own_boolS {H : Type} {P : Program} (w : World) {ops : Array Oper} {rest : List Oper} {o : Oper} {a : Act} {Q : Exit → Act → World → Prop}
    (hg : o.guard = none) (m x : Operand) (t : TypeId) (hop : o.op = Op.lookup t m x false)
    (k e : TypeId) (K : Maps.Keyed P k) (ht : P.underlying t = some (.map k e)) (he : P.underlying e = some .bool) (hz : (zeroValue e).run P w = .ok (.bool false) w) (b n : Nat) (D : DataW H)
    (hm : a.eval m = .map (some b)) (hown : w.ownsMap P k (plainElem P e) b n D) (key : Value) (kl : Lit) (hx : a.eval x = key) (hkey : keyOf P k key = some kl) (c : Bool) (hc : D.atKey kl (.lit (.bool false)) = .lit (.bool c))
    (hK : wpList P ops Q rest (a.put o.dst (.bool c)) w) :
    wpList P ops Q (o :: rest) a w := by
  refine wpList_plain hg fun K' hK' => ?_
  obtain ⟨v, ps, hrun, hv⟩ := hown.lookup K ht hz (plainElem_bool he false) hkey
  obtain ⟨c', rfl, hz'⟩ := plainElem_boolS he hv
  simp only [Prod.mk.injEq] at hz'
  rw [hc] at hz'
  have : c = c' := by simpa using hz'.1
  subst this
  unfold Oper.wp
  simp [execOp, hop, hm, hx, hrun, Result.andThen]
  exact hK' _ _ hK

/-- What the map of seen angles reads as. -/
def putS (m : DataW Unit) (p : Int × Int) : DataW Unit := m.put (kl p) (.lit (.bool true))
def sD (O : List (Int × Int)) : DataW Unit := O.foldl putS (.map [])
theorem sD_snoc (O : List (Int × Int)) (p : Int × Int) : sD (O ++ [p]) = (sD O).put (kl p) (.lit (.bool true)) := by simp [sD, List.foldl_append, putS]
theorem putS_at (k : Lit) (z : DataW Unit) : ∀ (O : List (Int × Int)) (m : DataW Unit), Maps.IsMap m → ((O.foldl putS m).atKey k z = .lit (.bool true) ∧ ∃ p ∈ O, kl p = k) ∨ ((O.foldl putS m).atKey k z = m.atKey k z ∧ ∀ p ∈ O, kl p ≠ k)
  | [], m, _ => .inr ⟨rfl, by simp⟩
  | x :: O, m, hm => by
    rw [List.foldl_cons]
    rcases putS_at k z O (putS m x) (hm.put _ _) with ⟨h1, j, hj, hk⟩ | ⟨h1, h2⟩
    · exact .inl ⟨h1, j, List.mem_cons_of_mem _ hj, hk⟩
    · by_cases e : kl x = k
      · refine .inl ⟨?_, x, List.mem_cons_self .., e⟩
        rw [h1]
        unfold putS
        rw [e]
        exact Maps.atKey_put_same hm (e ▸ kl_key _) _ z
      · refine .inr ⟨?_, fun j hj => ?_⟩
        · rw [h1]
          unfold putS
          exact Maps.atKey_put_other (fun h => e h.symm) _ z
        · rw [List.mem_cons] at hj
          rcases hj with rfl | hj
          · exact e
          · exact h2 j hj
theorem sD_at {O : List (Int × Int)} (hO : ∀ q ∈ O, isAng q.1 q.2 = true) {p : Int × Int} (hp : isAng p.1 p.2 = true) : (sD O).atKey (kl p) (.lit (.bool false)) = .lit (.bool (decide (p ∈ O))) := by
  unfold sD
  rcases putS_at (kl p) (.lit (.bool false)) O _ Maps.isMap_empty with ⟨h1, j, hj, e⟩ | ⟨h1, h2⟩
  · have : j = p := kl_injS (isAng_yes (hO j hj)) (isAng_yes hp) e
    subst this
    rw [h1, decide_eq_true hj]
  · rw [h1, decide_eq_false (fun h => h2 p h rfl)]
    rfl

/-- What holds when k angles have been looked at: O: those that were new; J: the block of the map. -/
structure SeenI (w : World) (J : Nat) (l : List (Int × Int)) (k : Nat) (O : List (Int × Int)) (v : Value) (W : World) : Prop where
  le : O.length ≤ k
  nd : O.Nodup
  mem : ∀ q, q ∈ O ↔ q ∈ l.take k
  own : W.ownsRow (J + 1) 24 2 v O.length (flatA O)
  mp : W.ownsMap Try.prog 24 (plainElem Try.prog 4) J O.length (sD O)
  B : Below w.heap.size w W
  lo : w.heap.size ≤ J
theorem cell_two_new (w : World) (a b : Value) (t : TypeId) : ∀ j u, [a, b][j]? = some u → (w.alloc (.cells #[a, b] t)).cell? ((⟨w.heap.size, 0, none⟩ : Addr).add j) = some u := by
  intro j u hj
  match j, hj with
  | 0, hj => simp at hj; subst hj; simp [Addr.add]
  | 1, hj => simp at hj; subst hj; simp [Addr.add]
theorem AngOwn.loS {w : World} {lo lo' : Nat} {A : Option Addr} {l : List (Int × Int)} (h : AngOwn w lo A l) (hl : lo' ≤ lo) : AngOwn w lo' A l := by
  intro hn
  obtain ⟨b, off, e, h1, h2, hc⟩ := h hn
  exact ⟨b, off, e, Nat.le_trans hl h1, h2, hc⟩
theorem cellGS {W W' : World} {row : Option Nat} (hg : W.grownBy W' row) {b o : Nat} {v : Value} (hlt : b < W.heap.size) (hne : some b ≠ row) (hc : W.cell? ⟨b, o, none⟩ = some v) : W'.cell? ⟨b, o, none⟩ = some v :=
  (World.cell?_of_block (hg.block b hlt hne)).trans hc
theorem ownNone {w : World} {lo : Nat} {e : TypeId} {k : Nat} : w.ownsRow lo e k (.slice none 0 0) 0 [] := ⟨by simp, .inl ⟨rfl, rfl⟩⟩

end Go.Proofs.Ytlmgpecfbpcgaaa

/-
  Contracts: the orbit and the preperiod, as the program gathers them; orbits; periods.
-/
import Derived.Test.YtnciiodgkanpjaaW23
import Derived.Test.YtnciiodgkanpjaaWO
namespace Go.Proofs.Ytnciiodgkanpjaa
open Go.RowKit Go.Shelf
attribute [local go_sem] Oper.semAt_some

/-- What the program's orbit answers. -/
def ResOap (w : World) (p : Int × Int) (e : Ending) (w' : World) : Prop :=
  match findOrb p 65 0 with
  | some k => ∃ A cap, e = .returned (.tuple #[.slice A k cap, .int .i64 (pre p : Int), .int .i64 0]) ∧ w'.ownsRow w.heap.size 25 2 (.slice A k cap) k (flat p k) ∧ Below w.heap.size w w'
  | none => e = .returned (.tuple #[.slice none 0 0, .int .i64 0, .int .i64 3]) ∧ Below w.heap.size w w'

set_option maxHeartbeats 1000000 in
theorem dblMake (n d : Int) (w : World) :
    Calls Try.prog 84 #[ang n d] w fun e w' => e = .returned (.func (.func 99) #[] #[.pointer (some ⟨w.heap.size, 0, none⟩)]) ∧ w.alloc (.cells #[.int .i64 n, .int .i64 d] 25) = w' := by
  go_enter Try.func84, Try.ntmps84
  go_wp2
  go_ret
  exact ⟨rfl, rfl⟩

set_option maxHeartbeats 1000000 in
theorem implOap0 (n d : Int) (w : World) (h : isAng n d = false) :
    Calls Try.prog 53 #[ang n d] w fun e w' => e = .returned (.tuple #[.slice none 0 0, .int .i64 0, .int .i64 1]) ∧ Below w.heap.size w w' := by
  have HS := Lib.hid (fun w => implIs n d w)
  rw [h] at HS
  clear h
  go_enter Try.func53, Try.ntmps53
  go_wp2_with fail
  refine (HS.out _).mono ?_
  rintro e w1 ⟨rfl, hb1⟩
  obtain ⟨hc1, hf1⟩ := bcell hb1
  have hz1 : w.heap.size + 1 + 1 + 1 < w1.heap.size := by have := hb1.size; simp at this; omega
  have k1 : w1.cell? ⟨w.heap.size + 1, 0, none⟩ = some (.slice none 0 0) := cellThru hb1 (by simp) (by simp [go_sem])
  have k2 : w1.cell? ⟨w.heap.size + 1 + 1, 0, none⟩ = some (.int .i64 0) := cellThru hb1 (by simp) (by simp [go_sem])
  have k3 : w1.cell? ⟨w.heap.size + 1 + 1 + 1, 0, none⟩ = some (.int .i64 0) := cellThru hb1 (by simp) (by simp [go_sem])
  go_wp2
  refine bodyPost_ret (v := .tuple #[.slice none 0 0, .int .i64 0, .int .i64 1]) ?_ rfl ⟨rfl, ?_⟩
  · have q1 := World.cell?_setCell_same (w := w1) (a := ⟨w.heap.size + 1, 0, none⟩) (v := .slice none 0 0) k1
    have q2 : ((w1.setCell ⟨w.heap.size + 1, 0, none⟩ (.slice none 0 0)).setCell ⟨w.heap.size + 1 + 1, 0, none⟩ (.int .i64 0)).cell? ⟨w.heap.size + 1 + 1, 0, none⟩ = some (.int .i64 0) :=
      World.cell?_setCell_same _ _ _ (by rw [World.cell?_setCell_other _ _ _ _ (by simp)]; exact k2)
    simp [results, Try.results53, go_sem, q1, q2, k3]
  · (repeat' (first | (with_reducible exact Below.refl _ _) | (with_reducible assumption) | (with_reducible refine belowNext ?_ (by with_reducible assumption)) | (with_reducible refine belowAlloc ?_ _) | (with_reducible refine Below.drew ?_) | (with_reducible refine below_drewN ?_ _) | (with_reducible refine Below.setCell ?_ ?_ _) | go_size | (with_reducible refine sizeOf' ?_) | (with_reducible refine sizeAdd ?_) | (dsimp only; first | (with_reducible refine sizeOf' ?_) | (with_reducible refine sizeAdd ?_))))

set_option maxRecDepth 100000 in
set_option maxHeartbeats 4000000 in
theorem implOap (n d : Int) (w : World) (h : isAng n d = true) : Calls Try.prog 53 #[ang n d] w (ResOap w (n, d)) := by
  have HP := Lib.hid (ang_red h)
  have HS := Lib.hid (fun w => implIs n d w)
  rw [h] at HS
  clear h
  have hmm := @run_makeMap Try.prog
  refine (callsIn_wide (n := 9)).1 ?_
  refine callsIn_of_wp_marks Try.func53 rfl trivial ?_ rfl
  simp only [Try.ntmps53, List.size_toArray, List.length_cons, List.length_nil, Nat.reduceAdd, Nat.reduceSub, Array.replicate_succ, Array.replicate_zero, List.push_toArray, List.append_toArray, List.nil_append, List.cons_append]
  gi_wp2_with fail
  refine ⟨trivial, callsIn_wide.2 ((HS.out _).mono ?_)⟩
  rintro e w1 ⟨rfl, hb1⟩
  have z0 : w.heap.size < w1.heap.size := by have := hb1.size; simp at this; omega
  have z3 : w.heap.size + 1 + 1 + 1 < w1.heap.size := by have := hb1.size; simp at this; omega
  have c0 : w1.cell? ⟨w.heap.size, 0, none⟩ = some (.int .i64 n) := cellThru hb1 (by simp <;> omega) (by simp [go_sem])
  have c1 : w1.cell? ⟨w.heap.size, 1, none⟩ = some (.int .i64 d) := cellThru hb1 (by simp <;> omega) (by simp [go_sem])
  have r0 : Boxed w1 (w.heap.size + 1) 27 (.slice none 0 0) := by
    have := ((Boxed.new (w.alloc (.cells #[.int .i64 n, .int .i64 d] 25)) 27 (.slice none 0 0)).alloc (.cells #[.int .i64 0] 2)).alloc (.cells #[.int .i64 0] 2)
    rw [World.size_alloc] at this
    exact (hb1.block _ (by simp)).trans this
  have r1 : Boxed w1 (w.heap.size + 1 + 1) 2 (.int .i64 0) := by
    have := (Boxed.new ((w.alloc (.cells #[.int .i64 n, .int .i64 d] 25)).alloc (.cells #[.slice none 0 0] 27)) 2 (.int .i64 0)).alloc (.cells #[.int .i64 0] 2)
    rw [World.size_alloc, World.size_alloc] at this
    exact (hb1.block _ (by simp)).trans this
  have r2 : Boxed w1 (w.heap.size + 1 + 1 + 1) 2 (.int .i64 0) := by
    have := Boxed.new (((w.alloc (.cells #[.int .i64 n, .int .i64 d] 25)).alloc (.cells #[.slice none 0 0] 27)).alloc (.cells #[.int .i64 0] 2)) 2 (.int .i64 0)
    rw [World.size_alloc, World.size_alloc, World.size_alloc] at this
    exact (hb1.block _ (by simp)).trans this
  have B1 : Below w.heap.size w w1 := by
    (repeat' (first | (with_reducible exact Below.refl _ _) | (with_reducible assumption) | (with_reducible refine belowNext ?_ (by with_reducible assumption)) | (with_reducible refine belowAlloc ?_ _) | (with_reducible refine Below.drew ?_) | (with_reducible refine below_drewN ?_ _) | (with_reducible refine Below.setCell ?_ ?_ _) | go_size | (with_reducible refine sizeOf' ?_) | (with_reducible refine sizeAdd ?_) | (dsimp only; first | (with_reducible refine sizeOf' ?_) | (with_reducible refine sizeAdd ?_))))
  have HR := Lib.hid (And.intro r0 (And.intro r1 (And.intro r2 B1)))
  have up4 : ∀ (W : World) (o1 o2 o3 o4 : Obj), Below W.heap.size W ((((W.alloc o1).alloc o2).alloc o3).alloc o4) := fun W o1 o2 o3 o4 =>
    ((((Below.refl _ W).alloc (Nat.le_refl _) o1).alloc (by simp) o2).alloc (by simp; omega) o3).alloc (by simp; omega) o4
  have cc0 : ∀ o1 o2 o3 o4, ((((w1.alloc o1).alloc o2).alloc o3).alloc o4).cell? ⟨w.heap.size, 0, none⟩ = some (.int .i64 n) := fun o1 o2 o3 o4 => cellThru (up4 w1 o1 o2 o3 o4) z0 c0
  have cc1 : ∀ o1 o2 o3 o4, ((((w1.alloc o1).alloc o2).alloc o3).alloc o4).cell? ⟨w.heap.size, 1, none⟩ = some (.int .i64 d) := fun o1 o2 o3 o4 => cellThru (up4 w1 o1 o2 o3 o4) z0 c1
  clear r0 r1 r2 B1 hb1 up4
  gi_wp2_with fail
  refine ⟨trivial, callsIn_wide.2 ((dblMake _ _ _).mono ?_)⟩
  rintro e w2 ⟨rfl, rfl⟩
  gi_wp2
  obtain ⟨s, hs⟩ : ∃ s, w1.heap.size = s := ⟨_, rfl⟩
  rw [hs] at z0 z3 ⊢
  obtain ⟨wl, hwl⟩ : ∃ wl, (((((w1.alloc (.cells #[.slice none 0 0] 27)).alloc (.cells #[.int .i64 0] 2)).alloc (.map #[] 0)).alloc (.cells #[.map (some (s + 1 + 1))] 91)).alloc (.cells #[.int .i64 n, .int .i64 d] 25)) = wl := ⟨_, rfl⟩
  have hsz : wl.heap.size = s + 1 + 1 + 1 + 1 + 1 := by rw [← hwl]; simp [hs]
  have start : OrbI w (n, d) s 0 wl := by
    obtain ⟨r0, r1, r2, B1⟩ := HR.out
    rw [← hwl]
    refine ⟨by omega, fun i j h1 h2 => by omega, ⟨.slice none 0 0, ?_, World.ownsRow_nil _ _ _ _⟩, ?_, ?_, ?_, ((((r0.alloc _).alloc _).alloc _).alloc _).alloc _, ((((r1.alloc _).alloc _).alloc _).alloc _).alloc _, ((((r2.alloc _).alloc _).alloc _).alloc _).alloc _, ?_⟩
    · have := Boxed.new w1 27 (.slice none 0 0)
      rw [hs] at this
      exact (((this.alloc _).alloc _).alloc _).alloc _
    · have := Boxed.new (w1.alloc (.cells #[.slice none 0 0] 27)) 2 (.int .i64 0)
      rw [World.size_alloc, hs] at this
      exact ((this.alloc _).alloc _).alloc _
    · have := World.ownsMap_made (H := Unit) ((w1.alloc (.cells #[.slice none 0 0] 27)).alloc (.cells #[.int .i64 0] 2)) Try.prog 25 (plainElem Try.prog 2)
      rw [World.size_alloc, World.size_alloc, hs] at this
      exact (this.alloc _).alloc _
    · have := Boxed.new (((w1.alloc (.cells #[.slice none 0 0] 27)).alloc (.cells #[.int .i64 0] 2)).alloc (.map #[] 0)) 91 (.map (some (s + 1 + 1)))
      rw [World.size_alloc, World.size_alloc, World.size_alloc, hs] at this
      exact this.alloc _
    · (repeat' (first | (with_reducible exact Below.refl _ _) | (with_reducible assumption) | (with_reducible refine belowNext ?_ (by with_reducible assumption)) | (with_reducible refine belowAlloc ?_ _) | (with_reducible refine Below.drew ?_) | (with_reducible refine below_drewN ?_ _) | (with_reducible refine Below.setCell ?_ ?_ _) | go_size | (with_reducible refine sizeOf' ?_) | (with_reducible refine sizeAdd ?_) | (dsimp only; first | (with_reducible refine sizeOf' ?_) | (with_reducible refine sizeAdd ?_))))
  have x0 : wl.cell? ⟨s + 1 + 1 + 1 + 1, 0, none⟩ = some (.int .i64 n) := by rw [← hwl, ← hs]; simp [go_sem]
  have x1 : wl.cell? ⟨s + 1 + 1 + 1 + 1, 1, none⟩ = some (.int .i64 d) := by rw [← hwl, ← hs]; simp [go_sem]
  rw [hwl]
  clear hwl HR cc0 cc1 c0 c1 hmm
  obtain ⟨i0, hi, hz0, hz1, hz2⟩ := info_parts infoA
  refine wpIn_till (by omega) (gf := 99) (lb := #[.pointer (some ⟨s + 1 + 1 + 1 + 1, 0, none⟩)]) rfl (enters_of Try.func99 (by kernel_rfl) rfl) (dblSeq 8 (n, d) HP.out (s + 1 + 1 + 1 + 1) 65 wl (by omega) x0 x1) (Below.refl _ _) (fun _ => rfl)
    (rowOf s) (OrbI w (n, d) s) (OrbX w (n, d) s) (OrbI.own w (n, d) s _ (by omega) (by omega)) (OrbX.own w (n, d) s _ (by omega)) (fun k X h => by have := h.le; omega) (fun k X r h => h.row) start
    (fun k a' W => ∃ g, wl.heap.size ≤ g ∧ W.heap[g]? = some (.cells #[.int .i64 (orb (n, d) k).1, .int .i64 (orb (n, d) k).2] 25 (0, 0)) ∧ a' = { tmps := #[ang n d, .pointer (some ⟨w.heap.size, 0, none⟩), .pointer (some ⟨w.heap.size + 1, 0, none⟩), .pointer (some ⟨w.heap.size + 1 + 1, 0, none⟩), .pointer (some ⟨w.heap.size + 1 + 1 + 1, 0, none⟩), .pointer (some ⟨s, 0, none⟩), .pointer (some ⟨s + 1, 0, none⟩), .pointer (some ⟨s + 1 + 1 + 1, 0, none⟩), .pointer (some ⟨g, 0, none⟩), undef, undef, .agg #[.int .i64 n, .int .i64 d], .bool true, .bool false, .map (some (s + 1 + 1)), .agg #[.int .i64 n, .int .i64 d], .func (.func 99) #[] #[.pointer (some ⟨s + 1 + 1 + 1 + 1, 0, none⟩)], ang (orb (n, d) k).1 (orb (n, d) k).2, undef, undef, undef, undef, undef, undef, undef, undef, undef, undef, undef, undef, undef, undef, undef, undef, undef, undef, undef, undef, undef], defers := [] })
    ?hAx ?assign ?body ?done ?stop
  case hAx =>
    rintro k a' - X Y r ⟨g, hg, hx, ha⟩ gr hr
    refine ⟨g, hg, (gr.block g (Array.getElem?_eq_some_iff.1 hx).1 (fun e => ?_)).trans hx, ha⟩
    obtain ⟨_, o, ho, hc⟩ := hr g e.symm
    rw [hx] at ho; cases ho; cases hc
  case assign =>
    intro l k W K hsW hI hm hK
    gi_wp2
    exact hK _ _ (World.grownBy_alloc _ _ _) ⟨W.heap.size, hsW, World.alloc_heap_new _ _, rfl⟩
  case body =>
    rintro l k a' W hl hI hm ⟨g, hg, hx, rfl⟩
    obtain ⟨v, hv, hrow⟩ := hI.list
    have hrd := orb_red HP.out k
    have hkey := angKey (orb (n, d) k).1 (orb (n, d) k).2 (red_wf hrd).1 (red_wf hrd).2
    have hinj : ∀ i, kl (orb (n, d) i) = kl (orb (n, d) k) → orb (n, d) i = orb (n, d) k := fun i => kl_inj (orb_red HP.out i) hrd
    have g0 : W.cell? ⟨g, 0, none⟩ = some (.int .i64 (orb (n, d) k).1) := by simp [World.cell?, hx]
    have g1 : W.cell? ⟨g, 1, none⟩ = some (.int .i64 (orb (n, d) k).2) := by simp [World.cell?, hx]
    have e7 := hI.box.cell
    have e5 := hv.cell
    have e6 := hI.pre.cell
    have f6 := hI.pre.frozen
    have hown := hI.map
    have hle := hI.le
    by_cases hmet : ∃ i, i < k ∧ orb (n, d) i = orb (n, d) k
    · obtain ⟨i, hik, hio⟩ := hmet
      obtain ⟨hip, hfind⟩ := met_again HP.out hik hio hI.apart hle
      obtain ⟨hhas, hatk⟩ := mapD_yes hinj hio k hik (fun j hj hjo => by
        rcases Nat.lt_trichotomy j i with h | h | h
        · exact absurd (hjo.trans hio.symm) (hI.apart j i h hik)
        · exact h
        · exact absurd (hio.trans hjo.symm) (hI.apart i j h hj))
      have HX := Lib.hid (And.intro hatk (And.intro hip hfind))
      have HI := Lib.hid hI
      clear hatk hip hfind hI hinj hrd hio
      generalize orb (n, d) k = o at *
      obtain ⟨x, y⟩ := o
      dsimp only at *
      gi_wp2_with (gi_at_lookup; refine wpListIn_lookup_own_ok_int _ rfl _ _ 91 rfl 25 2 .i64 angLaw Try.underlying91 Try.underlying2 (Try.zeroValue2 _) (s + 1 + 1) k _ rfl hown _ _ rfl hkey ?_; intro c hat hwc)
      have hc : c = (pre (n, d) : Int) := by
        have := (HX.out.1 _).symm.trans hat
        simp only [DataW.lit.injEq, Lit.int.injEq, true_and] at this
        rw [← this, HX.out.2.1]
      exact orb_met HI.out hv hrow (by omega) HX.out.2.2 hc _ (by omega) _ (fun _ h => h)
    · have hno : ∀ i, i < k → orb (n, d) i ≠ orb (n, d) k := fun i hi e => hmet ⟨i, hi, e⟩
      have hhas := mapD_no hinj k hno
      have hap := apart_next hI.apart hmet
      have HI := Lib.hid hI
      have HAp := Lib.hid hap
      obtain ⟨A, cap, hvA⟩ : ∃ A cap, v = .slice A k cap := by
        rcases hrow.2 with ⟨rfl, h0⟩ | ⟨g', cap', cur, hv', _⟩
        · exact ⟨none, 0, by rw [h0]⟩
        · exact ⟨_, _, hv'⟩
      subst hvA
      by_cases hk : k = 64
      · subst hk
        have HF := Lib.hid (apart_far hap)
        have q0 := hI.r0.cell
        have q1 := hI.r1.cell
        have q2 := hI.r2.cell
        have p0 := hI.r0.frozen
        have p1 := hI.r1.frozen
        have p2 := hI.r2.frozen
        clear hmet hno hap hinj hI hrd
        generalize orb (n, d) 64 = o at *
        obtain ⟨x, y⟩ := o
        dsimp only at *
        gi_wp2_with (gi_at_lookup; refine wpListIn_lookup_own_ok_int _ rfl _ _ 91 rfl 25 2 .i64 angLaw Try.underlying91 Try.underlying2 (Try.zeroValue2 _) (s + 1 + 1) 64 _ rfl hown _ _ rfl hkey ?_; intro c hat hwc)
        exact orb_full HI.out (by omega) HF.out _ (by omega) _ (fun _ h => h)
      · have hk2 : k < 64 := by omega
        have hk3 : ((k : Int) == 64) = false := by simp; omega
        have f5 := hv.frozen
        have HM : Hid (mapD (n, d) (k + 1) = (mapD (n, d) k).put (kl (orb (n, d) k)) (.lit (.int .i64 (k : Int)))) := Lib.hid rfl
        have wfk : (Lit.int .i64 (k : Int)).wf = true := i64_wf (by omega) (by omega)
        have HV := Lib.hid hv
        have HO := Lib.hid hrow
        have HUP : Hid (∀ W2 : World, W.grownBy W2 (some (s + 1 + 1)) → W2.cell? ⟨s, 0, none⟩ = some (.slice A k cap) ∧ W2.frozen? ⟨s, 0, none⟩ = false ∧ W2.cell? ⟨g, 0, none⟩ = some (.int .i64 (orb (n, d) k).1) ∧ W2.cell? ⟨g, 1, none⟩ = some (.int .i64 (orb (n, d) k).2) ∧
            W2.ownsRow w.heap.size 25 2 (.slice A k cap) k (flat (n, d) k) ∧ w.heap.size ≤ W2.heap.size ∧ s < W2.heap.size) := Lib.hid (fun W2 hgr => by
          have hbs := hgr.block s hv.lt (by simp; omega)
          have hbg := hgr.block g (Array.getElem?_eq_some_iff.1 hx).1 (by simp; omega)
          refine ⟨(World.cell?_of_block hbs).trans e5, (World.frozen?_of_block hbs).trans hv.frozen, (World.cell?_of_block hbg).trans g0, (World.cell?_of_block hbg).trans g1, hrow.kept hgr ?_, ?_, ?_⟩
          · rcases hrow.2 with ⟨e, _⟩ | ⟨g', cap', cur, e, _, hgb, _⟩
            · exact .inl (by rw [e]; rfl)
            · refine .inr fun e' => ?_
              obtain ⟨es, cc, he, _⟩ := hown
              rw [e] at e'
              have e2 : g' = s + 1 + 1 := by simpa [Value.ownBlock] using e'
              rw [e2, he] at hgb
              cases hgb
          · have := hI.below.size; have := hgr.size; omega
          · have := hv.lt; have := hgr.size; omega)
        clear hmet hno hap hinj hI hrd hk hv hrow
        have HXo : Hid (orb (n, d) k = ((orb (n, d) k).1, (orb (n, d) k).2)) := Lib.hid rfl
        obtain ⟨x, hxx⟩ : ∃ x, (orb (n, d) k).1 = x := ⟨_, rfl⟩
        obtain ⟨y, hyy⟩ : ∃ y, (orb (n, d) k).2 = y := ⟨_, rfl⟩
        have ho : orb (n, d) k = (x, y) := Prod.ext hxx hyy
        rw [hxx] at hx hkey g0 HUP ⊢
        rw [hyy] at hx hkey g1 HUP ⊢
        rw [ho] at hhas
        have HE := Lib.hid ho
        clear hxx hyy ho HXo
        gi_wp2_with (first
          | (gi_at_lookup; refine wpListIn_lookup_own_ok_int _ rfl _ _ 91 rfl 25 2 .i64 angLaw Try.underlying91 Try.underlying2 (Try.zeroValue2 _) (s + 1 + 1) k _ rfl hown _ _ rfl hkey ?_; intro c hat hwc)
          | (gi_at_mapUpdate; refine wpListIn_mapUpdate_own _ rfl _ _ _ 91 rfl 25 2 angLaw Try.underlying91 _ (s + 1 + 1) k _ rfl hown (by unfold maxLen; omega) _ _ _ rfl rfl hkey _ [] (plainElem_int Try.underlying2 wfk) ?_; intro W2 hown2 hgrow2; obtain ⟨u0, u1, u2, u3, u4, u5, u6⟩ := HUP.out W2 hgrow2; have U4 := Lib.hid u4; clear u4)
          | (gi_at_builtin; refine wpListIn_append_own_at _ rfl _ _ 27 rfl w.heap.size 25 i0 (.agg #[.int .i64 0, .int .i64 0]) 2 16 Try.underlying27 hi hz0 hz1 hz2 rfl (by decide) _ _ _ rfl (World.ownsRow.alloc (w := W2) U4.out _) ⟨W2.heap.size, 0, none⟩ 1 1 [.int .i64 x, .int .i64 y] rfl rfl ?c1 ?c2 ?c3 ?c4 ?c5 ?_))
        case c1 => exact cell_two_new _ _ _ _
        case c2 => intro u hu; simp at hu; rcases hu with rfl | rfl <;> rfl
        case c3 => unfold maxLen; omega
        case c4 => omega
        case c5 => simp; omega
        intro v' w3 hown3 hgrow3 _ hat3
        obtain ⟨g3, cap3, rfl⟩ := ownsRow_succ hown3
        have hs3 : w3.heap[s]? = (W2.alloc (.cells #[.int .i64 x, .int .i64 y] 25)).heap[s]? := hgrow3.block s (by simp; omega) ((HV.out.kept hgrow2 (by simp; omega)).not_row (by decide) U4.out)
        have y0 : w3.cell? ⟨s, 0, none⟩ = some (.slice A k cap) := (World.cell?_of_block hs3).trans (cellThru (belowAlloc (Below.refl _ _) _) u6 u0)
        have y1 : w3.frozen? ⟨s, 0, none⟩ = false := (World.frozen?_of_block hs3).trans (frozThru (belowAlloc (Below.refl _ _) _) u6 u1)
        clear hs3
        have H3 := Lib.hid (And.intro hown3 (And.intro hgrow3 hat3))
        have H2 := Lib.hid (And.intro hown2 hgrow2)
        clear hown3 hgrow3 hat3 hown2 hgrow2
        gi_wp2
        exact orb_step (T1 := 25) HI.out HV.out HO.out (by omega) hk2 HAp.out (by rw [HM.out, HE.out]; exact H2.out.1) H2.out.2 (by rw [HE.out]; exact H3.out.1) (by rw [HE.out]; exact H3.out.2.1) (by rw [HE.out]; simpa using H3.out.2.2) _ (by omega) _ (fun _ h => h)
  case done =>
    intro D k W _ h
    exact absurd trivial h
  case stop =>
    intro D c k W hD hx hK
    cases c <;> try exact hx.elim
    case exit i =>
      obtain ⟨rfl, j, hj, hf, ⟨v, hv, hrow⟩, hp, hr0, hr1, hr2, hB⟩ := hx
      obtain ⟨A, cap, hvA⟩ : ∃ A cap, v = .slice A j cap := by
        rcases hrow.2 with ⟨rfl, h0⟩ | ⟨g', cap', cur, hv', _⟩
        · exact ⟨none, 0, by rw [h0]⟩
        · exact ⟨_, _, hv'⟩
      subst hvA
      have a5 := hv.cell
      have a6 := hp.cell
      have q0 := hr0.cell
      have q1 := hr1.cell
      have q2 := hr2.cell
      have p0 := hr0.frozen
      have p1 := hr1.frozen
      have p2 := hr2.frozen
      have HB := Lib.hid (And.intro hrow hB)
      have HF := Lib.hid hf
      have HZ := Lib.hid (And.intro hr0 (And.intro hr1 hr2))
      have hbs := hB.size
      clear hrow hB hf hp hr0 hr1 hr2
      gi_wp2
      gi_region
      obtain ⟨hrow, hB⟩ := HB.out
      obtain ⟨hr0, hr1, hr2⟩ := HZ.out
      have hK1 : (((W.setCell ⟨w.heap.size + 1, 0, none⟩ (.slice A j cap)).setCell ⟨w.heap.size + 1 + 1, 0, none⟩ (.int .i64 (pre (n, d) : Int))).setCell ⟨w.heap.size + 1 + 1 + 1, 0, none⟩ (.int .i64 0)).heap[D]? = some (.deferred (some [])) := by
        rw [Below.heap_setCell _ _ _ _ (by simp; omega), Below.heap_setCell _ _ _ _ (by simp; omega), Below.heap_setCell _ _ _ _ (by simp; omega)]
        exact hK
      have d0 := box_set (o := 0) (u' := .int .i64 0) (C := w.heap.size + 1 + 1 + 1) (box_set (o := 0) (u' := .int .i64 (pre (n, d) : Int)) (C := w.heap.size + 1 + 1) (hr0.set (.slice A j cap)) (by omega)) (by omega)
      have d1 := box_set (o := 0) (u' := .int .i64 0) (C := w.heap.size + 1 + 1 + 1) ((box_set (o := 0) (u' := .slice A j cap) (C := w.heap.size + 1) hr1 (by omega)).set (.int .i64 (pre (n, d) : Int))) (by omega)
      have d2 := (box_set (o := 0) (u' := .int .i64 (pre (n, d) : Int)) (C := w.heap.size + 1 + 1) (box_set (o := 0) (u' := .slice A j cap) (C := w.heap.size + 1) hr2 (by omega)) (by omega)).set (.int .i64 0)
      have drow := row_set (o := 0) (u' := .int .i64 0) (row_set (o := 0) (u' := .int .i64 (pre (n, d) : Int)) (row_set (o := 0) (u' := .slice A j cap) hrow hr0 (by decide)) (box_set hr1 (by omega)) (by decide)) (box_set (box_set hr2 (by omega)) (by omega)) (by decide)
      have dB := ((hB.setCell (p := ⟨w.heap.size + 1, 0, none⟩) (by simp) (.slice A j cap)).setCell (p := ⟨w.heap.size + 1 + 1, 0, none⟩) (by simp; omega) (.int .i64 (pre (n, d) : Int))).setCell (p := ⟨w.heap.size + 1 + 1 + 1, 0, none⟩) (by simp; omega) (.int .i64 0)
      clear a5 a6 q0 q1 q2 p0 p1 p2 hr0 hr1 hr2 hrow hB hK
      generalize ((W.setCell ⟨w.heap.size + 1, 0, none⟩ (.slice A j cap)).setCell ⟨w.heap.size + 1 + 1, 0, none⟩ (.int .i64 (pre (n, d) : Int))).setCell ⟨w.heap.size + 1 + 1 + 1, 0, none⟩ (.int .i64 0) = Z at *
      have hK2 : Z.drew.heap[D]? = some (.deferred (some [])) := hK1
      gi_wp2
      refine ⟨by simp, .inl ⟨_, _, rfl, run_takeDeferred hK2, ?_⟩⟩
      have kc : ∀ b, (some D : Option Nat) = some b → ∃ o : Obj, Z.drew.heap[b]? = some o ∧ o.isCells = false := fun b e => by cases e; exact ⟨_, hK2, rfl⟩
      have b0 := (boxed_ownN (X := Z.drew) d0 (grownBy_putObj' Z.drew D (.deferred none)) kc).cell
      have b1 := (boxed_ownN (X := Z.drew) d1 (grownBy_putObj' Z.drew D (.deferred none)) kc).cell
      have b2 := (boxed_ownN (X := Z.drew) d2 (grownBy_putObj' Z.drew D (.deferred none)) kc).cell
      have b3 := row_own (X := Z.drew) drow (grownBy_putObj' Z.drew D (.deferred none)) kc
      refine ⟨.tuple #[.slice A j cap, .int .i64 (pre (n, d) : Int), .int .i64 0], by simp [results, Try.results53, go_sem, b0, b1, b2], ?_⟩
      show ResOap _ _ _ _
      unfold ResOap
      rw [HF.out]
      exact ⟨A, cap, rfl, b3, dB.drew.grown (grownBy_putObj' Z.drew D (.deferred none)) dB.drew.size (fun b e => by cases e; omega)⟩
    case ret =>
      obtain ⟨hf, hr0, hr1, hr2, hB⟩ := hx
      have q0 := hr0.cell
      have q1 := hr1.cell
      have q2 := hr2.cell
      gi_wp2
      refine ⟨by simp, .inl ⟨_, _, rfl, run_takeDeferred hK, ?_⟩⟩
      have b0 := (boxed_ownN hr0 (grownBy_putObj' W D (.deferred none)) (fun b e => by cases e; exact ⟨_, hK, rfl⟩)).cell
      have b1 := (boxed_ownN hr1 (grownBy_putObj' W D (.deferred none)) (fun b e => by cases e; exact ⟨_, hK, rfl⟩)).cell
      have b2 := (boxed_ownN hr2 (grownBy_putObj' W D (.deferred none)) (fun b e => by cases e; exact ⟨_, hK, rfl⟩)).cell
      refine ⟨.tuple #[.slice none 0 0, .int .i64 0, .int .i64 3], by simp [results, Try.results53, go_sem, b0, b1, b2], ?_⟩
      show ResOap _ _ _ _
      unfold ResOap
      rw [hf]
      exact ⟨rfl, hB.grown (grownBy_putObj' W D (.deferred none)) hB.size (fun b e => by cases e; omega)⟩

set_option maxHeartbeats 1000000 in
theorem implOrbitOf (n d : Int) (w : World) : Calls Try.prog 14 #[ang n d] w (ResAng w (oL n d) (oC n d)) := by
  cases h1 : isAng n d
  · have HO := Lib.hid (fun w => implOap0 n d w h1)
    have e1 : oL n d = [] := by unfold oL; simp [h1]
    have e2 : oC n d = 1 := by unfold oC; simp [h1]
    rw [e1, e2]
    clear e1 e2 h1
    go_enter Try.func14, Try.ntmps14
    go_wp2_with fail
    refine (HO.out _).mono ?_
    rintro e w1 ⟨rfl, hb1⟩
    go_wp2
    go_ret2
    refine ⟨none, 0, rfl, own_nil, ?_⟩
    (repeat' (first | (with_reducible exact Below.refl _ _) | (with_reducible assumption) | (with_reducible refine belowNext ?_ (by with_reducible assumption)) | (with_reducible refine belowAlloc ?_ _) | (with_reducible refine Below.drew ?_) | (with_reducible refine below_drewN ?_ _) | (with_reducible refine Below.setCell ?_ ?_ _) | go_size | (with_reducible refine sizeOf' ?_) | (with_reducible refine sizeAdd ?_) | (dsimp only; first | (with_reducible refine sizeOf' ?_) | (with_reducible refine sizeAdd ?_))))
  · have HO := Lib.hid (fun w => implOap n d w h1)
    cases hf : findOrb (n, d) 65 0 with
    | none =>
      have e1 : oL n d = [] := by unfold oL; simp [h1, hf]
      have e2 : oC n d = 3 := by unfold oC; simp [h1, hf]
      rw [e1, e2]
      have HO2 : Hid (∀ w : World, Calls Try.prog 53 #[ang n d] w fun e w' => e = .returned (.tuple #[.slice none 0 0, .int .i64 0, .int .i64 3]) ∧ Below w.heap.size w w') := Lib.hid (fun w => (HO.out w).mono fun e w' h => by unfold ResOap at h; rw [hf] at h; exact h)
      clear e1 e2 h1 hf HO
      go_enter Try.func14, Try.ntmps14
      go_wp2_with fail
      refine (HO2.out _).mono ?_
      rintro e w2 ⟨rfl, hb2⟩
      go_wp2
      go_ret2
      refine ⟨none, 0, rfl, own_nil, ?_⟩
      (repeat' (first | (with_reducible exact Below.refl _ _) | (with_reducible assumption) | (with_reducible refine belowNext ?_ (by with_reducible assumption)) | (with_reducible refine belowAlloc ?_ _) | (with_reducible refine Below.drew ?_) | (with_reducible refine below_drewN ?_ _) | (with_reducible refine Below.setCell ?_ ?_ _) | go_size | (with_reducible refine sizeOf' ?_) | (with_reducible refine sizeAdd ?_) | (dsimp only; first | (with_reducible refine sizeOf' ?_) | (with_reducible refine sizeAdd ?_))))
    | some k =>
      have e1 : oL n d = orbList (n, d) k := by unfold oL; simp [h1, hf]
      have e2 : oC n d = 0 := by unfold oC; simp [h1, hf]
      rw [e1, e2]
      have HO2 : Hid (∀ w : World, Calls Try.prog 53 #[ang n d] w fun e w' => ∃ A cap, e = .returned (.tuple #[.slice A k cap, .int .i64 (pre (n, d) : Int), .int .i64 0]) ∧ w'.ownsRow w.heap.size 25 2 (.slice A k cap) k (flat (n, d) k) ∧ Below w.heap.size w w') := Lib.hid (fun w => (HO.out w).mono fun e w' h => by unfold ResOap at h; rw [hf] at h; exact h)
      clear e1 e2 h1 hf HO
      go_enter Try.func14, Try.ntmps14
      go_wp2_with fail
      refine (HO2.out _).mono ?_
      rintro e w2 ⟨A, cap, rfl, hown, hb2⟩
      have hB : Below w.heap.size w w2 := by
        (repeat' (first | (with_reducible exact Below.refl _ _) | (with_reducible assumption) | (with_reducible refine belowNext ?_ (by with_reducible assumption)) | (with_reducible refine belowAlloc ?_ _) | (with_reducible refine Below.drew ?_) | (with_reducible refine below_drewN ?_ _) | (with_reducible refine Below.setCell ?_ ?_ _) | go_size | (with_reducible refine sizeOf' ?_) | (with_reducible refine sizeAdd ?_) | (dsimp only; first | (with_reducible refine sizeOf' ?_) | (with_reducible refine sizeAdd ?_))))
      have HW := Lib.hid (own_of_row hown)
      clear hown
      go_wp2
      go_ret2
      refine ⟨A, cap, by rw [orbList_len]; rfl, ?_, hB⟩
      intro hl
      obtain ⟨b, off, e, h1, h2, h3⟩ := HW.out hl
      exact ⟨b, off, e, Nat.le_trans (by simp) h1, h2, h3⟩

set_option maxHeartbeats 1000000 in
theorem implPeriodsOf (n d : Int) (w : World) : Calls Try.prog 16 #[ang n d] w (ResInt w (pL n d) (oC n d)) := by
  cases h1 : isAng n d
  · have HO := Lib.hid (fun w => implOap0 n d w h1)
    have e1 : pL n d = [] := by unfold pL; simp [h1]
    have e2 : oC n d = 1 := by unfold oC; simp [h1]
    rw [e1, e2]
    clear e1 e2 h1
    go_enter Try.func16, Try.ntmps16
    go_wp2_with fail
    refine (HO.out _).mono ?_
    rintro e w1 ⟨rfl, hb1⟩
    go_wp2
    go_ret2
    refine ⟨none, 0, rfl, ownI_nil, ?_⟩
    (repeat' (first | (with_reducible exact Below.refl _ _) | (with_reducible assumption) | (with_reducible refine belowNext ?_ (by with_reducible assumption)) | (with_reducible refine belowAlloc ?_ _) | (with_reducible refine Below.drew ?_) | (with_reducible refine below_drewN ?_ _) | (with_reducible refine Below.setCell ?_ ?_ _) | go_size | (with_reducible refine sizeOf' ?_) | (with_reducible refine sizeAdd ?_) | (dsimp only; first | (with_reducible refine sizeOf' ?_) | (with_reducible refine sizeAdd ?_))))
  · have HO := Lib.hid (fun w => implOap n d w h1)
    cases hf : findOrb (n, d) 65 0 with
    | none =>
      have e1 : pL n d = [] := by unfold pL; simp [h1, hf]
      have e2 : oC n d = 3 := by unfold oC; simp [h1, hf]
      rw [e1, e2]
      have HO2 : Hid (∀ w : World, Calls Try.prog 53 #[ang n d] w fun e w' => e = .returned (.tuple #[.slice none 0 0, .int .i64 0, .int .i64 3]) ∧ Below w.heap.size w w') := Lib.hid (fun w => (HO.out w).mono fun e w' h => by unfold ResOap at h; rw [hf] at h; exact h)
      clear e1 e2 h1 hf HO
      go_enter Try.func16, Try.ntmps16
      go_wp2_with fail
      refine (HO2.out _).mono ?_
      rintro e w2 ⟨rfl, hb2⟩
      go_wp2
      go_ret2
      refine ⟨none, 0, rfl, ownI_nil, ?_⟩
      (repeat' (first | (with_reducible exact Below.refl _ _) | (with_reducible assumption) | (with_reducible refine belowNext ?_ (by with_reducible assumption)) | (with_reducible refine belowAlloc ?_ _) | (with_reducible refine Below.drew ?_) | (with_reducible refine below_drewN ?_ _) | (with_reducible refine Below.setCell ?_ ?_ _) | go_size | (with_reducible refine sizeOf' ?_) | (with_reducible refine sizeAdd ?_) | (dsimp only; first | (with_reducible refine sizeOf' ?_) | (with_reducible refine sizeAdd ?_))))
    | some k =>
      have e1 : pL n d = [(pre (n, d) : Int), (k : Int) - (pre (n, d) : Int)] := by unfold pL; simp [h1, hf]
      have e2 : oC n d = 0 := by unfold oC; simp [h1, hf]
      rw [e1, e2]
      obtain ⟨P, hP⟩ : ∃ P, pre (n, d) = P := ⟨_, rfl⟩
      have hPk : P ≤ 14 := by rw [← hP]; exact twos_le 14 d
      have hkk : k ≤ 65 := by have := (find_le _ _ _ hf).1; omega
      have HO2 : Hid (∀ w : World, Calls Try.prog 53 #[ang n d] w fun e w' => ∃ A cap, e = .returned (.tuple #[.slice A k cap, .int .i64 (pre (n, d) : Int), .int .i64 0]) ∧ w'.ownsRow w.heap.size 25 2 (.slice A k cap) k (flat (n, d) k) ∧ Below w.heap.size w w') := Lib.hid (fun w => (HO.out w).mono fun e w' h => by unfold ResOap at h; rw [hf] at h; exact h)
      rw [hP] at HO2 ⊢
      clear e1 e2 h1 hf HO hP
      go_enter Try.func16, Try.ntmps16
      go_wp2_with fail
      refine (HO2.out _).mono ?_
      rintro e w2 ⟨A, cap, rfl, hown, hb2⟩
      have hB : Below w.heap.size w w2 := by
        (repeat' (first | (with_reducible exact Below.refl _ _) | (with_reducible assumption) | (with_reducible refine belowNext ?_ (by with_reducible assumption)) | (with_reducible refine belowAlloc ?_ _) | (with_reducible refine Below.drew ?_) | (with_reducible refine below_drewN ?_ _) | (with_reducible refine Below.setCell ?_ ?_ _) | go_size | (with_reducible refine sizeOf' ?_) | (with_reducible refine sizeAdd ?_) | (dsimp only; first | (with_reducible refine sizeOf' ?_) | (with_reducible refine sizeAdd ?_))))
      clear hown hb2
      go_wp2
      try go_region
      all_goals
        go_wp2
        go_ret2
        refine ⟨some ⟨_, 0, none⟩, 2, rfl, ownI2 _ ?_ _ _ _ _ ?_, ?_⟩
        · (repeat' (first | (with_reducible exact Below.refl _ _) | (with_reducible assumption) | (with_reducible refine belowNext ?_ (by with_reducible assumption)) | (with_reducible refine belowAlloc ?_ _) | (with_reducible refine Below.drew ?_) | (with_reducible refine below_drewN ?_ _) | (with_reducible refine Below.setCell ?_ ?_ _) | go_size | (with_reducible refine sizeOf' ?_) | (with_reducible refine sizeAdd ?_) | (dsimp only; first | (with_reducible refine sizeOf' ?_) | (with_reducible refine sizeAdd ?_))))
        · simp
        · (repeat' (first | (with_reducible exact Below.refl _ _) | (with_reducible assumption) | (with_reducible refine belowNext ?_ (by with_reducible assumption)) | (with_reducible refine belowAlloc ?_ _) | (with_reducible refine Below.drew ?_) | (with_reducible refine below_drewN ?_ _) | (with_reducible refine Below.setCell ?_ ?_ _) | go_size | (with_reducible refine sizeOf' ?_) | (with_reducible refine sizeAdd ?_) | (dsimp only; first | (with_reducible refine sizeOf' ?_) | (with_reducible refine sizeAdd ?_))))
end Go.Proofs.Ytnciiodgkanpjaa

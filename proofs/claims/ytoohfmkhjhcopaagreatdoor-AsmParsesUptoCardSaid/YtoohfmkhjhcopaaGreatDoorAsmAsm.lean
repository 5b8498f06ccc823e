/-
  What Assemble of package asm tells. Nothing here is a statement of the seed.
-/
import Derived.RangeFuncNested
import Derived.Test.YtoohfmkhjhcopaaGreatDoorAsmLines
set_option linter.unusedSimpArgs false
set_option linter.unusedVariables false
namespace Go.Proofs.YtoohfmkhjhcopaaGreatDoor.AF
open Go.RowKit Go.Shelf WM IM WF IF AM NR

attribute [local go_sem] Oper.semAt_some

theorem infoU32 : (Tryz.prog.info? 57).map (fun i => (i.zero, i.size, i.bytes)) = some (some (.int .u32 0), 1, 4) := by kernel_rfl
/-- what Assemble tells of a text: its words, or the first wrong line -/
def AsmP (T : List UInt8) (w : World) (e : Ending) (w' : World) : Prop := Below w.heap.size w w' ∧
  ((∃ v, (∀ y ∈ lnsA 0 T, Fine y) ∧ (wdsOf (lnsA 0 T)).length ≤ 512 ∧ e = .returned (.tuple #[v, .int .i64 0, .int .i64 0]) ∧ w'.ownsRow w.heap.size 57 1 v (wdsOf (lnsA 0 T)).length ((wdsOf (lnsA 0 T)).map (Value.int .u32))) ∨
    (∃ init x r k, lnsA 0 T = init ++ x :: r ∧ Bad init x k ∧ e = .returned (.tuple #[.slice none 0 0, .int .i64 (x.1 : Nat), .int .i64 k])))
/-- between two rounds -/
def AI (w : World) (ps : List Ln) (W : World) : Prop := ((∃ v, Boxed W (w.heap.size + 1 + 1 + 1) 38 v ∧ W.ownsRow w.heap.size 57 1 v (wdsOf ps).length ((wdsOf ps).map (Value.int .u32)) ∧ True) ∧
  (Boxed W w.heap.size 38 (.slice none 0 0) ∧ Boxed W (w.heap.size + 1) 3 (.int .i64 0) ∧ Boxed W (w.heap.size + 1 + 1) 25 (.int .i64 0)) ∧ (∀ y ∈ ps, Fine y) ∧ (wdsOf ps).length ≤ 512) ∧ Below w.heap.size w W
/-- behind a round that has left -/
def AX (w : World) (c : Code) (ps : List Ln) (W : World) : Prop := (c = .ret ∧ ∃ init x k, ps = init ++ [x] ∧ Bad init x k ∧
  (Boxed W w.heap.size 38 (.slice none 0 0) ∧ Boxed W (w.heap.size + 1) 3 (.int .i64 (x.1 : Nat)) ∧ Boxed W (w.heap.size + 1 + 1) 25 (.int .i64 k))) ∧ Below w.heap.size w W
theorem boxed_below {w u : World} {g : Nat} {t : TypeId} {v : Value} (h : Boxed w g t v) (hb : Below w.heap.size w u) : Boxed u g t v := blk_below (w := w) h hb
theorem keeps_below {w u : World} (hb : Below w.heap.size w u) : KeepsOthers w u := ⟨hb.size, fun k o hk _ => by
  have hlt := (Array.getElem?_eq_some_iff.1 hk).1
  rw [hb.block k hlt]
  exact hk⟩
theorem ai_own (w : World) (B : Nat) (hB : w.heap.size ≤ B) : OwnFrom B (AI w) :=
  OwnFrom.and (OwnFrom.and (Own.from (holdsRow_own w.heap.size (w.heap.size + 1 + 1 + 1) 38 57 1 (fun ps => (wdsOf ps).length) (fun ps => (wdsOf ps).map (Value.int .u32)) (fun _ _ => True)) _)
    (OwnFrom.and (OwnFrom.and (Own.from (boxed_own _ _ _) _) (OwnFrom.and (Own.from (boxed_own _ _ _) _) (Own.from (boxed_own _ _ _) _))) (OwnFrom.and (ownFrom_pure _ _) (ownFrom_pure _ _)))) (ownFrom_below (Nat.le_refl _) hB)
theorem boxed_keep {X Y : World} {B : Nat} {t : TypeId} {v : Value} {row : Option Nat} (h : Boxed X B t v) (hg : X.grownBy Y row) (hr : ∀ r, row = some r → ∃ o : Obj, X.heap[r]? = some o ∧ o.isCells = false) : Boxed Y B t v :=
  h.kept hg (fun e' => by obtain ⟨o, ho, hc⟩ := hr B e'.symm; rw [show X.heap[B]? = _ from h] at ho; cases ho; cases hc)
theorem ax_own (w : World) (B : Nat) (hB : w.heap.size ≤ B) (c : Code) : OwnFrom B (AX w c) :=
  OwnFrom.and (Own.from (fun s X Y row hs hg hr => by
    obtain ⟨hc, init, x, k, e, hb, b0, b1, b2⟩ := hs
    exact ⟨hc, init, x, k, e, hb, boxed_keep b0 hg hr, boxed_keep b1 hg hr, boxed_keep b2 hg hr⟩) _) (ownFrom_below (Nat.le_refl _) hB)
theorem ai_start (w : World) (T : ByteArray) : AI w [] (((((w.alloc (.cells #[.slice none 0 0] 38)).alloc (.cells #[.int .i64 0] 3)).alloc (.cells #[.int .i64 0] 25)).alloc (.cells #[.slice none 0 0] 38)).alloc (.cells #[.string T] 9)) := by
  have b0 := Boxed.new w 38 (.slice none 0 0)
  have b1 := Boxed.new (w.alloc (.cells #[.slice none 0 0] 38)) 3 (.int .i64 0)
  have b2 := Boxed.new ((w.alloc (.cells #[.slice none 0 0] 38)).alloc (.cells #[.int .i64 0] 3)) 25 (.int .i64 0)
  have b3 := Boxed.new (((w.alloc (.cells #[.slice none 0 0] 38)).alloc (.cells #[.int .i64 0] 3)).alloc (.cells #[.int .i64 0] 25)) 38 (.slice none 0 0)
  simp only [World.size_alloc] at b1 b2 b3
  exact ⟨⟨⟨_, b3.alloc _, World.ownsRow_nil _ _ _ _, trivial⟩, ⟨(((b0.alloc _).alloc _).alloc _).alloc _, ((b1.alloc _).alloc _).alloc _, (b2.alloc _).alloc _⟩, by simp, by simp [wdsOf]⟩, ball (ball (ball (ball (below_new _ _))))⟩
theorem ax_fin {w W w1 : World} {init : List Ln} {x : Ln} {k : Int} (hb : Below W.heap.size W w1) (hB : Below w.heap.size w W) (hbad : Bad init x k)
    (d0 : Boxed w1 w.heap.size 38 (.slice none 0 0)) (d1 : Boxed w1 (w.heap.size + 1) 3 (.int .i64 0)) (d2 : Boxed w1 (w.heap.size + 1 + 1) 25 (.int .i64 0)) :
    KeepsOthers W (((w1.setCell ⟨w.heap.size, 0, none⟩ (.slice none 0 0)).setCell ⟨w.heap.size + 1, 0, none⟩ (.int .i64 (x.1 : Nat))).setCell ⟨w.heap.size + 1 + 1, 0, none⟩ (.int .i64 k)) ∧
    AX w .ret (init ++ [x]) (((w1.setCell ⟨w.heap.size, 0, none⟩ (.slice none 0 0)).setCell ⟨w.heap.size + 1, 0, none⟩ (.int .i64 (x.1 : Nat))).setCell ⟨w.heap.size + 1 + 1, 0, none⟩ (.int .i64 k)) := by
  refine ⟨(keeps_below hb).trans ((KeepsOthers.setCell _ _ _).trans ((KeepsOthers.setCell _ _ _).trans (KeepsOthers.setCell _ _ _))), ⟨rfl, init, x, k, rfl, hbad, ?_, ?_, ?_⟩, ?_⟩
  · exact ((d0.set _).other (by omega) _).other (by omega) _
  · exact ((d1.other (by omega) _).set _).other (by omega) _
  · exact ((d2.other (by omega) _).other (by omega) _).set _
  · exact bset (bset (bset (btr hB hb) (by simp)) (by simp)) (by simp; omega)
theorem load_boxed {w : World} {g : Nat} {t : TypeId} {v : Value} (h : Boxed w g t v) (hA : (isAgg t).run Tryz.prog w = .ok false w) : (loadVar t ⟨g, 0, none⟩).run Tryz.prog w = .ok v w := by
  unfold loadVar
  simp [Sem.run_bind, hA, Result.andThen, run_load, h.cell]
theorem results_three {fn : Func} (h : fn.results = #[.cell 2 38, .cell 3 3, .cell 4 25]) {tmps : Array Value} {w : World} {g0 g1 g2 : Nat} {v0 v1 v2 : Value} (i0 : tmps.getD 2 undef = .pointer (some ⟨g0, 0, none⟩)) (i1 : tmps.getD 3 undef = .pointer (some ⟨g1, 0, none⟩)) (i2 : tmps.getD 4 undef = .pointer (some ⟨g2, 0, none⟩))
    (b0 : Boxed w g0 38 v0) (b1 : Boxed w g1 3 v1) (b2 : Boxed w g2 25 v2) : (results fn tmps).run Tryz.prog w = .ok (.tuple #[v0, v1, v2]) w := by
  have l0 := load_boxed b0 (by kernel_rfl)
  have l1 := load_boxed b1 (by kernel_rfl)
  have l2 := load_boxed b2 (by kernel_rfl)
  unfold results
  rw [h]
  simp only [Array.getD_eq_getD_getElem?] at i0 i1 i2 ⊢
  simp [i0, i1, i2, asAddr, l0, l1, l2, Result.andThen, Array.mapM_eq_mapM_toList]
theorem three_set {w W : World} {v0 v1 v2 : Value} {z0 z1 z2 : Value} (d0 : Boxed W w.heap.size 38 z0) (d1 : Boxed W (w.heap.size + 1) 3 z1) (d2 : Boxed W (w.heap.size + 1 + 1) 25 z2) :
    Boxed (((W.setCell ⟨w.heap.size, 0, none⟩ v0).setCell ⟨w.heap.size + 1, 0, none⟩ v1).setCell ⟨w.heap.size + 1 + 1, 0, none⟩ v2) w.heap.size 38 v0 ∧ Boxed (((W.setCell ⟨w.heap.size, 0, none⟩ v0).setCell ⟨w.heap.size + 1, 0, none⟩ v1).setCell ⟨w.heap.size + 1 + 1, 0, none⟩ v2) (w.heap.size + 1) 3 v1 ∧
    Boxed (((W.setCell ⟨w.heap.size, 0, none⟩ v0).setCell ⟨w.heap.size + 1, 0, none⟩ v1).setCell ⟨w.heap.size + 1 + 1, 0, none⟩ v2) (w.heap.size + 1 + 1) 25 v2 :=
  ⟨((d0.set _).other (by omega) _).other (by omega) _, ((d1.other (by omega) _).set _).other (by omega) _, ((d2.other (by omega) _).other (by omega) _).set _⟩
theorem boxed_put {X : World} {B D : Nat} {t : TypeId} {v : Value} (h : Boxed X B t v) (o : Obj) (hK : X.heap[D]? = some (.deferred (some []))) : Boxed (X.putObj D o) B t v :=
  boxed_keep h (grownBy_putObj' X D o) (fun r e => by cases e; exact ⟨_, hK, rfl⟩)
theorem owns_box {W : World} {B n k : Nat} {t e : TypeId} {u v z : Value} {xs : List Value} (h : W.ownsRow n e 1 v k xs) (hb : Boxed W B t z) (hte : t ≠ e) : (W.setCell ⟨B, 0, none⟩ u).ownsRow n e 1 v k xs := by
  refine h.kept (grownBy_setCell' W B u) ?_
  have := hb.not_row hte h
  rcases h.2 with ⟨rfl, _⟩ | ⟨g, cap, cur, rfl, _⟩
  · exact .inl rfl
  · exact .inr fun e' => this (by rw [e'])
set_option maxRecDepth 100000 in
set_option maxHeartbeats 2000000 in
theorem assemble_any (T : List UInt8) (hT : T.length ≤ 140737488355328) (w : World) (hTab : Tab w) : Calls Tryz.prog 17 #[.string (bs T)] w (AsmP T w) := by
  refine (callsIn_wide (n := 3)).1 ?_
  have h1 : 1 ≤ 3 := by omega
  have HT := Lib.hid hTab
  obtain ⟨i0, hi, hz0, hz1, hz2⟩ := info_parts infoU32
  refine callsIn_of_wp_marks Tryz.func17 rfl trivial ?_ rfl
  simp only [Tryz.ntmps17, List.size_toArray, List.length_cons, List.length_nil, Nat.reduceAdd, Nat.reduceSub, Array.replicate_succ, Array.replicate_zero, List.push_toArray, List.append_toArray, List.nil_append, List.cons_append]
  gi_wp2_with (refine ⟨trivial, ?_⟩; gi_at_call 34; refine (callsIn_wide.2 (lines_any _ _)).mono ?_; rintro e w' ⟨rfl, rfl⟩)
  have bT := Boxed.new ((((w.alloc (.cells #[.slice none 0 0] 38)).alloc (.cells #[.int .i64 0] 3)).alloc (.cells #[.int .i64 0] 25)).alloc (.cells #[.slice none 0 0] 38)) 9 (.string (bs T))
  simp only [World.size_alloc] at bT
  refine wpIn_rangeFunc_ownF rfl h1 (gf := 53) (lb := #[.pointer (some ⟨w.heap.size + 1 + 1 + 1 + 1, 0, none⟩)]) rfl trivial (enters_of Tryz.func53 (by kernel_rfl) rfl)
    (lines_stops (3 - 1) (by omega) (w.heap.size + 1 + 1 + 1 + 1) w.heap.size T hT _ bT.lt bT.cell) belowK_t (belowK_b (by simp; omega)) (Below.refl _ _) (fun _ => rfl)
    (AI w) (AX w) (ai_own w _ (by simp; omega)) (ax_own w _ (by simp; omega)) (ai_start w (bs T))
    (fun x => { tmps := #[.string (bs T), undef, .pointer (some ⟨w.heap.size, 0, none⟩), .pointer (some ⟨w.heap.size + 1, 0, none⟩), .pointer (some ⟨w.heap.size + 1 + 1, 0, none⟩), .pointer (some ⟨w.heap.size + 1 + 1 + 1, 0, none⟩), .int .i64 (x.1 : Nat), .string (bs x.2.1), undef, undef, .string (bs T),
      .func (.func 53) #[] #[.pointer (some ⟨w.heap.size + 1 + 1 + 1 + 1, 0, none⟩)], .int .i64 (x.1 : Nat), .string (bs x.2.1), undef, undef, undef, undef, undef, undef, undef, undef, undef, undef, undef, undef, undef, undef, undef, undef, undef, undef, undef, undef], defers := [] }) ?assign ?body ?done ?stop
  case assign =>
    intro l x W K hK
    gi_wp2
    exact hK
  case body =>
    rintro l ps x W ⟨⟨⟨v, hv, hrow, -⟩, ⟨b0, b1, b2⟩, hf, hlen⟩, hB⟩ hlt
    have CT := fun w => tells_any x.2.1 w
    have CL := lineWord_any x.2.1 x.2.2
    cases hidle : idle x.2.1 with
    | true =>
      rw [hidle] at CT
      gi_wp2_with (first | (refine ⟨trivial, ?_⟩; gi_at_call 35; refine (CallsIn.inRound l (callsIn_wide.2 (CT _))).mono ?_; rintro e w' ⟨rfl, rfl⟩))
      exact ⟨KeepsOthers.refl _, Below.refl _ _, ⟨⟨v, hv, by rw [wds_idle hidle]; exact hrow, trivial⟩, ⟨b0, b1, b2⟩, fun y hy => (List.mem_append.1 hy).elim (hf y) (fun e => by simp at e; subst e; exact .inl hidle), by rw [wds_idle hidle]; exact hlen⟩, hB⟩
    | false =>
      rw [hidle] at CT
      have HTW : Hid (Tab W) := HT.out.below hB
      cases hw : lw x.2.1 with
      | none =>
        rw [hw] at CL
        change SaysT _ _ (.tuple #[.int .u32 0, .int .i64 60]) at CL
        gi_wp2_with (first | (refine ⟨trivial, ?_⟩; gi_at_call 35; refine (CallsIn.inRound l (callsIn_wide.2 (CT _))).mono ?_; rintro e w' ⟨rfl, rfl⟩) | (refine ⟨trivial, ?_⟩; gi_at_call 36; refine (CallsIn.inRound l (callsIn_wide.2 (CL _ HTW.out))).mono ?_; rintro e w1 ⟨rfl, hb⟩; have d0 := boxed_below b0 hb; have d1 := boxed_below b1 hb; have d2 := boxed_below b2 hb; have c0 := d0.cell; have c1 := d1.cell; have c2 := d2.cell; have f0 := d0.frozen; have f1 := d1.frozen; have f2 := d2.frozen))
        obtain ⟨hk, hx⟩ := ax_fin (x := x) hb hB ⟨hf, hlen, hidle, .inl ⟨hw, rfl⟩⟩ d0 d1 d2
        exact ⟨hk, hx⟩
      | some wd =>
        rw [hw] at CL
        change SaysT _ _ (.tuple #[.int .u32 wd, .int .i64 0]) at CL
        have HW := Lib.hid hw
        clear hw
        obtain ⟨ao, cap, rfl⟩ := owns_form hrow
        by_cases h5 : (wdsOf ps).length = 512
        · have H5 := Lib.hid h5
          have hrow' : W.ownsRow w.heap.size 57 1 (.slice ao 512 cap) 512 ((wdsOf ps).map (Value.int .u32)) := by rw [← h5]; exact hrow
          have hv' : Boxed W (w.heap.size + 1 + 1 + 1) 38 (.slice ao 512 cap) := by rw [← h5]; exact hv
          clear h5 hrow hv
          gi_wp2_with (first | (refine ⟨trivial, ?_⟩; gi_at_call 35; refine (CallsIn.inRound l (callsIn_wide.2 (CT _))).mono ?_; rintro e w' ⟨rfl, rfl⟩) | (refine ⟨trivial, ?_⟩; gi_at_call 36; refine (CallsIn.inRound l (callsIn_wide.2 (CL _ HTW.out))).mono ?_; rintro e w1 ⟨rfl, hb⟩; have d0 := boxed_below b0 hb; have d1 := boxed_below b1 hb; have d2 := boxed_below b2 hb; have d3 := boxed_below hv' hb; have hrow1 := owns_below hrow' hb; have c0 := d0.cell; have c1 := d1.cell; have c2 := d2.cell; have c3 := d3.cell; have f0 := d0.frozen; have f1 := d1.frozen; have f2 := d2.frozen; have f3 := d3.frozen))
          obtain ⟨hk, hx⟩ := ax_fin (x := x) hb hB ⟨hf, hlen, hidle, .inr ⟨⟨_, HW.out⟩, H5.out, rfl⟩⟩ d0 d1 d2
          exact ⟨hk, hx⟩
        · have hn : (wdsOf ps).length ≤ 511 := by omega
          have hn' : ((wdsOf ps).length : Int) ≠ 512 := by omega
          clear h5
          have e1 : Hid (wdsOf (ps ++ [x]) = wdsOf ps ++ [wd]) := wds_word hidle HW.out
          gi_wp2_with (first | (refine ⟨trivial, ?_⟩; gi_at_call 35; refine (CallsIn.inRound l (callsIn_wide.2 (CT _))).mono ?_; rintro e w' ⟨rfl, rfl⟩) | (refine ⟨trivial, ?_⟩; gi_at_call 36; refine (CallsIn.inRound l (callsIn_wide.2 (CL _ HTW.out))).mono ?_; rintro e w1 ⟨rfl, hb⟩; have d0 := boxed_below b0 hb; have d1 := boxed_below b1 hb; have d2 := boxed_below b2 hb; have d3 := boxed_below hv hb; have hrow1 := owns_below hrow hb; have c0 := d0.cell; have c1 := d1.cell; have c2 := d2.cell; have c3 := d3.cell; have f0 := d0.frozen; have f1 := d1.frozen; have f2 := d2.frozen; have f3 := d3.frozen) | (gi_at_builtin; refine wpListIn_append_own _ rfl _ _ 38 rfl w.heap.size 57 i0 (.int .u32 0) 1 4 Tryz.underlying38 hi hz0 hz1 hz2 rfl (by decide) _ _ _ rfl (hrow1.alloc _) ⟨w1.heap.size, 0, none⟩ 1 1 [.int .u32 wd] rfl rfl (cell_one_new _ _ _) (by simp [Value.oneCell']) (by unfold maxLen; omega) (by omega) (by have := hB.size; have := hb.size; simp; omega) ?_; intro v' w2 hown' hgrow _; obtain ⟨g', cap', rfl⟩ := ownsRow_succ hown'; obtain ⟨hv1, hv2, hr2, hk2, hb2⟩ := d3.appended (by decide) hrow1 (Nat.le_trans hB.size hb.size) (by omega) hown' hgrow; have g3 := hv1.cell; have q3 := hv1.frozen))
          have k0 := ((d0.alloc (.cells #[.int .u32 wd] 57)).kept hgrow ((d0.alloc (.cells #[.int .u32 wd] 57)).not_row (by decide) (hrow1.alloc (.cells #[.int .u32 wd] 57)))).other (B' := w.heap.size + 1 + 1 + 1) (by omega) (.slice (some ⟨g', 0, none⟩) ((wdsOf ps).length + 1) cap')
          have k1 := ((d1.alloc (.cells #[.int .u32 wd] 57)).kept hgrow ((d1.alloc (.cells #[.int .u32 wd] 57)).not_row (by decide) (hrow1.alloc (.cells #[.int .u32 wd] 57)))).other (B' := w.heap.size + 1 + 1 + 1) (by omega) (.slice (some ⟨g', 0, none⟩) ((wdsOf ps).length + 1) cap')
          have k2 := ((d2.alloc (.cells #[.int .u32 wd] 57)).kept hgrow ((d2.alloc (.cells #[.int .u32 wd] 57)).not_row (by decide) (hrow1.alloc (.cells #[.int .u32 wd] 57)))).other (B' := w.heap.size + 1 + 1 + 1) (by omega) (.slice (some ⟨g', 0, none⟩) ((wdsOf ps).length + 1) cap')
          have hbb := (hb.mono hB.size).trans hb2
          refine ⟨(keeps_below hb).trans hk2, hbb, ⟨⟨_, hv2, owns_eq hr2 (by rw [e1.out]; simp) (by rw [e1.out]; simp), trivial⟩, ⟨k0, k1, k2⟩, fun y hy => (List.mem_append.1 hy).elim (hf y) (fun e => by simp at e; subst e; exact .inr ⟨_, HW.out⟩), by rw [e1.out]; simp; omega⟩, hB.trans hbb⟩
  case done =>
    rintro D ys W hD rfl ⟨⟨⟨v, hv, hrow, -⟩, ⟨b0, b1, b2⟩, hf, hlen⟩, hB⟩ hK
    obtain ⟨ao, cap, rfl⟩ := owns_form hrow
    have c0 := b0.cell
    have c1 := b1.cell
    have c2 := b2.cell
    have c3 := hv.cell
    have f0 := b0.frozen
    have f1 := b1.frozen
    have f2 := b2.frozen
    gi_wp2
    obtain ⟨s0, s1, s2⟩ := three_set (v0 := .slice ao (wdsOf (lnsA 0 T)).length cap) (v1 := .int .i64 0) (v2 := .int .i64 0) b0 b1 b2
    have hK' := ((KeepsOthers.setCell W ⟨w.heap.size, 0, none⟩ (.slice ao (wdsOf (lnsA 0 T)).length cap)).trans ((KeepsOthers.setCell _ ⟨w.heap.size + 1, 0, none⟩ (.int .i64 0)).trans (KeepsOthers.setCell _ ⟨w.heap.size + 1 + 1, 0, none⟩ (.int .i64 0)))).same D _ hK rfl
    have hrow' := owns_box (u := .int .i64 0) (owns_box (u := .int .i64 0) (owns_box (u := .slice ao (wdsOf (lnsA 0 T)).length cap) hrow b0 (by decide)) (b1.other (by omega) _) (by decide)) ((b2.other (by omega) _).other (by omega) _) (by decide)
    have hB' : Below w.heap.size w (((W.setCell ⟨w.heap.size, 0, none⟩ (.slice ao (wdsOf (lnsA 0 T)).length cap)).setCell ⟨w.heap.size + 1, 0, none⟩ (.int .i64 0)).setCell ⟨w.heap.size + 1 + 1, 0, none⟩ (.int .i64 0)) := bset (bset (bset hB (by simp)) (by simp)) (by simp; omega)
    refine ⟨by simp, .inl ⟨_, _, rfl, run_takeDeferred hK', ?_⟩⟩
    refine ⟨_, results_three rfl rfl rfl rfl (boxed_put s0 _ hK') (boxed_put s1 _ hK') (boxed_put s2 _ hK'), hB'.trans (belowK_b (w := w) (Nat.le_refl _) _ D _ _ (by simp at hD; omega) hK' rfl rfl), .inl ⟨_, hf, hlen, rfl, ownsRow_putObj hrow' _ hK' rfl⟩⟩
  case stop =>
    rintro D c ps W hD hpre ⟨⟨rfl, init, x, k, e, hb, b0, b1, b2⟩, hB⟩ hK
    gi_wp2
    refine ⟨by simp, .inl ⟨_, _, rfl, run_takeDeferred hK, ?_⟩⟩
    obtain ⟨r, hr⟩ := hpre
    refine ⟨_, results_three rfl rfl rfl rfl (boxed_put b0 _ hK) (boxed_put b1 _ hK) (boxed_put b2 _ hK), hB.trans (belowK_b (w := w) (Nat.le_refl _) _ D _ _ (by simp at hD; omega) hK rfl rfl), .inr ⟨init, x, r, k, ?_, hb, rfl⟩⟩
    rw [← hr, e]
    simp
end Go.Proofs.YtoohfmkhjhcopaaGreatDoor.AF

/-
  All runs, and the first with room, as package alloc tells them. Nothing here is a statement of the seed.
-/
import Derived.Test.YtegcekniolajeaaAllocUse
set_option linter.unusedSimpArgs false
set_option linter.unusedVariables false
namespace Go.Proofs.Ytegcekniolajeaa.AF
open Go.RowKit Go.Shelf AL NR

attribute [local go_sem] Oper.semAt_some

theorem owns_form' {w : World} {B : Nat} {e : TypeId} {size n : Nat} {v : Value} {xs : List Value} (h : w.ownsRow B e size v n xs) : ∃ a c, v = .slice a n c := by
  rcases h.2 with ⟨rfl, rfl⟩ | ⟨g, cap, cur, rfl, _⟩
  · exact ⟨none, 0, rfl⟩
  · exact ⟨_, cap, rfl⟩
/-- a box that holds a row of what came -/
def RowI (tb e : TypeId) (sz : Nat) (f : List Pr → List Value) (u : Value) (w : World) (ps : List Pr) (W : World) : Prop := ((∃ v, Boxed W w.heap.size tb v ∧ W.ownsRow w.heap.size e sz v ps.length (f ps) ∧ True) ∧ Boxed W (w.heap.size + 1) 22 u) ∧ Below w.heap.size w W
theorem rowI_own (tb e : TypeId) (sz : Nat) (f : List Pr → List Value) (u : Value) (w : World) (B : Nat) (hB : w.heap.size ≤ B) : OwnFrom B (RowI tb e sz f u w) :=
  OwnFrom.and (OwnFrom.and (Own.from (holdsRow_own w.heap.size w.heap.size tb e sz (fun ps => ps.length) f (fun _ _ => True)) _) (Own.from (boxed_own _ _ _) _)) (ownFrom_below (Nat.le_refl _) hB)
theorem rowI_start (tb e : TypeId) (sz : Nat) (f : List Pr → List Value) (w : World) (v : Value) (hf : f [] = []) : RowI tb e sz f v w [] ((w.alloc (.cells #[.slice none 0 0] tb)).alloc (.cells #[v] 22)) := by
  have bT := Boxed.new (w.alloc (.cells #[.slice none 0 0] tb)) 22 v
  simp only [World.size_alloc] at bT
  exact ⟨⟨⟨_, (Boxed.new w tb _).alloc _, by rw [hf]; exact World.ownsRow_nil _ _ _ _, trivial⟩, bT⟩, ((Below.refl _ _).alloc (Nat.le_refl _) _).alloc (by simp) _⟩
theorem rowI_next {tb e : TypeId} {sz : Nat} {f : List Pr → List Value} {u : Value} {w W w1 : World} {ps : List Pr} {x : Pr} {v v' : Value} {m : Nat} {ys : List Value} {tmp : Obj} (hv : Boxed W w.heap.size tb v) (hte : tb ≠ e) (hrow : W.ownsRow w.heap.size e sz v ps.length (f ps)) (hB : Below w.heap.size w W)
    (hbx : Boxed W (w.heap.size + 1) 22 u) (hne : 22 ≠ e)
    (hown' : w1.ownsRow w.heap.size e sz v' m ys) (hgrow : (W.alloc tmp).grownBy w1 v.ownBlock) (hm : m = (ps ++ [x]).length) (hy : ys = f (ps ++ [x])) :
    Boxed w1 w.heap.size tb v ∧ KeepsOthers W (w1.setCell ⟨w.heap.size, 0, none⟩ v') ∧ KB w.heap.size (w.heap.size + 1) W (w1.setCell ⟨w.heap.size, 0, none⟩ v') ∧ RowI tb e sz f u w (ps ++ [x]) (w1.setCell ⟨w.heap.size, 0, none⟩ v') := by
  obtain ⟨hv1, hv2, hr2, hk2, hb2⟩ := hv.appended hte hrow hB.size (Nat.le_refl _) hown' hgrow
  subst hm hy
  have h1 := (hbx.alloc tmp).kept hgrow ((hbx.alloc tmp).not_row hne (hrow.alloc tmp))
  have h2 := h1.other (B' := w.heap.size) (by omega) v'
  exact ⟨hv1, hk2, ⟨hb2, h2.trans hbx.symm⟩, ⟨⟨_, hv2, hr2, trivial⟩, h2⟩, hB.trans hb2⟩
set_option maxRecDepth 100000 in
set_option maxHeartbeats 2000000 in
theorem allRuns_any (l : List Bool) (v : Value) (w : World) (hv : Reads (· < w.heap.size) w v (bls l)) (hl : l.length ≤ 400) :
    Calls Try.prog 13 #[v] w (RunsP l w) := by
  refine (callsIn_wide (n := 3)).1 ?_
  have h1 : 1 ≤ 3 := by omega
  obtain ⟨a, c, rfl, _⟩ := hv.shape
  obtain ⟨i0, hi, hz0, hz1, hz2⟩ := info_parts infoPr
  have hRl := R_len l
  rw [bls_len] at *
  refine callsIn_of_wp_marks Try.func13 rfl trivial ?_ rfl
  simp only [Try.ntmps13, List.size_toArray, List.length_cons, List.length_nil, Nat.reduceAdd, Nat.reduceSub, Array.replicate_succ, Array.replicate_zero, List.push_toArray, List.append_toArray, List.nil_append, List.cons_append]
  gi_wp2_with (refine ⟨trivial, ?_⟩; gi_at_call 21; refine (callsIn_wide.2 (runs_any _ _ _ _)).mono ?_; rintro e w' ⟨rfl, rfl⟩)
  have bT := Boxed.new (w.alloc (.cells #[.slice none 0 0] 31)) 22 (.slice a l.length c)
  simp only [World.size_alloc] at bT
  refine wpIn_rangeFunc_ownF rfl h1 (gf := 25) (lb := #[.pointer (some ⟨w.heap.size + 1, 0, none⟩)]) rfl trivial (enters_of Try.func25 (by kernel_rfl) rfl)
    (runs_stops (3 - 1) (by omega) (w.heap.size + 1) w.heap.size l hl (.slice a l.length c) _ bT.lt (by simp; omega) bT.cell (hv.below (ball (ball (Below.refl _ _) (Nat.le_refl _)) (by simp)))) KB.trans (KB.put (by simp; omega) (by simp)) (Below.refl _ _) (fun _ => rfl)
    (RowI 31 33 2 prs (.slice a l.length c) w) (fun _ _ _ => False) (rowI_own _ _ _ _ _ w _ (by simp; omega)) (fun _ => no_own _) (rowI_start _ _ _ _ w _ rfl)
    (fun x => { tmps := #[.slice a l.length c, undef, .slice none 0 0, .pointer (some ⟨w.heap.size, 0, none⟩), .int .i64 (x.1 : Int), .int .i64 (x.2 : Int), .slice a l.length c,
      .func (.func 25) #[] #[.pointer (some ⟨w.heap.size + 1, 0, none⟩)], .int .i64 (x.1 : Int), .int .i64 (x.2 : Int), undef, undef, undef, undef, undef, undef, undef], defers := [] }) ?assign ?body ?done ?stop
  case assign =>
    intro l x W K hK
    gi_wp2
    exact hK
  case body =>
    rintro lb ps x W ⟨⟨⟨v, hb, hrow, -⟩, hbx⟩, hB⟩ hlt
    have c0 := hb.cell
    have f0 := hb.frozen
    obtain ⟨ao, cap, rfl⟩ := owns_form' hrow
    have hps : ps.length ≤ 399 := by omega
    gi_wp2_with (gi_at_builtin; refine wpListIn_append_own _ rfl _ _ 31 rfl w.heap.size 33 i0 (.agg #[.int .i64 0, .int .i64 0]) 2 16 Try.underlying31 hi hz0 hz1 hz2 rfl (by decide) _ _ _ rfl (hrow.alloc _) ⟨W.heap.size, 0, none⟩ 1 1 [.int .i64 (x.1 : Int), .int .i64 (x.2 : Int)] rfl rfl (cell_two_new _ _ _ _) (by intro u hu; simp at hu; rcases hu with rfl | rfl <;> rfl) (by unfold maxLen; omega) (by omega) (by have := hB.size; simp; omega) ?_; intro v' w1 hown' hgrow _; obtain ⟨g', cap', rfl⟩ := ownsRow_succ hown'; obtain ⟨hv1, hfin⟩ := rowI_next (x := x) hb (by decide) hrow hB hbx (by decide) hown' hgrow (by simp) (by rw [← prs_snoc]); have HF := Lib.hid hfin; have g3 := hv1.cell; have q3 := hv1.frozen; clear hfin)
    exact HF.out
  case done =>
    rintro D ys W hD rfl ⟨⟨⟨v, hb, hrow, -⟩, hbx⟩, hB⟩ hK
    have c0 := hb.cell
    obtain ⟨ao, cap, rfl⟩ := owns_form' hrow
    gi_wp2
    refine ⟨by simp, .inl ⟨_, _, rfl, run_takeDeferred hK, ?_⟩⟩
    refine ⟨_, results_tmp rfl _ _ _, _, rfl, ownsRow_putObj hrow _ hK rfl, hB.trans (belowK_b (w := w) (Nat.le_refl _) _ D _ _ (by simp at hD; omega) hK rfl rfl)⟩
  case stop =>
    rintro D c ps W hD hpre hF hK
    exact hF.elim
end Go.Proofs.Ytegcekniolajeaa.AF

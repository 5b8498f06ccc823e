/-
  What package alloc makes of the runs: how many are free, the longest, all, the first with room. Nothing here is a statement of the seed.
-/
import Derived.RangeFuncNested
import Derived.Test.YtegcekniolajeaaAllocIter
set_option linter.unusedSimpArgs false
set_option linter.unusedVariables false
namespace Go.Proofs.Ytegcekniolajeaa.AF
open Go.RowKit Go.Shelf AL NR

attribute [local go_sem] Oper.semAt_some

theorem keeps_below {w u : World} (hb : Below w.heap.size w u) : KeepsOthers w u := ⟨hb.size, fun k o hk _ => by
  have hlt := (Array.getElem?_eq_some_iff.1 hk).1
  rw [hb.block k hlt]
  exact hk⟩
theorem ball {w0 a : World} {o : Obj} {B : Nat} (h : Below B w0 a) (hB : B ≤ a.heap.size) : Below B w0 (a.alloc o) := h.alloc hB o
theorem boxed_keep {X Y : World} {B : Nat} {t : TypeId} {v : Value} {row : Option Nat} (h : Boxed X B t v) (hg : X.grownBy Y row) (hr : ∀ r, row = some r → ∃ o : Obj, X.heap[r]? = some o ∧ o.isCells = false) : Boxed Y B t v :=
  h.kept hg (fun e' => by obtain ⟨o, ho, hc⟩ := hr B e'.symm; rw [show X.heap[B]? = _ from h] at ho; cases ho; cases hc)
/-- a box that tells a number, right as long as what came are the first runs -/
def NumI (l : List Bool) (f : List Pr → Int) (w : World) (ps : List Pr) (W : World) : Prop := (∃ z : Int, Boxed W w.heap.size 3 (.int .i64 z) ∧ (ps <+: R l → z = f ps)) ∧ Below w.heap.size w W
theorem numI_own (l : List Bool) (f : List Pr → Int) (w : World) (B : Nat) (hB : w.heap.size ≤ B) : OwnFrom B (NumI l f w) :=
  OwnFrom.and (Own.from (fun s X Y row hs hg hr => by
    obtain ⟨z, hb, hz⟩ := hs
    exact ⟨z, boxed_keep hb hg hr, hz⟩) _) (ownFrom_below (Nat.le_refl _) hB)
theorem numI_start (l : List Bool) (f : List Pr → Int) (w : World) (v : Value) (hf : f [] = 0) : NumI l f w [] ((w.alloc (.cells #[.int .i64 0] 3)).alloc (.cells #[v] 22)) :=
  ⟨⟨0, (Boxed.new w 3 (.int .i64 0)).alloc _, fun _ => hf.symm⟩, ((Below.refl _ _).alloc (Nat.le_refl _) _).alloc (by simp) _⟩
theorem no_own {β : Type} (B : Nat) : OwnFrom B (fun (_ : β) (_ : World) => False) := fun _ _ _ _ h _ _ => h
theorem numI_next {l : List Bool} {f : List Pr → Int} {w W : World} {ps : List Pr} {x : Pr} {z z' : Int} (hb : Boxed W w.heap.size 3 (.int .i64 z)) (hB : Below w.heap.size w W) (hz : ps ++ [x] <+: R l → z' = f (ps ++ [x])) :
    KeepsOthers W (W.setCell ⟨w.heap.size, 0, none⟩ (.int .i64 z')) ∧ KB w.heap.size (w.heap.size + 1) W (W.setCell ⟨w.heap.size, 0, none⟩ (.int .i64 z')) ∧ NumI l f w (ps ++ [x]) (W.setCell ⟨w.heap.size, 0, none⟩ (.int .i64 z')) :=
  ⟨KeepsOthers.setCell _ _ _, ⟨(Below.refl _ _).setCell (p := ⟨w.heap.size, 0, none⟩) (Nat.le_refl _) _, Below.heap_setCell _ _ _ _ (by simp)⟩, ⟨_, hb.set _, hz⟩, hB.setCell (p := ⟨w.heap.size, 0, none⟩) (Nat.le_refl _) _⟩
theorem sum_bd {l : List Bool} (hl : l.length ≤ 400) {ps : List Pr} (h : ps <+: R l) : sum ps ≤ 400 := by
  obtain ⟨r, hr⟩ := h
  have h1 := sum_R l
  have h2 := fre_le l
  rw [← hr, sum_append] at h1
  omega
theorem sum_next {l : List Bool} (hl : l.length ≤ 400) {ps : List Pr} {x : Pr} {z : Int} (hz : ps <+: R l → z = sum ps) (h : ps ++ [x] <+: R l) : wrap64 (z + (x.2 : Int)) = (sum (ps ++ [x]) : Nat) := by
  have h1 := hz ((List.prefix_append ps [x]).trans h)
  have h2 := sum_bd hl h
  rw [sum_append] at h2 ⊢
  simp only [sum] at h2 ⊢
  rw [IntWalk.wrap64_in _ ⟨by omega, by omega⟩]
  omega
set_option maxRecDepth 100000 in
set_option maxHeartbeats 2000000 in
theorem free_any (l : List Bool) (v : Value) (w : World) (hv : Reads (· < w.heap.size) w v (bls l)) (hl : l.length ≤ 400) :
    Calls Try.prog 17 #[v] w fun e w' => e = .returned (.int .i64 (fre l : Int)) ∧ Below w.heap.size w w' := by
  refine (callsIn_wide (n := 3)).1 ?_
  have h1 : 1 ≤ 3 := by omega
  obtain ⟨a, c, rfl, _⟩ := hv.shape
  rw [bls_len] at *
  refine callsIn_of_wp_marks Try.func17 rfl trivial ?_ rfl
  simp only [Try.ntmps17, List.size_toArray, List.length_cons, List.length_nil, Nat.reduceAdd, Nat.reduceSub, Array.replicate_succ, Array.replicate_zero, List.push_toArray, List.append_toArray, List.nil_append, List.cons_append]
  gi_wp2_with (refine ⟨trivial, ?_⟩; gi_at_call 21; refine (callsIn_wide.2 (runs_any _ _ _ _)).mono ?_; rintro e w' ⟨rfl, rfl⟩)
  have bT := Boxed.new (w.alloc (.cells #[.int .i64 0] 3)) 22 (.slice a l.length c)
  simp only [World.size_alloc] at bT
  refine wpIn_rangeFunc_ownF rfl h1 (gf := 25) (lb := #[.pointer (some ⟨w.heap.size + 1, 0, none⟩)]) rfl trivial (enters_of Try.func25 (by kernel_rfl) rfl)
    (runs_stops (3 - 1) (by omega) (w.heap.size + 1) w.heap.size l hl (.slice a l.length c) _ bT.lt (by simp; omega) bT.cell (hv.below (ball (ball (Below.refl _ _) (Nat.le_refl _)) (by simp)))) KB.trans (KB.put (by simp; omega) (by simp)) (Below.refl _ _) (fun _ => rfl)
    (NumI l (fun ps => (sum ps : Nat)) w) (fun _ _ _ => False) (numI_own _ _ w _ (by simp; omega)) (fun _ => no_own _) (numI_start l _ w _ rfl)
    (fun x => { tmps := #[.slice a l.length c, undef, .int .i64 0, .pointer (some ⟨w.heap.size, 0, none⟩), undef, .int .i64 (x.2 : Int), .slice a l.length c,
      .func (.func 25) #[] #[.pointer (some ⟨w.heap.size + 1, 0, none⟩)], .int .i64 (x.1 : Int), .int .i64 (x.2 : Int), undef, undef, undef, undef], defers := [] }) ?assign ?body ?done ?stop
  case assign =>
    intro l x W K hK
    gi_wp2
    exact hK
  case body =>
    rintro lb ps x W ⟨⟨z, hb, hz⟩, hB⟩ hlt
    have c0 := hb.cell
    have f0 := hb.frozen
    have HN := Lib.hid (numI_next (f := fun ps => (sum ps : Nat)) (x := x) (z' := wrap64 (z + (x.2 : Int))) hb hB (sum_next hl hz))
    gi_wp2
    exact HN.out
  case done =>
    rintro D ys W hD rfl ⟨⟨z, hb, hz⟩, hB⟩ hK
    have c0 := hb.cell
    gi_wp2
    refine ⟨by simp, .inl ⟨_, _, rfl, run_takeDeferred hK, ?_⟩⟩
    refine ⟨_, results_tmp rfl _ _ _, ?_, hB.trans (belowK_b (w := w) (Nat.le_refl _) _ D _ _ (by simp at hD; omega) hK rfl rfl)⟩
    rw [sum_R]
    rfl
  case stop =>
    rintro D c ps W hD hpre hF hK
    exact hF.elim
theorem R_big {l : List Bool} {ps : List Pr} {x : Pr} {z : Int} (hz : ps <+: R l → z = (big ps : Nat)) (h : ps ++ [x] <+: R l) : max z (x.2 : Int) = (big (ps ++ [x]) : Nat) := by
  have h1 := hz ((List.prefix_append ps [x]).trans h)
  rw [big_append]
  simp only [big]
  omega
set_option maxRecDepth 100000 in
set_option maxHeartbeats 2000000 in
theorem longest_any (l : List Bool) (v : Value) (w : World) (hv : Reads (· < w.heap.size) w v (bls l)) (hl : l.length ≤ 400) :
    Calls Try.prog 15 #[v] w fun e w' => e = .returned (.int .i64 (big (R l) : Int)) ∧ Below w.heap.size w w' := by
  refine (callsIn_wide (n := 3)).1 ?_
  have h1 : 1 ≤ 3 := by omega
  obtain ⟨a, c, rfl, _⟩ := hv.shape
  rw [bls_len] at *
  refine callsIn_of_wp_marks Try.func15 rfl trivial ?_ rfl
  simp only [Try.ntmps15, List.size_toArray, List.length_cons, List.length_nil, Nat.reduceAdd, Nat.reduceSub, Array.replicate_succ, Array.replicate_zero, List.push_toArray, List.append_toArray, List.nil_append, List.cons_append]
  gi_wp2_with (refine ⟨trivial, ?_⟩; gi_at_call 21; refine (callsIn_wide.2 (runs_any _ _ _ _)).mono ?_; rintro e w' ⟨rfl, rfl⟩)
  have bT := Boxed.new (w.alloc (.cells #[.int .i64 0] 3)) 22 (.slice a l.length c)
  simp only [World.size_alloc] at bT
  refine wpIn_rangeFunc_ownF rfl h1 (gf := 25) (lb := #[.pointer (some ⟨w.heap.size + 1, 0, none⟩)]) rfl trivial (enters_of Try.func25 (by kernel_rfl) rfl)
    (runs_stops (3 - 1) (by omega) (w.heap.size + 1) w.heap.size l hl (.slice a l.length c) _ bT.lt (by simp; omega) bT.cell (hv.below (ball (ball (Below.refl _ _) (Nat.le_refl _)) (by simp)))) KB.trans (KB.put (by simp; omega) (by simp)) (Below.refl _ _) (fun _ => rfl)
    (NumI l (fun ps => (big ps : Nat)) w) (fun _ _ _ => False) (numI_own _ _ w _ (by simp; omega)) (fun _ => no_own _) (numI_start l _ w _ rfl)
    (fun x => { tmps := #[.slice a l.length c, undef, .int .i64 0, .pointer (some ⟨w.heap.size, 0, none⟩), undef, .int .i64 (x.2 : Int), .slice a l.length c,
      .func (.func 25) #[] #[.pointer (some ⟨w.heap.size + 1, 0, none⟩)], .int .i64 (x.1 : Int), .int .i64 (x.2 : Int), undef, undef, undef, undef], defers := [] }) ?assign ?body ?done ?stop
  case assign =>
    intro l x W K hK
    gi_wp2
    exact hK
  case body =>
    rintro lb ps x W ⟨⟨z, hb, hz⟩, hB⟩ hlt
    have c0 := hb.cell
    have f0 := hb.frozen
    by_cases hm : (x.2 : Int) ≤ z
    · have HN := Lib.hid (numI_next (f := fun ps => (big ps : Nat)) (x := x) (z' := z) hb hB (fun h => by have := R_big hz h; show z = _; omega))
      gi_wp2
      exact HN.out
    · have HN := Lib.hid (numI_next (f := fun ps => (big ps : Nat)) (x := x) (z' := x.2) hb hB (fun h => by have := R_big hz h; show _ = _; omega))
      gi_wp2
      exact HN.out
  case done =>
    rintro D ys W hD rfl ⟨⟨z, hb, hz⟩, hB⟩ hK
    have c0 := hb.cell
    gi_wp2
    refine ⟨by simp, .inl ⟨_, _, rfl, run_takeDeferred hK, ?_⟩⟩
    refine ⟨_, results_tmp rfl _ _ _, ?_, hB.trans (belowK_b (w := w) (Nat.le_refl _) _ D _ _ (by simp at hD; omega) hK rfl rfl)⟩
    rfl
  case stop =>
    rintro D c ps W hD hpre hF hK
    exact hF.elim
end Go.Proofs.Ytegcekniolajeaa.AF

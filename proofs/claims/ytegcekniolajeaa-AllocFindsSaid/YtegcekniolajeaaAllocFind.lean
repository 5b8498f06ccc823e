/-
  The first run with room, as package alloc finds it. Nothing here is a statement of the seed.
-/
import Derived.Test.YtegcekniolajeaaAllocUse2
set_option linter.unusedSimpArgs false
set_option linter.unusedVariables false
namespace Go.Proofs.Ytegcekniolajeaa.AF
open Go.RowKit Go.Shelf AL NR

attribute [local go_sem] Oper.semAt_some

def FndI (n : Nat) (w : World) (ps : List Pr) (W : World) : Prop := (Boxed W w.heap.size 3 (.int .i64 (n : Int)) ∧ (Boxed W (w.heap.size + 1) 3 (.int .i64 0) ∧ Boxed W (w.heap.size + 1 + 1) 24 (.int .i64 0)) ∧ (∀ p ∈ ps, ¬ n ≤ p.2)) ∧ Below w.heap.size w W
def FndX (n : Nat) (w : World) (c : Code) (ps : List Pr) (W : World) : Prop := (c = .ret ∧ ∃ init x, ps = init ++ [x] ∧ (∀ p ∈ init, ¬ n ≤ p.2) ∧ n ≤ x.2 ∧ Boxed W (w.heap.size + 1) 3 (.int .i64 (x.1 : Int)) ∧ Boxed W (w.heap.size + 1 + 1) 24 (.int .i64 0)) ∧ Below w.heap.size w W
theorem fndI_own (n : Nat) (w : World) (B : Nat) (hB : w.heap.size ≤ B) : OwnFrom B (FndI n w) :=
  OwnFrom.and (OwnFrom.and (Own.from (boxed_own _ _ _) _) (OwnFrom.and (OwnFrom.and (Own.from (boxed_own _ _ _) _) (Own.from (boxed_own _ _ _) _)) (ownFrom_pure _ _))) (ownFrom_below (Nat.le_refl _) hB)
theorem fndX_own (n : Nat) (w : World) (B : Nat) (hB : w.heap.size ≤ B) (c : Code) : OwnFrom B (FndX n w c) :=
  OwnFrom.and (Own.from (fun s X Y row hs hg hr => by
    obtain ⟨hc, init, x, e, h1, h2, b0, b1⟩ := hs
    exact ⟨hc, init, x, e, h1, h2, boxed_keep b0 hg hr, boxed_keep b1 hg hr⟩) _) (ownFrom_below (Nat.le_refl _) hB)
theorem fndI_start (n : Nat) (w : World) (v : Value) : FndI n w [] ((((w.alloc (.cells #[.int .i64 (n : Int)] 3)).alloc (.cells #[.int .i64 0] 3)).alloc (.cells #[.int .i64 0] 24)).alloc (.cells #[v] 22)) := by
  have b0 := Boxed.new w 3 (.int .i64 (n : Int))
  have b1 := Boxed.new (w.alloc (.cells #[.int .i64 (n : Int)] 3)) 3 (.int .i64 0)
  have b2 := Boxed.new ((w.alloc (.cells #[.int .i64 (n : Int)] 3)).alloc (.cells #[.int .i64 0] 3)) 24 (.int .i64 0)
  simp only [World.size_alloc] at b1 b2
  exact ⟨⟨((b0.alloc _).alloc _).alloc _, ⟨(b1.alloc _).alloc _, b2.alloc _⟩, by simp⟩, ball (ball (ball (ball (Below.refl _ _) (Nat.le_refl _)) (by simp)) (by simp; omega)) (by simp; omega)⟩
theorem load_boxed {w : World} {g : Nat} {t : TypeId} {v : Value} (h : Boxed w g t v) (hA : (isAgg t).run Try.prog w = .ok false w) : (loadVar t ⟨g, 0, none⟩).run Try.prog w = .ok v w := by
  unfold loadVar
  simp [Sem.run_bind, hA, Result.andThen, run_load, h.cell]
theorem results_two {fn : Func} (h : fn.results = #[.cell 4 3, .cell 5 24]) {tmps : Array Value} {w : World} {g0 g1 : Nat} {v0 v1 : Value} (i0 : tmps.getD 4 undef = .pointer (some ⟨g0, 0, none⟩)) (i1 : tmps.getD 5 undef = .pointer (some ⟨g1, 0, none⟩))
    (b0 : Boxed w g0 3 v0) (b1 : Boxed w g1 24 v1) : (results fn tmps).run Try.prog w = .ok (.tuple #[v0, v1]) w := by
  have l0 := load_boxed b0 (by kernel_rfl)
  have l1 := load_boxed b1 (by kernel_rfl)
  unfold results
  rw [h]
  simp only [Array.getD_eq_getD_getElem?] at i0 i1 ⊢
  simp [i0, i1, asAddr, l0, l1, Result.andThen, Array.mapM_eq_mapM_toList]
theorem boxed_put {X : World} {B D : Nat} {t : TypeId} {v : Value} (h : Boxed X B t v) (o : Obj) (hK : X.heap[D]? = some (.deferred (some []))) : Boxed (X.putObj D o) B t v :=
  boxed_keep h (grownBy_putObj' X D o) (fun r e => by cases e; exact ⟨_, hK, rfl⟩)
theorem find_first {l : List Bool} {n : Nat} (hn : 1 ≤ n) {init r : List Pr} {x : Pr} (e : R l = init ++ x :: r) (h1 : ∀ p ∈ init, ¬ n ≤ p.2) (h2 : n ≤ x.2) : findV l (n : Int) = .tuple #[.int .i64 (x.1 : Int), .int .i64 0] := by
  have h := find_R l n hn
  rw [e, List.find?_append] at h
  have h3 : init.find? (fun p => decide (n ≤ p.2)) = none := List.find?_eq_none.2 (fun p hp => by simpa using h1 p hp)
  rw [h3] at h
  simp [h2] at h
  unfold findV
  rw [if_neg (by omega), Int.toNat_natCast, ← h]
theorem find_none {l : List Bool} {n : Nat} (hn : 1 ≤ n) (h1 : ∀ p ∈ R l, ¬ n ≤ p.2) : findV l (n : Int) = .tuple #[.int .i64 0, .int .i64 7] := by
  have h := find_R l n hn
  have h3 : (R l).find? (fun p => decide (n ≤ p.2)) = none := List.find?_eq_none.2 (fun p hp => by simpa using h1 p hp)
  rw [h3] at h
  unfold findV
  rw [if_neg (by omega), Int.toNat_natCast, ← h]
  rfl
set_option maxRecDepth 100000 in
set_option maxHeartbeats 2000000 in
theorem find_low (a : Option Addr) (m c : Nat) (n : Int) (hn : n < 1) (w : World) :
    Calls Try.prog 10 #[.slice a m c, .int .i64 n] w fun e w' => e = .returned (.tuple #[.int .i64 0, .int .i64 2]) ∧ Below w.heap.size w w' := by
  have b0 := Boxed.new (w.alloc (.cells #[.int .i64 n] 3)) 3 (.int .i64 0)
  have b1 := Boxed.new ((w.alloc (.cells #[.int .i64 n] 3)).alloc (.cells #[.int .i64 0] 3)) 24 (.int .i64 2)
  simp only [World.size_alloc] at b0 b1
  have HB := Lib.hid (And.intro (b0.alloc (.cells #[.int .i64 2] 24)) b1)
  clear b0 b1
  go_enter Try.func10, Try.ntmps10
  go_wp2_with fail
  refine bodyPost_ret (results_two rfl rfl rfl HB.out.1 HB.out.2) rfl ?_
  exact ⟨rfl, ball (ball (ball (Below.refl _ _) (Nat.le_refl _)) (by simp)) (by simp; omega)⟩
set_option maxRecDepth 100000 in
set_option maxHeartbeats 2000000 in
theorem find_yes (l : List Bool) (v : Value) (w : World) (hv : Reads (· < w.heap.size) w v (bls l)) (hl : l.length ≤ 400) (n : Nat) (hn : 1 ≤ n) (hn2 : n ≤ 9223372036854775807) :
    Calls Try.prog 10 #[v, .int .i64 (n : Int)] w fun e w' => e = .returned (findV l n) ∧ Below w.heap.size w w' := by
  refine (callsIn_wide (n := 3)).1 ?_
  have h1 : 1 ≤ 3 := by omega
  obtain ⟨a, c, rfl, _⟩ := hv.shape
  rw [bls_len] at *
  have hn1 : (1 : Int) ≤ n := by omega
  refine callsIn_of_wp_marks Try.func10 rfl trivial ?_ rfl
  simp only [Try.ntmps10, List.size_toArray, List.length_cons, List.length_nil, Nat.reduceAdd, Nat.reduceSub, Array.replicate_succ, Array.replicate_zero, List.push_toArray, List.append_toArray, List.nil_append, List.cons_append]
  gi_wp2_with (refine ⟨trivial, ?_⟩; gi_at_call 21; refine (callsIn_wide.2 (runs_any _ _ _ _)).mono ?_; rintro e w' ⟨rfl, rfl⟩)
  have bT := Boxed.new (((w.alloc (.cells #[.int .i64 (n : Int)] 3)).alloc (.cells #[.int .i64 0] 3)).alloc (.cells #[.int .i64 0] 24)) 22 (.slice a l.length c)
  simp only [World.size_alloc] at bT
  refine wpIn_rangeFunc_ownF rfl h1 (gf := 25) (lb := #[.pointer (some ⟨w.heap.size + 1 + 1 + 1, 0, none⟩)]) rfl trivial (enters_of Try.func25 (by kernel_rfl) rfl)
    (runs_stops (3 - 1) (by omega) (w.heap.size + 1 + 1 + 1) w.heap.size l hl (.slice a l.length c) _ bT.lt (by simp; omega) bT.cell (hv.below (ball (ball (ball (ball (Below.refl _ _) (Nat.le_refl _)) (by simp)) (by simp; omega)) (by simp; omega)))) KB.trans (KB.put (by simp; omega) (by simp)) (Below.refl _ _) (fun _ => rfl)
    (FndI n w) (FndX n w) (fndI_own n w _ (by simp; omega)) (fndX_own n w _ (by simp; omega)) (fndI_start n w _)
    (fun x => { tmps := #[.slice a l.length c, .int .i64 (n : Int), undef, .pointer (some ⟨w.heap.size, 0, none⟩), .pointer (some ⟨w.heap.size + 1, 0, none⟩), .pointer (some ⟨w.heap.size + 1 + 1, 0, none⟩), .int .i64 (x.1 : Int), .int .i64 (x.2 : Int), .int .i64 (n : Int), .bool (decide ((n : Int) < 1)), .slice a l.length c,
      .func (.func 25) #[] #[.pointer (some ⟨w.heap.size + 1 + 1 + 1, 0, none⟩)], .int .i64 (x.1 : Int), .int .i64 (x.2 : Int), undef, undef, undef, undef], defers := [] }) ?assign ?body ?done ?stop
  case assign =>
    intro l x W K hK
    gi_wp2
    exact hK
  case body =>
    rintro lb ps x W ⟨⟨hb, ⟨b0, b1⟩, hno⟩, hB⟩ hlt
    have c := hb.cell
    have c0 := b0.cell
    have c1 := b1.cell
    have f0 := b0.frozen
    have f1 := b1.frozen
    by_cases hx : n ≤ x.2
    · have hx' : (n : Int) ≤ (x.2 : Int) := by omega
      have HN : Hid (KeepsOthers W ((W.setCell ⟨w.heap.size + 1, 0, none⟩ (.int .i64 (x.1 : Int))).setCell ⟨w.heap.size + 1 + 1, 0, none⟩ (.int .i64 0)) ∧ FndX n w .ret (ps ++ [x]) ((W.setCell ⟨w.heap.size + 1, 0, none⟩ (.int .i64 (x.1 : Int))).setCell ⟨w.heap.size + 1 + 1, 0, none⟩ (.int .i64 0))) :=
        Lib.hid ⟨(KeepsOthers.setCell _ _ _).trans (KeepsOthers.setCell _ _ _), ⟨rfl, ps, x, rfl, hno, hx, (b0.set _).other (by omega) _, (b1.other (by omega) _).set _⟩, (hB.setCell (p := ⟨w.heap.size + 1, 0, none⟩) (by simp) _).setCell (p := ⟨w.heap.size + 1 + 1, 0, none⟩) (by simp; omega) _⟩
      clear hx hno
      gi_wp2
      exact HN.out
    · have hx' : ¬ (n : Int) ≤ (x.2 : Int) := by omega
      have HN : Hid (KeepsOthers W W ∧ KB w.heap.size (w.heap.size + 1 + 1 + 1) W W ∧ FndI n w (ps ++ [x]) W) :=
        Lib.hid ⟨KeepsOthers.refl _, KB.refl _ _ _, ⟨hb, ⟨b0, b1⟩, fun p hp => (List.mem_append.1 hp).elim (hno p) (fun e => by simp at e; subst e; exact hx)⟩, hB⟩
      clear hx hno
      gi_wp2
      exact HN.out
  case done =>
    rintro D ys W hD rfl ⟨⟨hb, ⟨b0, b1⟩, hno⟩, hB⟩ hK
    have c0 := b0.cell
    have c1 := b1.cell
    have f0 := b0.frozen
    have f1 := b1.frozen
    have HE := Lib.hid (find_none hn hno)
    clear hno
    gi_wp2
    have s0 := (b0.set (.int .i64 0)).other (B' := w.heap.size + 1 + 1) (by omega) (.int .i64 7)
    have s1 := (b1.other (B' := w.heap.size + 1) (by omega) (.int .i64 0)).set (.int .i64 7)
    have hK' := ((KeepsOthers.setCell W ⟨w.heap.size + 1, 0, none⟩ (.int .i64 0)).trans (KeepsOthers.setCell _ ⟨w.heap.size + 1 + 1, 0, none⟩ (.int .i64 7))).same D _ hK rfl
    have hB' := (hB.setCell (p := ⟨w.heap.size + 1, 0, none⟩) (by simp) (.int .i64 0)).setCell (p := ⟨w.heap.size + 1 + 1, 0, none⟩) (by simp; omega) (.int .i64 7)
    refine ⟨by simp, .inl ⟨_, _, rfl, run_takeDeferred hK', ?_⟩⟩
    refine ⟨_, results_two rfl rfl rfl (boxed_put s0 _ hK') (boxed_put s1 _ hK'), by rw [HE.out], hB'.trans (belowK_b (w := w) (Nat.le_refl _) _ D _ _ (by simp at hD; omega) hK' rfl rfl)⟩
  case stop =>
    rintro D c ps W hD hpre ⟨⟨rfl, init, x, e, h1, h2, b0, b1⟩, hB⟩ hK
    obtain ⟨r, hr⟩ := hpre
    have HE := Lib.hid (find_first hn (init := init) (x := x) (r := r) (by rw [← hr, e]; simp) h1 h2)
    gi_wp2
    refine ⟨by simp, .inl ⟨_, _, rfl, run_takeDeferred hK, ?_⟩⟩
    refine ⟨_, results_two rfl rfl rfl (boxed_put b0 _ hK) (boxed_put b1 _ hK), by rw [HE.out], hB.trans (belowK_b (w := w) (Nat.le_refl _) _ D _ _ (by simp at hD; omega) hK rfl rfl)⟩
theorem find_any (l : List Bool) (v : Value) (w : World) (hv : Reads (· < w.heap.size) w v (bls l)) (hl : l.length ≤ 400) (n : Int) (hn : n ≤ 9223372036854775807) :
    Calls Try.prog 10 #[v, .int .i64 n] w fun e w' => e = .returned (findV l n) ∧ Below w.heap.size w w' := by
  by_cases h : n < 1
  · obtain ⟨a, c, rfl, _⟩ := hv.shape
    unfold findV
    rw [if_pos h]
    exact find_low _ _ _ _ h _
  · obtain ⟨N, rfl⟩ := Int.eq_ofNat_of_zero_le (show 0 ≤ n by omega)
    exact find_yes l v w hv hl N (by omega) (by omega)
end Go.Proofs.Ytegcekniolajeaa.AF

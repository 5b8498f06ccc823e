/-
  A whole table taken out of its box and laid into one: one step each. Nothing here is a statement of the seed.
-/
import Derived.Test.YtigalcmhongleaaGtRef
import Derived.Deep.RegionHeld3
set_option linter.unusedSimpArgs false
set_option linter.unusedVariables false
namespace Go.Proofs.Ytigalcmhongleaa.GF
open Go.RowKit WM NR OM OR GA
set_option maxHeartbeats 4000000
set_option maxRecDepth 10000
section
variable {w : World} {b : Nat} {t : TypeId} {f : Tb} {cs : Array Value}
theorem range_T (h : Whole w b t (tC f)) : w.rangeAt b 0 (tC f).toList := fun j v hv => by rw [Nat.zero_add, h.cell, ← hv, Array.getElem?_toList]
theorem there_T (h : Whole w b t cs) (hs : cs.size = 24) (f : Tb) : w.there b 0 (tC f).size := fun j hj => by
  have hj' : j < cs.size := by rw [hs]; exact hj
  refine ⟨?_, h.frozen _⟩
  rw [h.cell, Nat.zero_add, Array.getElem?_eq_getElem hj']
  rfl
theorem one_T (f : Tb) : (tC f).all (·.oneCell') = true := by simp [Value.oneCell', tC]
theorem putT_whole (h : Whole w b t cs) (hs : cs.size = 24) (f : Tb) : Whole (putT w b f) b t (tC f) := by
  have key : ∀ (l : List Value) (o : Nat) (u : World) (ds : Array Value), Whole u b t ds → ds.size = o + l.length → Whole (u.setCells b o l) b t ((ds.toList.take o ++ l).toArray) := by
    intro l
    induction l with
    | nil =>
      intro o u ds hu hd
      rw [List.append_nil, List.take_of_length_le (by simp at hd ⊢; omega)]
      exact hu
    | cons x l ih =>
      intro o u ds hu hd
      have h2 := ih (o + 1) (u.setCell ⟨b, o, none⟩ x) (ds.setIfInBounds o x) (hu.set_ o x) (by simp at hd ⊢; omega)
      have e : (ds.setIfInBounds o x).toList.take (o + 1) = ds.toList.take o ++ [x] := by
        rw [Array.toList_setIfInBounds, List.take_add_one, List.take_set_of_le (Nat.le_refl o)]
        simp only [List.length_cons] at hd
        rw [List.getElem?_set_self (by simp; omega)]
        rfl
      rw [e, List.append_assoc] at h2
      exact h2
  have := key (tC f).toList 0 w cs h (by rw [hs]; rfl)
  simpa [putT] using this
theorem putT_far (h : Whole w b t cs) {p : Nat} (hp : b ≠ p) (f : Tb) : Whole (putT w p f) b t cs := h.fr (putT_fr w p f) (fun e => hp e)
theorem putT_below {B : Nat} {w0 : World} {p : Nat} (h : Below B w0 w) (hs : B ≤ w.heap.size) (hp : B ≤ p) (f : Tb) : Below B w0 (putT w p f) := Below.fr h (putT_fr w p f) hs (fun i hi => by subst hi; exact hp)
/-- a load of the whole, at the list of a plain region's operations -/
theorem wl_T {ops : Array Oper} {rest : List Oper} {op : Oper} {a : Act} {Q : Exit → Act → World → Prop} (hgd : op.guard = none) (x : Operand) (ho : op.op = .load 32 x) (hx : a.eval x = .pointer (some ⟨b, 0, none⟩)) (hW : Whole w b t (tC f)) (h : wpList Try.prog ops Q rest (a.put op.dst (tV f)) w) : wpList Try.prog ops Q (op :: rest) a w :=
  wpList_load_mid hgd _ x ho b 0 hx (tC f).toList _ (range_T hW) Try.underlying32 rfl infoT h
/-- a store of the whole, likewise -/
theorem wst_T {ops : Array Oper} {rest : List Oper} {op : Oper} {a : Act} {Q : Exit → Act → World → Prop} (hgd : op.guard = none) (x y : Operand) (ho : op.op = .store 32 x y) (hd : op.dst = none) (hx : a.eval x = .pointer (some ⟨b, 0, none⟩)) (hy : a.eval y = tV f) (hW : Whole w b t cs) (hs : cs.size = 24) (h : wpList Try.prog ops Q rest a (putT w b f)) : wpList Try.prog ops Q (op :: rest) a w :=
  wpList_store_mid hgd _ x y ho b 0 _ hx hy (there_T hW hs f) infoT (one_T f) (by rw [hd]; exact h)
/-- a store of the whole, in a region that draws its order -/
theorem ws_T {op : Oper} {a : Act} {K : Act → World → Prop} {Q : Exit → Act → World → Prop} {x y : Operand} (ho : op.op = .store 32 x y) (hd : op.dst = none) (hW : Whole w b t cs) (hs : cs.size = 24) (hx : a.eval x = .pointer (some ⟨b, 0, none⟩)) (hy : a.eval y = tV f) (h : K a (putT w b f)) : op.wp Try.prog a w K Q :=
  wp_store_mid _ x y ho b 0 _ hx hy (there_T hW hs f) infoT (one_T f) (by rw [hd]; exact h)
/-- a load of the whole may be taken first -/
theorem yl_T {ops : Array Oper} {S : World → Prop} {op : Oper} {a : Act} (hw : Region.wanted op (yielded ops a.tmps) = true) (x : Operand) (ho : op.op = .load 32 x) (hx : a.eval x = .pointer (some ⟨b, 0, none⟩)) (hS : ∀ w, S w → Whole w b t (tC f)) : YieldsIf Try.prog ops S op (tV f) a :=
  yieldsIf_load_mid hw _ x ho b 0 hx (tC f).toList _ (fun w h => range_T (hS w h)) Try.underlying32 rfl infoT
/-- a result told by its box -/
theorem res_T (h : Whole w b t (tC f)) : (loadVar 32 ⟨b, 0, none⟩).run Try.prog w = .ok (tV f) w :=
  run_loadVar_mid w b 0 _ (tC f).toList _ (range_T h) Try.underlying32 rfl infoT
end
section
variable {w : World} {f : Tb}
theorem refGet_any (g : Int) : Calls Try.prog 23 #[tV f, .int .i64 g] w fun e u => e = .returned (bdV (getM f g)) ∧ Below w.heap.size w u := by
  have b1 := below_new w (.cells (tC f) 32)
  have b2 := below_new (w.alloc (.cells (tC f) 32)) (.cells #[.string ⟨#[]⟩, .int .u16 0, .int .u32 0] 29)
  have HX := Lib.hid ((Whole.new w 32 (tC f)).belowS b2)
  have hy := Whole.new (w.alloc (.cells (tC f) 32)) 29 #[.string ⟨#[]⟩, .int .u16 0, .int .u32 0]
  rw [show (w.alloc (.cells (tC f) 32)).heap.size = w.heap.size + 1 by simp] at hy
  have HY := Lib.hid hy
  have HB := Lib.hid (b1.trans (b2.mono b1.size))
  clear hy b1 b2
  have fin : ∀ (W : World) (b : Bd), Whole W (w.heap.size + 1) 29 #[.string ⟨#[]⟩, .int .u16 0, .int .u32 0] → Whole (((W.setCell ⟨w.heap.size + 1, 0, none⟩ (.string (bs b.nm))).setCell ⟨w.heap.size + 1, 1, none⟩ (.int .u16 b.ow)).setCell ⟨w.heap.size + 1, 2, none⟩ (.int .u32 b.bs)) (w.heap.size + 1) 29 (bdC b) := fun W b h => ((h.set_ 0 _).set_ 1 _).set_ 2 _
  have HF := Lib.hid fin
  clear fin
  by_cases hg : 0 ≤ g ∧ g ≤ 7
  · obtain ⟨g1, g2⟩ := hg
    have e1 : getM f g = f g.toNat := if_pos ⟨g1, g2⟩
    rw [e1]
    obtain ⟨k, rfl⟩ : ∃ k : Nat, g = (k : Int) := ⟨g.toNat, by omega⟩
    have k8 : k < 8 := by omega
    have k8' : (k : Int) < 8 := by omega
    have hd1 : decide ((k : Int) < 0) = false := decide_eq_false (by omega)
    have hd2 : decide ((7 : Int) < (k : Int)) = false := decide_eq_false (by omega)
    rw [show ((k : Int)).toNat = k by omega]
    clear e1
    go_enter Try.func23, Try.ntmps23
    go_upto_region 1 with fail
    generalize (w.alloc (.cells (tC f) 32)).alloc (.cells #[.string ⟨#[]⟩, .int .u16 0, .int .u32 0] 29) = W at *
    obtain ⟨y0, y1, y2⟩ := box_at HX.out k8
    have x6 := HX.out.lt
    have z6 := HY.out.lt
    have f0 := HY.out.frozen 0
    have f1 := HY.out.frozen 1
    have f2 := HY.out.frozen 2
    obtain ⟨c0, c1, c2⟩ : W.cell? ⟨w.heap.size + 1, 0, none⟩ = some (.string ⟨#[]⟩) ∧ W.cell? ⟨w.heap.size + 1, 1, none⟩ = some (.int .u16 0) ∧ W.cell? ⟨w.heap.size + 1, 2, none⟩ = some (.int .u32 0) := ⟨HY.out.cell 0, HY.out.cell 1, HY.out.cell 2⟩
    obtain ⟨r0, r1, r2⟩ := bd_cells (HF.out W (f k) HY.out)
    go_wp2_with fail
    exact bodyPost_ret (v := bdV (f k)) (by simp [results, Try.results23, go_sem, r0, r1, r2]) rfl ⟨rfl, ((HB.out.setCell (by simp) _).setCell (by simp) _).setCell (by simp) _⟩
  · have e1 : getM f g = b0 := if_neg hg
    rw [e1]
    have hd : decide (g < 0) = true ∨ decide (g < 0) = false ∧ decide ((7 : Int) < g) = true := by
      by_cases h : g < 0
      · exact Or.inl (decide_eq_true h)
      · exact Or.inr ⟨decide_eq_false h, decide_eq_true (by omega)⟩
    clear e1
    go_enter Try.func23, Try.ntmps23
    go_upto_region 1 with fail
    generalize (w.alloc (.cells (tC f) 32)).alloc (.cells #[.string ⟨#[]⟩, .int .u16 0, .int .u32 0] 29) = W at *
    have z6 := HY.out.lt
    have f0 := HY.out.frozen 0
    have f1 := HY.out.frozen 1
    have f2 := HY.out.frozen 2
    obtain ⟨c0, c1, c2⟩ : W.cell? ⟨w.heap.size + 1, 0, none⟩ = some (.string ⟨#[]⟩) ∧ W.cell? ⟨w.heap.size + 1, 1, none⟩ = some (.int .u16 0) ∧ W.cell? ⟨w.heap.size + 1, 2, none⟩ = some (.int .u32 0) := ⟨HY.out.cell 0, HY.out.cell 1, HY.out.cell 2⟩
    obtain ⟨r0, r1, r2⟩ : (((W.setCell ⟨w.heap.size + 1, 0, none⟩ (.string ⟨#[]⟩)).setCell ⟨w.heap.size + 1, 1, none⟩ (.int .u16 0)).setCell ⟨w.heap.size + 1, 2, none⟩ (.int .u32 0)).cell? ⟨w.heap.size + 1, 0, none⟩ = some (.string ⟨#[]⟩) ∧ (((W.setCell ⟨w.heap.size + 1, 0, none⟩ (.string ⟨#[]⟩)).setCell ⟨w.heap.size + 1, 1, none⟩ (.int .u16 0)).setCell ⟨w.heap.size + 1, 2, none⟩ (.int .u32 0)).cell? ⟨w.heap.size + 1, 1, none⟩ = some (.int .u16 0) ∧ (((W.setCell ⟨w.heap.size + 1, 0, none⟩ (.string ⟨#[]⟩)).setCell ⟨w.heap.size + 1, 1, none⟩ (.int .u16 0)).setCell ⟨w.heap.size + 1, 2, none⟩ (.int .u32 0)).cell? ⟨w.heap.size + 1, 2, none⟩ = some (.int .u32 0) := bd_cells (HF.out W b0 HY.out)
    rcases hd with hd | ⟨hd, hd'⟩
    · go_wp2_with fail
      exact bodyPost_ret (v := .agg #[.string ⟨#[]⟩, .int .u16 0, .int .u32 0]) (by simp [results, Try.results23, go_sem, r0, r1, r2]) rfl ⟨rfl, ((HB.out.setCell (by simp) _).setCell (by simp) _).setCell (by simp) _⟩
    · go_wp2_with fail
      exact bodyPost_ret (v := .agg #[.string ⟨#[]⟩, .int .u16 0, .int .u32 0]) (by simp [results, Try.results23, go_sem, r0, r1, r2]) rfl ⟨rfl, ((HB.out.setCell (by simp) _).setCell (by simp) _).setCell (by simp) _⟩
end
end Go.Proofs.Ytigalcmhongleaa.GF

/-
  The reference of layer 13: names counted. Nothing here is a statement of the seed.
-/
import Derived.Test.YtajidaicojekdaaSymRem
set_option linter.unusedSimpArgs false
set_option linter.unusedVariables false
namespace Go.Proofs.Ytajidaicojekdaa.SF
open Go.RowKit WM NR OM OR SM SR
set_option maxHeartbeats 4000000
set_option maxRecDepth 10000
theorem owns_put {u : World} {B g n c i : Nat} {e : TypeId} {size : Nat} {xs : List Value} (h : u.ownsRow B e size (.slice (some ⟨g, 0, none⟩) n c) n xs) (hi : i < n * size) (y : Value) : (u.setCell ⟨g, i, none⟩ y).ownsRow B e size (.slice (some ⟨g, 0, none⟩) n c) n (xs.set i y) := by
  have hl := h.1
  refine ⟨by rw [List.length_set]; exact h.1, ?_⟩
  rcases h.2 with ⟨h0, _⟩ | ⟨g', cap, cur, e1, hg, hh, h3, h4, h5, h6⟩
  · cases h0
  · simp only [Value.slice.injEq, Option.some.injEq, Addr.mk.injEq, and_true, true_and] at e1
    obtain ⟨rfl, rfl⟩ := e1
    refine Or.inr ⟨g, c, cur.setIfInBounds i y, rfl, hg, ?_, h3, h4, by rw [Array.size_setIfInBounds]; exact h5, ?_⟩
    · exact Whole.set_ (g := g) (t := e) (cs := cur) hh i y
    · rw [Array.toList_setIfInBounds, List.take_set, h6]
theorem eC_set : ∀ (l : List En) (k : Nat) (r : Int), k < l.length → (eC l).set (k * 5 + 4) (.int .i64 r) = eC (l.set k { l.getD k e0 with refs := r })
  | [], k, r, h => by simp at h
  | e :: l, 0, r, h => rfl
  | e :: l, k + 1, r, h => by
    have ih := eC_set l k r (by simpa using h)
    have e1 : (k + 1) * 5 + 4 = (k * 5 + 4) + 1 + 1 + 1 + 1 + 1 := by omega
    rw [e1]
    simp only [eC, List.set_cons_succ, List.getD_cons_succ]
    rw [ih]
/-- the table's box and the result's, on the way -/
structure TJ (w : World) (cs ds : Array Value) (u : World) : Prop where
  X : Whole u w.heap.size 29 cs
  Y : Whole u (w.heap.size + 1) 29 ds
  B : Below w.heap.size w u
theorem TJ.belowS {w u u' : World} {cs ds : Array Value} (h : TJ w cs ds u) (hb : Below u.heap.size u u') : TJ w cs ds u' := ⟨h.X.belowS hb, h.Y.belowS hb, h.B.trans (hb.mono h.B.size)⟩
theorem TJ.new (w : World) (cs ds : Array Value) : TJ w cs ds ((w.alloc (.cells cs 29)).alloc (.cells ds 29)) := by
  have b0 := below_new w (.cells cs 29)
  have b1 := below_new (w.alloc (.cells cs 29)) (.cells ds 29)
  have s0 : (w.alloc (.cells cs 29)).heap.size = w.heap.size + 1 := by simp
  have y := Whole.new (w.alloc (.cells cs 29)) 29 ds
  rw [s0] at y
  exact ⟨(Whole.new w _ _).belowS b1, y, b0.trans (b1.mono b0.size)⟩
theorem cnt_split (by_ : Int) (l : List En) (ns : List (List UInt8)) (k : Nat) (hk : k < ns.length) (h0 : (cntF by_ l (ns.take k)).2 = 0) : cntF by_ l ns = cntF by_ (cntF by_ l (ns.take k)).1 (ns.getD k [] :: ns.drop (k + 1)) := by
  have e : ns = ns.take k ++ ns.getD k [] :: ns.drop (k + 1) := by
    rw [List.getD_eq_getElem?_getD, List.getElem?_eq_getElem hk]
    show ns = ns.take k ++ ns[k] :: ns.drop (k + 1)
    rw [← List.drop_eq_getElem_cons hk, List.take_append_drop]
  conv => lhs; rw [e]
  rw [cntF_append, if_pos h0]
theorem cnt_step (by_ : Int) (l : List En) (ns : List (List UInt8)) (k : Nat) (hk : k < ns.length) (h0 : (cntF by_ l (ns.take k)).2 = 0) : cntF by_ l (ns.take (k + 1)) = cntF by_ (cntF by_ l (ns.take k)).1 [ns.getD k []] := by
  rw [take_succ_getD ns [] k hk, cntF_append, if_pos h0]
theorem plc_cnt (by_ : Int) (l : List En) (ns : List (List UInt8)) (s : List UInt8) : plc (cntF by_ l ns).1 s = plc l s := plc_names s (cntF_names by_ ns l)
theorem cnt_len (by_ : Int) (l : List En) (ns : List (List UInt8)) : (cntF by_ l ns).1.length = l.length := by
  have := congrArg List.length (cntF_names by_ ns l)
  simpa using this
theorem cnt_post {G : Nat → Prop} {w u : World} {ma : Option Addr} {mn mc : Nat} {la : Option Addr} {ln lc : Nat} {t : Tb} {a7 : Option Addr} {cc7 : Nat} {l' : List En} {ds : Array Value} (hm : Reads G w (.slice ma mn mc) (strs t.mods)) (hG : ∀ g, G g → g < w.heap.size) (h : TJ w (tbC ma mn mc la ln lc) ds u) (ho : u.ownsRow (w.heap.size + 2) 92 5 (.slice a7 ln cc7) ln (eC l')) :
    IsT G ⟨t.mods, l'⟩ 0 w (.returned (.tuple #[tbV ma mn mc a7 ln cc7, .int .i64 0])) (((u.setCell ⟨w.heap.size, 1, none⟩ (.slice a7 ln cc7)).setCell ⟨w.heap.size + 1, 0, none⟩ (.slice ma mn mc)).setCell ⟨w.heap.size + 1, 1, none⟩ (.slice a7 ln cc7)) := by
  have hO := owns_set (b := w.heap.size + 1) (i := 1) (owns_set (b := w.heap.size + 1) (i := 0) (owns_set (b := w.heap.size) (i := 1) ho (by omega) (.slice a7 ln cc7)) (by omega) (.slice ma mn mc)) (by omega) (.slice a7 ln cc7)
  have hB : Below w.heap.size w (((u.setCell ⟨w.heap.size, 1, none⟩ (.slice a7 ln cc7)).setCell ⟨w.heap.size + 1, 0, none⟩ (.slice ma mn mc)).setCell ⟨w.heap.size + 1, 1, none⟩ (.slice a7 ln cc7)) := ((h.B.setCell (by simp) _).setCell (by simp) _).setCell (by simp) _
  refine ⟨_, _, _, _, _, _, rfl, ⟨(hm.keep fun g hg _ => hB.block g (hG g hg)).mono fun g hg => ⟨Or.inl hg, Nat.lt_of_lt_of_le (hG g hg) hB.size⟩, ?_⟩, hB⟩
  have hl : l'.length = ln := by have := ho.1; rw [eC_len] at this; omega
  subst hl
  exact (ReadsE.of_owns hO).mono fun g hg => ⟨Or.inr (by omega), (owns_lt hO hg.2).2⟩
section
variable {w : World} {ma : Option Addr} {mn mc : Nat} {la : Option Addr} {ln lc : Nat} {t : Tb} {na : Option Addr} {nn nc : Nat} {ns : List (List UInt8)}
end
end Go.Proofs.Ytajidaicojekdaa.SF

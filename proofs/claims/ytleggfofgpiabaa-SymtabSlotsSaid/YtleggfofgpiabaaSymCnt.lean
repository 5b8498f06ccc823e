/-
  The reference of layer 13: names counted. Nothing here is a statement of the seed.
-/
import Derived.Test.YtleggfofgpiabaaSymRem
set_option linter.unusedSimpArgs false
set_option linter.unusedVariables false
namespace Go.Proofs.Ytleggfofgpiabaa.SF
open Go.RowKit WM NR OM OR SM SR
set_option maxHeartbeats 4000000
set_option maxRecDepth 10000
theorem owns_put {u : World} {B g n c i : Nat} {e : TypeId} {size : Nat} {xs : List Value} (h : u.ownsRow B e size (.slice (some ⟨g, 0, none⟩) n c) n xs) (hi : i < n * size) (y : Value) : (u.setCell ⟨g, i, none⟩ y).ownsRow B e size (.slice (some ⟨g, 0, none⟩) n c) n (xs.set i y) := by
  have hl := h.1
  refine ⟨by rw [List.length_set]; exact h.1, ?_⟩
  rcases h.2 with ⟨h0, _⟩ | ⟨g', cap, cur, e1, hg, hh, h3, h4, h5, h6⟩
  · cases h0
  · simp only [Value.slice.injEq, Option.some.injEq, Addr.mk.injEq, and_true, true_and] at e1
    obtain ⟨rfl, rfl⟩ := e1
    refine Or.inr ⟨g, c, cur.setIfInBounds i y, rfl, hg, ?_, h3, h4, by rw [Array.size_setIfInBounds]; exact h5, ?_⟩
    · exact Whole.set_ (g := g) (t := e) (cs := cur) hh i y
    · rw [Array.toList_setIfInBounds, List.take_set, h6]
theorem eC_set : ∀ (l : List En) (k : Nat) (r : Int), k < l.length → (eC l).set (k * 5 + 4) (.int .i64 r) = eC (l.set k { l.getD k e0 with refs := r })
  | [], k, r, h => by simp at h
  | e :: l, 0, r, h => rfl
  | e :: l, k + 1, r, h => by
    have ih := eC_set l k r (by simpa using h)
    have e1 : (k + 1) * 5 + 4 = (k * 5 + 4) + 1 + 1 + 1 + 1 + 1 := by omega
    rw [e1]
    simp only [eC, List.set_cons_succ, List.getD_cons_succ]
    rw [ih]
theorem cnt_split (by_ : Int) (l : List En) (ns : List (List UInt8)) (k : Nat) (hk : k < ns.length) (h0 : (cntF by_ l (ns.take k)).2 = 0) : cntF by_ l ns = cntF by_ (cntF by_ l (ns.take k)).1 (ns.getD k [] :: ns.drop (k + 1)) := by
  have e : ns = ns.take k ++ ns.getD k [] :: ns.drop (k + 1) := by
    rw [List.getD_eq_getElem?_getD, List.getElem?_eq_getElem hk]
    show ns = ns.take k ++ ns[k] :: ns.drop (k + 1)
    rw [← List.drop_eq_getElem_cons hk, List.take_append_drop]
  conv => lhs; rw [e]
  rw [cntF_append, if_pos h0]
theorem cnt_step (by_ : Int) (l : List En) (ns : List (List UInt8)) (k : Nat) (hk : k < ns.length) (h0 : (cntF by_ l (ns.take k)).2 = 0) : cntF by_ l (ns.take (k + 1)) = cntF by_ (cntF by_ l (ns.take k)).1 [ns.getD k []] := by
  rw [take_succ_getD ns [] k hk, cntF_append, if_pos h0]
theorem plc_cnt (by_ : Int) (l : List En) (ns : List (List UInt8)) (s : List UInt8) : plc (cntF by_ l ns).1 s = plc l s := plc_names s (cntF_names by_ ns l)
theorem cnt_len (by_ : Int) (l : List En) (ns : List (List UInt8)) : (cntF by_ l ns).1.length = l.length := by
  have := congrArg List.length (cntF_names by_ ns l)
  simpa using this
section
variable {w : World} {ma : Option Addr} {mn mc : Nat} {la : Option Addr} {ln lc : Nat} {t : Tb} {na : Option Addr} {nn nc : Nat} {ns : List (List UInt8)}
end
end Go.Proofs.Ytleggfofgpiabaa.SF

/-
  The reference of layer 13: a module removed. Nothing here is a statement of the seed.
-/
import Derived.Test.YtleggfofgpiabaaSymRef2
import Derived.Test.YtleggfofgpiabaaSymApp
set_option linter.unusedSimpArgs false
set_option linter.unusedVariables false
namespace Go.Proofs.Ytleggfofgpiabaa.SF
open Go.RowKit WM NR OM OR SM SR
set_option maxHeartbeats 4000000
set_option maxRecDepth 10000
/-- a table and a code come back -/
def IsT (G : Nat → Prop) (t : Tb) (k : Int) (w : World) : Ending → World → Prop := fun e w' => ∃ ma mn mc la ln lc, e = .returned (.tuple #[tbV ma mn mc la ln lc, .int .i64 k]) ∧ RdT (fun g => (G g ∨ w.heap.size ≤ g) ∧ g < w'.heap.size) w' ma mn mc la ln lc t ∧ Below w.heap.size w w'
theorem owns_whole {u : World} {B : Nat} {e : TypeId} {size n : Nat} {v : Value} {xs : List Value} (h : u.ownsRow B e size v n xs) {g : Nat} (hg : v.ownBlock = some g) : ∃ cur, Whole u g e cur := by
  rcases h.2 with ⟨rfl, _⟩ | ⟨g', cap, cur, rfl, hb, hh, _⟩
  · simp [Value.ownBlock] at hg
  · simp [Value.ownBlock] at hg
    subst hg
    exact ⟨cur, hh⟩
theorem owns_ne {u : World} {B B' : Nat} {e e' : TypeId} {size size' n n' : Nat} {v v' : Value} {xs xs' : List Value} (h : u.ownsRow B e size v n xs) (h' : u.ownsRow B' e' size' v' n' xs') (hne : e ≠ e') : ∀ g, v.ownBlock = some g → v'.ownBlock ≠ some g := fun g hg hg' => by
  obtain ⟨c, hc⟩ := owns_whole h hg
  obtain ⟨c', hc'⟩ := owns_whole h' hg'
  exact Whole.ne_ hc hc' hne rfl
theorem owns_off {u u' : World} {B : Nat} {e : TypeId} {size n : Nat} {v : Value} {xs : List Value} {r : Option Nat} (h : u.ownsRow B e size v n xs) (hg : u.grownBy u' r) (hne : ∀ g, v.ownBlock = some g → r ≠ some g) : u'.ownsRow B e size v n xs := by
  refine ⟨h.1, ?_⟩
  rcases h.2 with h0 | ⟨g, cap, cur, rfl, hb, hh, h3, h4, h5, h6⟩
  · exact Or.inl h0
  · exact Or.inr ⟨g, cap, cur, rfl, hb, by rw [hg.block g (Array.getElem?_eq_some_iff.1 hh).1 (fun e => hne g rfl e.symm)]; exact hh, h3, h4, h5, h6⟩
theorem owns_set {u : World} {B b i : Nat} {e : TypeId} {size n : Nat} {v : Value} {xs : List Value} (h : u.ownsRow B e size v n xs) (hb : b < B) (y : Value) : (u.setCell ⟨b, i, none⟩ y).ownsRow B e size v n xs := by
  refine ⟨h.1, ?_⟩
  rcases h.2 with h0 | ⟨g, cap, cur, rfl, hg, hh, h3, h4, h5, h6⟩
  · exact Or.inl h0
  · refine Or.inr ⟨g, cap, cur, rfl, hg, ?_, h3, h4, h5, h6⟩
    rw [Below.heap_setCell _ _ _ _ (show g ≠ b by omega)]
    exact hh
section
variable {w u u' : World} {p : Nat} {cs ds : Array Value} {v : Value} {n : Nat} {l : List (List UInt8)} {v' : Value} {n' : Nat} {l' : List En}
end
theorem filter_yes {α : Type} (l : List α) (d : α) (f : α → Bool) (k : Nat) (h : k < l.length) (hf : f (l.getD k d) = true) : (l.take (k + 1)).filter f = (l.take k).filter f ++ [l.getD k d] := by rw [take_succ_getD l d k h, List.filter_append]; simp only [List.filter_cons, hf, if_true, List.filter_nil]
theorem filter_no {α : Type} (l : List α) (d : α) (f : α → Bool) (k : Nat) (h : k < l.length) (hf : f (l.getD k d) = false) : (l.take (k + 1)).filter f = (l.take k).filter f := by rw [take_succ_getD l d k h, List.filter_append]; simp only [List.filter_cons, hf, Bool.false_eq_true, if_false, List.filter_nil, List.append_nil]
section
variable {w : World} {ma : Option Addr} {mn mc : Nat} {la : Option Addr} {ln lc : Nat} {t : Tb}
/-- a table told as it came -/
theorem ist_same {G : Nat → Prop} (h : RdT G w ma mn mc la ln lc t ∧ ∀ g, G g → g < w.heap.size) {u : World} {k : Int} (hb : Below w.heap.size w u) : IsT G t k w (.returned (.tuple #[tbV ma mn mc la ln lc, .int .i64 k])) u := ⟨_, _, _, _, _, _, rfl, (h.1.keep fun g hg _ => hb.block g (h.2 g hg)).mono fun g hg => ⟨Or.inl hg, Nat.lt_of_lt_of_le (h.2 g hg) hb.size⟩, hb⟩
end
end Go.Proofs.Ytleggfofgpiabaa.SF

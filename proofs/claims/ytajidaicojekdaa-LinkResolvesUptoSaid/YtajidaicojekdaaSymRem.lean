/-
  The reference of layer 13: a module removed. Nothing here is a statement of the seed.
-/
import Derived.Test.YtajidaicojekdaaSymRef2
import Derived.Test.YtajidaicojekdaaSymApp
set_option linter.unusedSimpArgs false
set_option linter.unusedVariables false
namespace Go.Proofs.Ytajidaicojekdaa.SF
open Go.RowKit WM NR OM OR SM SR
set_option maxHeartbeats 4000000
set_option maxRecDepth 10000
/-- a table and a code come back -/
def IsT (G : Nat → Prop) (t : Tb) (k : Int) (w : World) : Ending → World → Prop := fun e w' => ∃ ma mn mc la ln lc, e = .returned (.tuple #[tbV ma mn mc la ln lc, .int .i64 k]) ∧ RdT (fun g => (G g ∨ w.heap.size ≤ g) ∧ g < w'.heap.size) w' ma mn mc la ln lc t ∧ Below w.heap.size w w'
theorem owns_whole {u : World} {B : Nat} {e : TypeId} {size n : Nat} {v : Value} {xs : List Value} (h : u.ownsRow B e size v n xs) {g : Nat} (hg : v.ownBlock = some g) : ∃ cur, Whole u g e cur := by
  rcases h.2 with ⟨rfl, _⟩ | ⟨g', cap, cur, rfl, hb, hh, _⟩
  · simp [Value.ownBlock] at hg
  · simp [Value.ownBlock] at hg
    subst hg
    exact ⟨cur, hh⟩
theorem owns_ne {u : World} {B B' : Nat} {e e' : TypeId} {size size' n n' : Nat} {v v' : Value} {xs xs' : List Value} (h : u.ownsRow B e size v n xs) (h' : u.ownsRow B' e' size' v' n' xs') (hne : e ≠ e') : ∀ g, v.ownBlock = some g → v'.ownBlock ≠ some g := fun g hg hg' => by
  obtain ⟨c, hc⟩ := owns_whole h hg
  obtain ⟨c', hc'⟩ := owns_whole h' hg'
  exact Whole.ne_ hc hc' hne rfl
theorem owns_off {u u' : World} {B : Nat} {e : TypeId} {size n : Nat} {v : Value} {xs : List Value} {r : Option Nat} (h : u.ownsRow B e size v n xs) (hg : u.grownBy u' r) (hne : ∀ g, v.ownBlock = some g → r ≠ some g) : u'.ownsRow B e size v n xs := by
  refine ⟨h.1, ?_⟩
  rcases h.2 with h0 | ⟨g, cap, cur, rfl, hb, hh, h3, h4, h5, h6⟩
  · exact Or.inl h0
  · exact Or.inr ⟨g, cap, cur, rfl, hb, by rw [hg.block g (Array.getElem?_eq_some_iff.1 hh).1 (fun e => hne g rfl e.symm)]; exact hh, h3, h4, h5, h6⟩
theorem owns_set {u : World} {B b i : Nat} {e : TypeId} {size n : Nat} {v : Value} {xs : List Value} (h : u.ownsRow B e size v n xs) (hb : b < B) (y : Value) : (u.setCell ⟨b, i, none⟩ y).ownsRow B e size v n xs := by
  refine ⟨h.1, ?_⟩
  rcases h.2 with h0 | ⟨g, cap, cur, rfl, hg, hh, h3, h4, h5, h6⟩
  · exact Or.inl h0
  · refine Or.inr ⟨g, cap, cur, rfl, hg, ?_, h3, h4, h5, h6⟩
    rw [Below.heap_setCell _ _ _ _ (show g ≠ b by omega)]
    exact hh
/-- on the way of a new table: the old one's box, the result's, the new one's with its rows -/
structure XJ (w : World) (p : Nat) (cs ds : Array Value) (v : Value) (n : Nat) (l : List (List UInt8)) (v' : Value) (n' : Nat) (l' : List En) (u : World) : Prop where
  X : Whole u w.heap.size 29 cs
  Y : Whole u (w.heap.size + 1) 29 ds
  Z : Whole u p 29 #[v, v']
  O : u.ownsRow (p + 1) 9 1 v n (strs l)
  E : u.ownsRow (p + 1) 92 5 v' n' (eC l')
  B : Below w.heap.size w u
  hp : w.heap.size + 2 ≤ p
section
variable {w u u' : World} {p : Nat} {cs ds : Array Value} {v : Value} {n : Nat} {l : List (List UInt8)} {v' : Value} {n' : Nat} {l' : List En}
theorem XJ.belowS (h : XJ w p cs ds v n l v' n' l' u) (hb : Below u.heap.size u u') : XJ w p cs ds v n l v' n' l' u' :=
  ⟨h.X.belowS hb, h.Y.belowS hb, h.Z.belowS hb, owns_below h.O hb, owns_below h.E hb, h.B.trans (hb.mono h.B.size), h.hp⟩
/-- one text more -/
theorem XJ.str (h : XJ w p cs ds v n l v' n' l' u) {v7 : Value} {s : List UInt8} (ho : u'.ownsRow (p + 1) 9 1 v7 (n + 1) (strs (l ++ [s]))) (hg : u.grownBy u' v.ownBlock) : XJ w p cs ds v7 (n + 1) (l ++ [s]) v' n' l' (u'.setCell ⟨p, 0, none⟩ v7) ∧ Whole u' p 29 #[v, v'] := by
  have hp := h.hp
  have r : ∀ g, v.ownBlock = some g → p + 1 ≤ g := fun g hg => (owns_lt h.O hg).1
  have k1 := whole_kept h.X hg fun g hg => by have := r g hg; omega
  have k2 := whole_kept h.Y hg fun g hg => by have := r g hg; omega
  have k3 := whole_kept h.Z hg fun g hg => by have := r g hg; omega
  have kE := owns_off h.E hg (owns_ne h.E h.O (by decide))
  have kB := below_grown h.B h.B.size h.O (by omega) hg
  exact ⟨⟨Whole.far k1 (p := ⟨p, 0, none⟩) (show w.heap.size ≠ p by omega) _, Whole.far k2 (p := ⟨p, 0, none⟩) (show w.heap.size + 1 ≠ p by omega) _, Whole.set_ k3 0 v7, owns_set ho (by omega) _, owns_set kE (by omega) _, kB.setCell (by simp; omega) _, hp⟩, k3⟩
/-- one entry more -/
theorem XJ.ent (h : XJ w p cs ds v n l v' n' l' u) {v7 : Value} {s : En} (ho : u'.ownsRow (p + 1) 92 5 v7 (n' + 1) (eC (l' ++ [s]))) (hg : u.grownBy u' v'.ownBlock) : XJ w p cs ds v n l v7 (n' + 1) (l' ++ [s]) (u'.setCell ⟨p, 1, none⟩ v7) ∧ Whole u' p 29 #[v, v'] := by
  have hp := h.hp
  have r : ∀ g, v'.ownBlock = some g → p + 1 ≤ g := fun g hg => (owns_lt h.E hg).1
  have k1 := whole_kept h.X hg fun g hg => by have := r g hg; omega
  have k2 := whole_kept h.Y hg fun g hg => by have := r g hg; omega
  have k3 := whole_kept h.Z hg fun g hg => by have := r g hg; omega
  have kO := owns_off h.O hg (owns_ne h.O h.E (by decide))
  have kB := below_grown h.B h.B.size h.E (by omega) hg
  exact ⟨⟨Whole.far k1 (p := ⟨p, 1, none⟩) (show w.heap.size ≠ p by omega) _, Whole.far k2 (p := ⟨p, 1, none⟩) (show w.heap.size + 1 ≠ p by omega) _, Whole.set_ k3 1 v7, owns_set kO (by omega) _, owns_set ho (by omega) _, kB.setCell (by simp; omega) _, hp⟩, k3⟩
end
theorem filter_yes {α : Type} (l : List α) (d : α) (f : α → Bool) (k : Nat) (h : k < l.length) (hf : f (l.getD k d) = true) : (l.take (k + 1)).filter f = (l.take k).filter f ++ [l.getD k d] := by rw [take_succ_getD l d k h, List.filter_append]; simp only [List.filter_cons, hf, if_true, List.filter_nil]
theorem filter_no {α : Type} (l : List α) (d : α) (f : α → Bool) (k : Nat) (h : k < l.length) (hf : f (l.getD k d) = false) : (l.take (k + 1)).filter f = (l.take k).filter f := by rw [take_succ_getD l d k h, List.filter_append]; simp only [List.filter_cons, hf, Bool.false_eq_true, if_false, List.filter_nil, List.append_nil]
theorem rem_post {G : Nat → Prop} {w u : World} {p : Nat} {cs ds : Array Value} {a1 : Option Addr} {n c1 : Nat} {l : List (List UInt8)} {a2 : Option Addr} {n' c2 : Nat} {l' : List En} (h : XJ w p cs ds (.slice a1 n c1) n l (.slice a2 n' c2) n' l' u) :
    IsT G ⟨l, l'⟩ 0 w (.returned (.tuple #[tbV a1 n c1 a2 n' c2, .int .i64 0])) ((u.setCell ⟨w.heap.size + 1, 0, none⟩ (.slice a1 n c1)).setCell ⟨w.heap.size + 1, 1, none⟩ (.slice a2 n' c2)) := by
  have hp := h.hp
  have hO := owns_set (b := w.heap.size + 1) (i := 1) (owns_set (b := w.heap.size + 1) (i := 0) h.O (by omega) (.slice a1 n c1)) (by omega) (.slice a2 n' c2)
  have hE := owns_set (b := w.heap.size + 1) (i := 1) (owns_set (b := w.heap.size + 1) (i := 0) h.E (by omega) (.slice a1 n c1)) (by omega) (.slice a2 n' c2)
  refine ⟨_, _, _, _, _, _, rfl, ⟨?_, ?_⟩, (h.B.setCell (by simp) _).setCell (by simp) _⟩
  · exact (Reads.of_owns hO).mono fun g hg => ⟨Or.inr (by omega), (owns_lt hO hg.2).2⟩
  · have hl : l'.length = n' := by have := h.E.1; rw [eC_len] at this; omega
    subst hl
    exact (ReadsE.of_owns hE).mono fun g hg => ⟨Or.inr (by omega), (owns_lt hE hg.2).2⟩
section
variable {w : World} {ma : Option Addr} {mn mc : Nat} {la : Option Addr} {ln lc : Nat} {t : Tb}
/-- a table told as it came -/
theorem ist_same {G : Nat → Prop} (h : RdT G w ma mn mc la ln lc t ∧ ∀ g, G g → g < w.heap.size) {u : World} {k : Int} (hb : Below w.heap.size w u) : IsT G t k w (.returned (.tuple #[tbV ma mn mc la ln lc, .int .i64 k])) u := ⟨_, _, _, _, _, _, rfl, (h.1.keep fun g hg _ => hb.block g (h.2 g hg)).mono fun g hg => ⟨Or.inl hg, Nat.lt_of_lt_of_le (h.2 g hg) hb.size⟩, hb⟩
end
end Go.Proofs.Ytajidaicojekdaa.SF

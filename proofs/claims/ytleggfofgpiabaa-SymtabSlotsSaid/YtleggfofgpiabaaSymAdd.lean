/-
  The reference of layer 13: a module added. Nothing here is a statement of the seed.
-/
import Derived.Test.YtleggfofgpiabaaSymCnt
import Derived.Test.YtleggfofgpiabaaSymPut
set_option linter.unusedSimpArgs false
set_option linter.unusedVariables false
namespace Go.Proofs.Ytleggfofgpiabaa.SF
open Go.RowKit WM NR OM OR SM SR
set_option maxHeartbeats 4000000
set_option maxRecDepth 10000
theorem reads_there {G : Nat → Prop} {w : World} {v : Value} {l : List En} (h : ReadsE G w v l) : ReadsE (fun g => G g ∧ g < w.heap.size) w v l := by
  obtain ⟨a, cap, e, h1, h2, h3, h4⟩ := h
  refine ⟨a, cap, e, h1, h2, h3, ?_⟩
  rcases h4 with h4 | ⟨g, off, ea, hg, hc⟩
  · exact Or.inl h4
  · by_cases h0 : l = []
    · exact Or.inl h0
    · refine Or.inr ⟨g, off, ea, ⟨hg, ?_⟩, hc⟩
      have hpos := List.length_pos_iff.2 h0
      have x : (eC l)[0]? = some ((eC l)[0]'(by rw [eC_len]; omega)) := List.getElem?_eq_getElem (by rw [eC_len]; omega)
      exact World.block_lt_of_cell? w _ ((hc 0 (by omega)).trans x)
section
variable {G : Nat → Prop} {w u u' : World} {p : Nat} {cs ds : Array Value} {a1 : Option Addr} {n c1 : Nat} {l : List (List UInt8)} {la : Option Addr} {ln lc : Nat} {L : List En}
end
theorem any_take (f : List UInt8 → Bool) (l : List (List UInt8)) (k : Nat) (h : k < l.length) : (l.take (k + 1)).any f = ((l.take k).any f || f (l.getD k [])) := by
  rw [take_succ_getD l [] k h, List.any_append]
  simp only [List.any_cons, List.any_nil, Bool.or_false]
section
variable {w : World} {ma : Option Addr} {mn mc : Nat} {la : Option Addr} {ln lc : Nat} {t : Tb} {na : Option Addr} {nn nc : Nat} {xs : List (List UInt8)}
end
end Go.Proofs.Ytleggfofgpiabaa.SF

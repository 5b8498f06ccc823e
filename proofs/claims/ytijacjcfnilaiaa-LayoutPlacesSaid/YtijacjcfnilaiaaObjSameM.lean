/-
  Two modules held against each other, as the reference does. Nothing here is a statement of the seed.
-/
import Derived.Test.YtijacjcfnilaiaaObjChk
import Derived.Deep.QuietTactic
import Derived.BigQuiet
set_option linter.unusedSimpArgs false
set_option linter.unusedVariables false
namespace Go.Proofs.Ytijacjcfnilaiaa.OR
open Go.RowKit WM NR OM
set_option maxHeartbeats 8000000
set_option maxRecDepth 10000
theorem two_mods (w : World) (c d : Array Value) : Below w.heap.size w ((w.alloc (.cells c 26)).alloc (.cells d 26)) ∧ Whole ((w.alloc (.cells c 26)).alloc (.cells d 26)) w.heap.size 26 c ∧ Whole ((w.alloc (.cells c 26)).alloc (.cells d 26)) (w.heap.size + 1) 26 d := by
  refine ⟨(below_new w _).alloc (by simp) _, (Whole.new w _ _).alloc _, ?_⟩
  have := Whole.new (w.alloc (.cells c 26)) 26 d
  simpa using this
theorem md_ne {m k : Md} (h : ¬ (m.name = k.name ∧ m.exps = k.exps ∧ m.imps = k.imps ∧ m.code = k.code ∧ m.data = k.data ∧ m.rels = k.rels)) : ¬ m = k := by
  rintro rfl
  exact h ⟨rfl, rfl, rfl, rfl, rfl, rfl⟩
theorem md_eq {m k : Md} (h1 : m.name = k.name) (h2 : m.exps = k.exps) (h3 : m.imps = k.imps) (h4 : m.code = k.code) (h5 : m.data = k.data) (h6 : m.rels = k.rels) : m = k := by
  obtain ⟨a, b, c, d, e, f⟩ := m
  obtain ⟨a', b', c', d', e', f'⟩ := k
  simp only at *
  subst h1 h2 h3 h4 h5 h6
  rfl
theorem rl_eq {r s : Rl} (h1 : r.kind = s.kind) (h2 : r.at_ = s.at_) (h3 : r.wh = s.wh) : r = s := by
  obtain ⟨a, b, c⟩ := r
  obtain ⟨a', b', c'⟩ := s
  simp only at *
  subst h1 h2 h3
  rfl
end Go.Proofs.Ytijacjcfnilaiaa.OR

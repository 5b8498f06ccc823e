/-
  Which pages are not free: the program's. Nothing here is a statement of the seed.
-/
import Derived.Test.YtkmjacpcpchjoaaPageNew
set_option linter.unusedSimpArgs false
set_option linter.unusedVariables false
namespace Go.Proofs.Ytkmjacpcpchjoaa.PF
open Go.RowKit PM PR

theorem infoBool : (Try.prog.info? 4).map (fun i => (i.zero, i.size, i.bytes)) = some (some (.bool false), 1, 1) := by kernel_rfl
def usedL (l : List Pg) : List Value := l.map fun p => .bool (usedB p)
/-- the first k are told -/
def halfU (l : List Pg) (k : Nat) : List Value := usedL (l.take k) ++ List.replicate (l.length - k) (.bool false)
theorem usedL_len (l : List Pg) : (usedL l).length = l.length := by simp [usedL]
theorem halfU_len (l : List Pg) (k : Nat) (hk : k ≤ l.length) : (halfU l k).length = l.length := by simp [halfU, usedL]; omega
theorem halfU_end (l : List Pg) : halfU l l.length = usedL l := by simp [halfU]
theorem halfU_zero (l : List Pg) : halfU l 0 = List.replicate l.length (.bool false) := by simp [halfU, usedL]
theorem halfU_set (l : List Pg) (k : Nat) (hk : k < l.length) : (halfU l k).set k (.bool (usedB (l.getD k zero))) = halfU l (k + 1) := by
  unfold halfU
  have hl : (usedL (l.take k)).length = k := by simp [usedL]; omega
  rw [List.set_append_right _ _ (by omega), hl, Nat.sub_self, show l.length - k = (l.length - (k + 1)) + 1 by omega, List.replicate_succ, getD_in hk, List.take_succ_eq_append_getElem hk]
  simp only [usedL, List.map_append, List.append_assoc]
  rfl
theorem halfU_at (l : List Pg) (k : Nat) (hk : k < l.length) : ∃ v, (halfU l k)[k]? = some v := ⟨_, List.getElem?_eq_getElem (by rw [halfU_len l k (by omega)]; exact hk)⟩
def UsedR (l : List Pg) (w : World) (e : Ending) (w' : World) : Prop := ∃ g, e = .returned (.slice (some ⟨g, 0, none⟩) l.length l.length) ∧ Whole w' g 4 (usedL l).toArray ∧ w.heap.size ≤ g ∧ Below w.heap.size w w'
end Go.Proofs.Ytkmjacpcpchjoaa.PF

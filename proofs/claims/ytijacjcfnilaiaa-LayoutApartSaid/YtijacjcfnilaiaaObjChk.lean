/-
  What is wrong with a module, as the reference tells; how many parts it has. Nothing here is a statement of the seed.
-/
import Derived.Test.YtijacjcfnilaiaaObjSame
set_option linter.unusedSimpArgs false
set_option linter.unusedVariables false
namespace Go.Proofs.Ytijacjcfnilaiaa.OR
open Go.RowKit WM NR OM
set_option maxHeartbeats 4000000
set_option maxRecDepth 10000
theorem long_hit {l : List (List UInt8)} {k : Nat} (hk : k < l.length) (h : 96 < (l.getD k []).length) : longB l = true := by
  unfold longB
  rw [List.any_eq_true]
  refine ⟨l[k], List.getElem_mem hk, ?_⟩
  simp [hk] at h
  simpa using h
theorem long_more {l : List (List UInt8)} {k : Nat} (hk : k < l.length) (h : longB (l.take k) = false) (h2 : ¬ 96 < (l.getD k []).length) : longB (l.take (k + 1)) = false := by
  unfold longB at *
  rw [List.take_add_one, List.any_append, h]
  simp [hk] at h2
  simp [hk]
  omega
theorem arg_hit {l : List Rl} {k : Nat} (hk : k < l.length) (h : 7 < (l.getD k ⟨0, 0, 0⟩).kind) : (l.any fun r => decide (7 < r.kind)) = true := by
  rw [List.any_eq_true]
  refine ⟨l[k], List.getElem_mem hk, ?_⟩
  simp [hk] at h
  simpa using h
theorem arg_more {l : List Rl} {k : Nat} (hk : k < l.length) (h : ((l.take k).any fun r => decide (7 < r.kind)) = false) (h2 : ¬ 7 < (l.getD k ⟨0, 0, 0⟩).kind) : ((l.take (k + 1)).any fun r => decide (7 < r.kind)) = false := by
  rw [List.take_add_one, List.any_append, h]
  simp [hk] at h2
  simp [hk]
  omega
section
variable {w : World} {ea : Option Addr} {en ec : Nat} {ia : Option Addr} {im ic : Nat} {ca : Option Addr} {cn cc : Nat} {da : Option Addr} {dn dc : Nat} {ra : Option Addr} {rn rc : Nat} {m : Md}
abbrev mV (x : ByteArray) (ea : Option Addr) (en ec : Nat) (ia : Option Addr) (im ic : Nat) (ca : Option Addr) (cn cc : Nat) (da : Option Addr) (dn dc : Nat) (ra : Option Addr) (rn rc : Nat) : Value := .agg (mCs x ea en ec ia im ic ca cn cc da dn dc ra rn rc)
end
end Go.Proofs.Ytijacjcfnilaiaa.OR

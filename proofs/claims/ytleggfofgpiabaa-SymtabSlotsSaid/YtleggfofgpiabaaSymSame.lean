/-
  The law's look at both tables: they tell the same. Nothing here is a statement of the seed.
-/
import Derived.Test.YtleggfofgpiabaaSymDo
set_option linter.unusedSimpArgs false
set_option linter.unusedVariables false
namespace Go.Proofs.Ytleggfofgpiabaa.SP
open Go.RowKit WM NR OM OR SM SR SF
set_option maxHeartbeats 4000000
set_option maxRecDepth 10000
/-- the law has counted the first k entries up, to see that they are its own -/
def incE (e : En) : En := { e with refs := e.refs + 1 }
def incK (l : List En) (k : Nat) : List En := (l.take k).map incE ++ l.drop k
theorem incK_zero (l : List En) : incK l 0 = l := by simp [incK]
theorem incK_len (l : List En) (k : Nat) : (incK l k).length = l.length := by
  unfold incK
  rw [List.length_append, List.length_map, List.length_take, List.length_drop]
  omega
theorem incK_at (l : List En) (k : Nat) (h : k < l.length) : (incK l k).getD k e0 = l.getD k e0 := by
  unfold incK
  have hl : ((l.take k).map incE).length = k := by rw [List.length_map, List.length_take]; omega
  rw [List.getD_eq_getElem?_getD, List.getElem?_append_right (by omega), hl, Nat.sub_self, List.getElem?_drop, Nat.add_zero, ← List.getD_eq_getElem?_getD]
theorem incK_set (l : List En) (k : Nat) (h : k < l.length) : (incK l k).set k { (incK l k).getD k e0 with refs := (l.getD k e0).refs + 1 } = incK l (k + 1) := by
  have hl : ((l.take k).map incE).length = k := by rw [List.length_map, List.length_take]; omega
  rw [incK_at l k h]
  unfold incK
  rw [take_succ_getD l e0 k h, List.map_append, List.set_append_right _ _ (by omega), hl, Nat.sub_self, List.drop_eq_getElem_cons h, List.set_cons_zero, List.append_assoc, List.getD_eq_getElem?_getD, List.getElem?_eq_getElem h]
  rfl
abbrev BX (b : Nat) (ma : Option Addr) (mn mc : Nat) (la : Option Addr) (ln lc : Nat) (k : Int) (y : ByteArray) (g : Int) (na : Option Addr) (nn nc : Nat) (u : World) : Prop :=
  (u.cell? ⟨b, 0, none⟩ = some (.slice ma mn mc) ∧ u.cell? ⟨b, 1, none⟩ = some (.slice la ln lc)) ∧ u.cell? ⟨b + 1, 0, none⟩ = some (.int .u8 k) ∧ u.cell? ⟨b + 1, 1, none⟩ = some (.string y) ∧ u.cell? ⟨b + 1, 2, none⟩ = some (.int .i64 g) ∧ u.cell? ⟨b + 1, 3, none⟩ = some (.slice na nn nc)
section
variable {G S : Nat → Prop} {w : World} {v : Value} {ma : Option Addr} {mn mc : Nat} {la : Option Addr} {ln lc : Nat} {t : Tb}
end
end Go.Proofs.Ytleggfofgpiabaa.SP

/-
  Both tables through many calls. Nothing here is a statement of the seed.
-/
import Derived.Test.YtleggfofgpiabaaSymSame
set_option linter.unusedSimpArgs false
set_option linter.unusedVariables false
namespace Go.Proofs.Ytleggfofgpiabaa.SP
open Go.RowKit WM NR OM OR SM SR SF
set_option maxHeartbeats 4000000
set_option maxRecDepth 10000
def runM : Tb → List Ac → Tb
  | t, [] => t
  | t, x :: l => runM (actM t x).1 l
theorem runM_append : ∀ (a b : List Ac) (t : Tb), runM t (a ++ b) = runM (runM t a) b
  | [], b, t => rfl
  | x :: a, b, t => runM_append a b _
theorem runM_take (t : Tb) (l : List Ac) (k : Nat) (h : k < l.length) : runM t (l.take (k + 1)) = (actM (runM t (l.take k)) (l.getD k ac0)).1 := by
  rw [take_succ_getD l ac0 k h, runM_append]
  rfl
theorem run_good : ∀ (l : List Ac) (t : Tb), SM.Good t → SM.Good (runM t l)
  | [], t, h => h
  | x :: l, t, h => run_good l _ (good_act h x)
theorem run_size : ∀ (l : List Ac) (t : Tb), (runM t l).mods.length ≤ t.mods.length + l.length ∧ (runM t l).L.length ≤ t.L.length + 8 * l.length
  | [], t => ⟨Nat.le_refl _, Nat.le_refl _⟩
  | x :: l, t => by
    have h1 := run_size l (actM t x).1
    have h2 := act_size t x
    simp only [runM, List.length_cons]
    omega
theorem run_bd (l : List Ac) (k : Nat) (hk : k ≤ 60) : (runM ⟨[], []⟩ (l.take k)).mods.length ≤ 10000 ∧ (runM ⟨[], []⟩ (l.take k)).L.length ≤ 80000 := by
  have h1 := run_size (l.take k) ⟨[], []⟩
  rw [List.length_take] at h1
  simp only [List.length_nil] at h1
  omega
section
variable {w : World} {p : Nat} {G S G' S' : Nat → Prop} {u u' : World} {v : Value} {ma : Option Addr} {mn mc : Nat} {la : Option Addr} {ln lc : Nat} {ma' : Option Addr} {mn' mc' : Nat} {la' : Option Addr} {ln' lc' : Nat} {t t' : Tb}
end
end Go.Proofs.Ytleggfofgpiabaa.SP

/-
  Whether calls are few enough for a law of layer 13. Nothing here is a statement of the seed.
-/
import Derived.Test.YtleggfofgpiabaaSymAct
import Derived.Test.YtleggfofgpiabaaSymRef
set_option linter.unusedSimpArgs false
set_option linter.unusedVariables false
namespace Go.Proofs.Ytleggfofgpiabaa.SF
open Go.RowKit WM NR OM OR SM SR
set_option maxHeartbeats 4000000
set_option maxRecDepth 10000
/-- how many names, each call's no more than 301 -/
def numN : List Ac → Nat
  | [] => 0
  | x :: l => min x.nn 301 + numN l
theorem numN_append : ∀ a b : List Ac, numN (a ++ b) = numN a + numN b
  | [], b => by simp [numN]
  | x :: a, b => by simp only [List.cons_append, numN, numN_append a b]; omega
theorem numN_take (l : List Ac) (k : Nat) (h : k < l.length) : numN (l.take (k + 1)) = numN (l.take k) + min (l.getD k ac0).nn 301 := by
  rw [take_succ_getD l ac0 k h, numN_append]
  simp [numN]
theorem numN_le (l : List Ac) (k : Nat) : numN (l.take k) ≤ 301 * k := by
  induction k with
  | zero => simp [numN]
  | succ k ih =>
    by_cases h : k < l.length
    · rw [numN_take l k h]; omega
    · rw [List.take_of_length_le (by omega)] at ih ⊢
      omega
theorem numN_mem {l : List Ac} {x : Ac} (h : x ∈ l) : min x.nn 301 ≤ numN l := by
  induction l with
  | nil => cases h
  | cons y l ih =>
    simp only [numN]
    rcases List.mem_cons.1 h with rfl | h
    · omega
    · have := ih h; omega
def fewB (l : List Ac) : Bool := decide (l.length ≤ 60) && decide (numN l ≤ 300)
theorem few_len {G : Nat → Prop} {w : World} {a : Option Addr} {n c : Nat} {l : List Ac} (h : ReadsA G w (.slice a n c) l) (hf : fewB l = true) (k : Nat) (hk : k < n) : (l.getD k ac0).ns.length ≤ 1000 := by
  have hl := h.len.1
  have hm : l.getD k ac0 ∈ l := by rw [List.getD_eq_getElem?_getD, List.getElem?_eq_getElem (by omega)]; exact List.getElem_mem _
  obtain ⟨_, _, _, _, _, _, hok⟩ := h
  have h1 := (hok _ hm).len.1
  have h2 := numN_mem hm
  unfold fewB at hf
  rw [Bool.and_eq_true] at hf
  have h3 := of_decide_eq_true hf.2
  omega
end Go.Proofs.Ytleggfofgpiabaa.SF

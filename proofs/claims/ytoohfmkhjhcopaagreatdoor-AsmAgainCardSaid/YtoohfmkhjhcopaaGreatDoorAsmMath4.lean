/-
  Plain facts on words as lines. Nothing of the program is used.
-/
import Derived.Test.YtoohfmkhjhcopaaGreatDoorAsmMath3
import Derived.Test.YtoohfmkhjhcopaaGreatDoorWordMath2
set_option linter.unusedSimpArgs false
set_option linter.unusedVariables false
namespace Go.Proofs.YtoohfmkhjhcopaaGreatDoor.AM
open IM AF WF

/-- a word's digits -/
def hexB (x : Int) : List UInt8 := (hexL x.toNat).map fun n => UInt8.ofNat n.toNat
theorem hexB_str (x : Int) : strOfNums (hexL x.toNat) = bs (hexB x) := rfl
def insOf (x : Int) : I5 := (pO x, pD x, pA x, pB x, pM x)
/-- a word's line -/
def wl (x : Int) : List UInt8 := if hasB x then prI (insOf x) else w5 ++ hexB x
/-- the lines of some words -/
def wls (l : List Int) : List UInt8 := l.flatMap fun x => wl x ++ [10]
theorem wls_snoc (l : List Int) (x : Int) : wls (l ++ [x]) = wls l ++ (wl x ++ [10]) := by simp [wls]
theorem wls_cons (l : List Int) (x : Int) : wls (x :: l) = (wl x ++ [10]) ++ wls l := by simp [wls]
theorem hex_len (x : Int) : (hexB x).length = 8 := by simp [hexB, hexL]
theorem pr_len {i : I5} (h : iOk i) : (prI i).length ≤ 24 := by
  obtain ⟨o, d, a, b, m⟩ := i
  have h' := h
  simp only [iOk, InsOk] at h'
  have r := fun (u : Bool) (x : Int) (hx : 0 ≤ x ∧ x ≤ 7) => (show (seg u (rg x)).length ≤ 3 by
    unfold seg
    split
    · simp [rg_len hx]
    · simp)
  have i1 : (seg (uI o) (Lib.itoa m)).length ≤ 9 := by
    have := itoa_len m (by omega)
    unfold seg
    split
    · simp; omega
    · simp
  have n1 := (mn_fine (o := o) (by omega)).2.2.2.1
  have a1 := r (uD o) d (by omega)
  have a2 := r (uA o) a (by omega)
  have a3 := r (uB o) b (by omega)
  show (pr o d a b m).length ≤ 24
  unfold pr
  simp only [List.length_append]
  omega
theorem wl_len {x : Int} (hx : 0 ≤ x ∧ x ≤ 4294967295) : (wl x).length ≤ 24 := by
  unfold wl
  split
  · rename_i h
    exact pr_len (has_good hx h).1
  · rw [List.length_append, hex_len]
    decide
theorem wls_len : ∀ (l : List Int), (∀ x ∈ l, 0 ≤ x ∧ x ≤ 4294967295) → (wls l).length ≤ 25 * l.length
  | [], _ => by simp [wls]
  | x :: l, h => by
    have h1 := wls_len l (fun y hy => h y (List.mem_cons_of_mem _ hy))
    have h2 := wl_len (h x (by simp))
    rw [wls_cons]
    simp
    omega
end Go.Proofs.YtoohfmkhjhcopaaGreatDoor.AM

/-
  Plain facts on texts of lines. Nothing of the program is used.
-/
import Derived.Test.YtoohfmkhjhcopaaGreatDoorAsmLine
set_option linter.unusedSimpArgs false
set_option linter.unusedVariables false
namespace Go.Proofs.YtoohfmkhjhcopaaGreatDoor.AM
open IM AF

/-- the lines of a text, from a number on: what stands ahead of each byte 10, and behind the last one; without blanks at the ends -/
def lnsN (k : Nat) (l : List UInt8) : List (Nat × List UInt8) :=
  if h : (10 : UInt8) ∈ l then (k, Lib.trimB (pre 10 l) 32) :: lnsN (k + 1) (post 10 l) else [(k, Lib.trimB l 32)]
termination_by l.length
decreasing_by exact post_lt h
theorem lnsN_yes {k : Nat} {l : List UInt8} (h : (10 : UInt8) ∈ l) : lnsN k l = (k, Lib.trimB (pre 10 l) 32) :: lnsN (k + 1) (post 10 l) := by
  rw [lnsN, dif_pos h]
theorem lnsN_no {k : Nat} {l : List UInt8} (h : (10 : UInt8) ∉ l) : lnsN k l = [(k, Lib.trimB l 32)] := by
  rw [lnsN, dif_neg h]
theorem dropWhile_len (p : UInt8 → Bool) (l : List UInt8) : (l.dropWhile p).length ≤ l.length := (List.dropWhile_sublist p).length_le
theorem trim_len (l : List UInt8) (c : UInt8) : (Lib.trimB l c).length ≤ l.length := by
  unfold Lib.trimB Lib.trimLeftB Lib.trimRightB
  refine Nat.le_trans (dropWhile_len _ _) ?_
  rw [List.length_reverse]
  have := dropWhile_len (· == c) l.reverse
  rwa [List.length_reverse] at this
abbrev Ln := Nat × { l : List UInt8 // l.length ≤ 140737488355328 }
def mkL (x : Nat × List UInt8) : Ln := (x.1, if h : x.2.length ≤ 140737488355328 then ⟨x.2, h⟩ else ⟨[], by simp⟩)
theorem mkL_1 (x : Nat × List UInt8) : (mkL x).1 = x.1 := rfl
theorem mkL_2 (x : Nat × List UInt8) (h : x.2.length ≤ 140737488355328) : (mkL x).2.1 = x.2 := by
  unfold mkL
  rw [dif_pos h]
def lnsA (k : Nat) (l : List UInt8) : List Ln := (lnsN k l).map mkL
theorem lnsA_yes {k : Nat} {l : List UInt8} (h : (10 : UInt8) ∈ l) : lnsA k l = mkL (k, Lib.trimB (pre 10 l) 32) :: lnsA (k + 1) (post 10 l) := by
  unfold lnsA
  rw [lnsN_yes h]
  rfl
theorem lnsA_no {k : Nat} {l : List UInt8} (h : (10 : UInt8) ∉ l) : lnsA k l = [mkL (k, Lib.trimB l 32)] := by
  unfold lnsA
  rw [lnsN_no h]
  rfl
/-- is a line none of the wrong ones? -/
def Fine (x : Ln) : Prop := idle x.2.1 = true ∨ ∃ w, lw x.2.1 = some w
/-- the words of some lines -/
noncomputable def wdsOf (p : List Ln) : List Int := p.flatMap fun x => if idle x.2.1 then [] else match lw x.2.1 with
  | some w => [w]
  | none => []
theorem wds_idle {p : List Ln} {x : Ln} (h : idle x.2.1 = true) : wdsOf (p ++ [x]) = wdsOf p := by simp [wdsOf, h]
theorem wds_word {p : List Ln} {x : Ln} {w : Int} (h : idle x.2.1 = false) (h2 : lw x.2.1 = some w) : wdsOf (p ++ [x]) = wdsOf p ++ [w] := by simp [wdsOf, h, h2]
/-- what is wrong with a line, at its number, behind others that are fine -/
def Bad (init : List Ln) (x : Ln) (k : Int) : Prop := (∀ y ∈ init, Fine y) ∧ (wdsOf init).length ≤ 512 ∧ idle x.2.1 = false ∧ (lw x.2.1 = none ∧ k = 60 ∨ (∃ w, lw x.2.1 = some w) ∧ (wdsOf init).length = 512 ∧ k = 5)
end Go.Proofs.YtoohfmkhjhcopaaGreatDoor.AM

/-
  What calls of layer 14 leave, as lists alone. Nothing here is a statement of the seed.
-/
import Derived.Test.YtijcojidfallkaaGraphAct
set_option linter.unusedSimpArgs false
set_option linter.unusedVariables false
namespace Go.Proofs.Ytijcojidfallkaa.GR
open Go.RowKit WM NR OM OR GM
/-- what an act leaves, and what it tells -/
def actM (g : List Nd) (x : Ac) : List Nd × Int := if x.kind % 4 = 2 then removeM g x.nm else if x.kind % 4 = 3 then turnM g x.nm x.ns else addM g x.nm x.ns
theorem good_act {g : List Nd} (h : GM.Good g) (x : Ac) : GM.Good (actM g x).1 := by
  unfold actM
  split
  · exact good_remove h _
  · split
    · exact good_turn h _ _
    · exact good_add h _ _
theorem with_len (g : List Nd) (n : Nd) : (withM g n).length = g.length + 1 := by
  have h3 : (g.takeWhile (fun x => Op.bytesLess x.nm n.nm) ++ g.dropWhile (fun x => Op.bytesLess x.nm n.nm)).length = g.length := by rw [List.takeWhile_append_dropWhile]
  unfold withM
  rw [List.length_append] at h3
  rw [List.length_append, List.length_cons, ← Nat.add_assoc]
  exact congrArg (· + 1) h3
theorem out_len_le (g : List Nd) (n : List UInt8) : (outM g n).length ≤ g.length := List.length_filter_le _ _
theorem act_size (g : List Nd) (x : Ac) : (actM g x).1.length ≤ g.length + 1 := by
  have h1 := out_len_le g x.nm
  unfold actM
  split
  · unfold removeM
    split
    · simp
    · split
      · simp
      · simp only; omega
  · split
    · unfold turnM
      split
      · simp
      · split
        · simp
        · simp only; rw [with_len]; omega
    · unfold addM
      split
      · simp
      · split
        · simp
        · simp only; rw [with_len]; exact Nat.le_refl _
/-- many calls -/
def runM (g : List Nd) : List Ac → List Nd
  | [] => g
  | x :: l => runM (actM g x).1 l
theorem runM_append (g : List Nd) : ∀ a b : List Ac, runM g (a ++ b) = runM (runM g a) b
  | [], b => rfl
  | x :: a, b => by
    intros
    show runM (actM g x).1 (a ++ b) = runM (runM (actM g x).1 a) b
    exact runM_append _ a b
theorem runM_take (g : List Nd) (l : List Ac) (k : Nat) (h : k < l.length) : runM g (l.take (k + 1)) = (actM (runM g (l.take k)) (l.getD k ac0)).1 := by
  rw [List.take_add_one, List.getElem?_eq_getElem h, runM_append, List.getD_eq_getElem?_getD, List.getElem?_eq_getElem h]
  rfl
theorem run_good : ∀ (l : List Ac) (g : List Nd), GM.Good g → GM.Good (runM g l)
  | [], g, h => h
  | x :: l, g, h => run_good l _ (good_act h x)
theorem run_len : ∀ (l : List Ac) (g : List Nd), (runM g l).length ≤ g.length + l.length
  | [], g => by simp [runM]
  | x :: l, g => by
    have h1 := run_len l (actM g x).1
    have h2 := act_size g x
    show (runM (actM g x).1 l).length ≤ _
    rw [List.length_cons]
    omega
theorem run_bd (l : List Ac) (k : Nat) (h : l.length ≤ 24) : (runM [] (l.take k)).length ≤ 24 := by
  have h1 := run_len (l.take k) []
  have h2 : (l.take k).length ≤ l.length := by rw [List.length_take]; omega
  simp at h1
  omega
end Go.Proofs.Ytijcojidfallkaa.GR

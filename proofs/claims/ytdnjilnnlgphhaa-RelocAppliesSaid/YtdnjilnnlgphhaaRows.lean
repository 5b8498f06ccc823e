/-
  No cell of these rows narrows 'for every input' (looked for: loops, veiled, ifaces, maps, wideKeys, modest, calm, conditions, laid).
  DERIVED. THE GIVEN ROWS OF THIS SEAT. 6 by the template 'for every input the law returns true; each argument reads behind the call as it read before'; 0 by the template 'total and deterministic' (their statements: YtdnjilnnlgphhaaTotals.lean).
  GIVEN WITH THE SEED: the statements are not yours to turn. If you find one false, say at which input.
  Laid BY PROGRAM, IN A SANDBOX (cutbox-rows.mjs): the forced cells as the released guide's own fill.sh prints them over the translation d985c9e873d503d0… (all of the seat's roots in one cut). By AI agents, Wed Nov 11 2026. No macro, syntax, notation, axiom, sorry.
-/
import Derived.Test.YtdnjilnnlgphhaaChecked
import GoSem.Claim
import GoSem.ClaimJoined
import GoSem.ClaimMapViews
import Derived.JoinedTies
import Derived.KernelRfl
namespace Go.Proofs.Ytdnjilnnlgphhaa
/- THE CELL 'sum', in the pinned program and in every row, IS THE sha256 OF THE DUMP (.gsa) THAT YtdnjilnnlgphhaaProg.lean LOADS. Nothing in Lean hashes anything: it is a label: what it is worth is what the hold of that sum in a sandbox is worth. -/
noncomputable def Try.pinned : Pinned := { name := "ytdnjilnnlgphhaa", sum := "d985c9e873d503d051d713826e3d275108a93d777b54924103a82fb485c816a9", checked := Try.checked }
namespace Rows
def none {H : Type} : Left H := { results := [], args := [] }

/-- 'budwoodlaw15.RelocValues': WHATEVER THE INPUT: true; the input reads as it did. -/
def relocValuesSpec : ChangeSpec := { name := "relocValues", fn := fun _ => fun
  | [d1, d2, d3] => { results := [.lit (.bool true)], args := [d1, d2, d3] }
  | _ => none }
def relocValuesRow : OpenClaim := { program := "ytdnjilnnlgphhaa", sum := "d985c9e873d503d051d713826e3d275108a93d777b54924103a82fb485c816a9", func := "budwood/budwoodlaw15.RelocValues", spec := "relocValues", apart := false }
def RelocValuesSaid : Prop := relocValuesRow.holds Try.pinned (OpenSpec.ofChange relocValuesSpec)

/-- ITS FALSE NEIGHBOUR: 'it returns false'. Refute it at one input. -/
def relocValuesWrong : ChangeSpec := { name := "relocValues", fn := fun _ => fun
  | [d1, d2, d3] => { results := [.lit (.bool false)], args := [d1, d2, d3] }
  | _ => none }
def RelocValuesWrongFalsely : Prop := relocValuesRow.holds Try.pinned (OpenSpec.ofChange relocValuesWrong)

/-- 'budwoodlaw15.RelocApplies': WHATEVER THE INPUT: true; the input reads as it did. -/
def relocAppliesSpec : ChangeSpec := { name := "relocApplies", fn := fun _ => fun
  | [d1, d2, d3] => { results := [.lit (.bool true)], args := [d1, d2, d3] }
  | _ => none }
def relocAppliesRow : OpenClaim := { program := "ytdnjilnnlgphhaa", sum := "d985c9e873d503d051d713826e3d275108a93d777b54924103a82fb485c816a9", func := "budwood/budwoodlaw15.RelocApplies", spec := "relocApplies", apart := false }
def RelocAppliesSaid : Prop := relocAppliesRow.holds Try.pinned (OpenSpec.ofChange relocAppliesSpec)

/-- ITS FALSE NEIGHBOUR: 'it returns false'. Refute it at one input. -/
def relocAppliesWrong : ChangeSpec := { name := "relocApplies", fn := fun _ => fun
  | [d1, d2, d3] => { results := [.lit (.bool false)], args := [d1, d2, d3] }
  | _ => none }
def RelocAppliesWrongFalsely : Prop := relocAppliesRow.holds Try.pinned (OpenSpec.ofChange relocAppliesWrong)

/-- 'budwoodlaw15.RelocUndoes': WHATEVER THE INPUT: true; the input reads as it did. -/
def relocUndoesSpec : ChangeSpec := { name := "relocUndoes", fn := fun _ => fun
  | [d1, d2] => { results := [.lit (.bool true)], args := [d1, d2] }
  | _ => none }
def relocUndoesRow : OpenClaim := { program := "ytdnjilnnlgphhaa", sum := "d985c9e873d503d051d713826e3d275108a93d777b54924103a82fb485c816a9", func := "budwood/budwoodlaw15.RelocUndoes", spec := "relocUndoes", apart := false }
def RelocUndoesSaid : Prop := relocUndoesRow.holds Try.pinned (OpenSpec.ofChange relocUndoesSpec)

/-- ITS FALSE NEIGHBOUR: 'it returns false'. Refute it at one input. -/
def relocUndoesWrong : ChangeSpec := { name := "relocUndoes", fn := fun _ => fun
  | [d1, d2] => { results := [.lit (.bool false)], args := [d1, d2] }
  | _ => none }
def RelocUndoesWrongFalsely : Prop := relocUndoesRow.holds Try.pinned (OpenSpec.ofChange relocUndoesWrong)

/-- 'budwoodlaw15.RelocBack': WHATEVER THE INPUT: true; the input reads as it did. -/
def relocBackSpec : ChangeSpec := { name := "relocBack", fn := fun _ => fun
  | [d1, d2, d3] => { results := [.lit (.bool true)], args := [d1, d2, d3] }
  | _ => none }
def relocBackRow : OpenClaim := { program := "ytdnjilnnlgphhaa", sum := "d985c9e873d503d051d713826e3d275108a93d777b54924103a82fb485c816a9", func := "budwood/budwoodlaw15.RelocBack", spec := "relocBack", apart := false }
def RelocBackSaid : Prop := relocBackRow.holds Try.pinned (OpenSpec.ofChange relocBackSpec)

/-- ITS FALSE NEIGHBOUR: 'it returns false'. Refute it at one input. -/
def relocBackWrong : ChangeSpec := { name := "relocBack", fn := fun _ => fun
  | [d1, d2, d3] => { results := [.lit (.bool false)], args := [d1, d2, d3] }
  | _ => none }
def RelocBackWrongFalsely : Prop := relocBackRow.holds Try.pinned (OpenSpec.ofChange relocBackWrong)

/-- 'budwoodlaw15.RelocReach': WHATEVER THE INPUT: true; the input reads as it did. -/
def relocReachSpec : ChangeSpec := { name := "relocReach", fn := fun _ => fun
  | [d1, d2, d3] => { results := [.lit (.bool true)], args := [d1, d2, d3] }
  | _ => none }
def relocReachRow : OpenClaim := { program := "ytdnjilnnlgphhaa", sum := "d985c9e873d503d051d713826e3d275108a93d777b54924103a82fb485c816a9", func := "budwood/budwoodlaw15.RelocReach", spec := "relocReach", apart := false }
def RelocReachSaid : Prop := relocReachRow.holds Try.pinned (OpenSpec.ofChange relocReachSpec)

/-- ITS FALSE NEIGHBOUR: 'it returns false'. Refute it at one input. -/
def relocReachWrong : ChangeSpec := { name := "relocReach", fn := fun _ => fun
  | [d1, d2, d3] => { results := [.lit (.bool false)], args := [d1, d2, d3] }
  | _ => none }
def RelocReachWrongFalsely : Prop := relocReachRow.holds Try.pinned (OpenSpec.ofChange relocReachWrong)

/-- 'budwoodlaw15.RelocKeeps': WHATEVER THE INPUT: true; the input reads as it did. -/
def relocKeepsSpec : ChangeSpec := { name := "relocKeeps", fn := fun _ => fun
  | [d1, d2, d3] => { results := [.lit (.bool true)], args := [d1, d2, d3] }
  | _ => none }
def relocKeepsRow : OpenClaim := { program := "ytdnjilnnlgphhaa", sum := "d985c9e873d503d051d713826e3d275108a93d777b54924103a82fb485c816a9", func := "budwood/budwoodlaw15.RelocKeeps", spec := "relocKeeps", apart := false }
def RelocKeepsSaid : Prop := relocKeepsRow.holds Try.pinned (OpenSpec.ofChange relocKeepsSpec)

/-- ITS FALSE NEIGHBOUR: 'it returns false'. Refute it at one input. -/
def relocKeepsWrong : ChangeSpec := { name := "relocKeeps", fn := fun _ => fun
  | [d1, d2, d3] => { results := [.lit (.bool false)], args := [d1, d2, d3] }
  | _ => none }
def RelocKeepsWrongFalsely : Prop := relocKeepsRow.holds Try.pinned (OpenSpec.ofChange relocKeepsWrong)

/- THE SECOND FORM. 'bulk': how many values and letters a reading holds, each counted each time it is reached (what is shared counts as often as it is met; a slice's spare places count too). A statement '..UptoSaid' is the law's where the arguments, and the package variables that the reading takes, are together of bulk at most 1048576: NARROWER than '..Said'. Prove '..Said' where nothing that the law and all that it calls make is longer than what came in: it says more and counts as full. Else prove '..UptoSaid'. A law counts once. -/
mutual
def uptoBulk {H : Type} : DataW H → Nat
  | .lit (.string bytes) => bytes.length + 1
  | .lit _ => 1
  | .nil => 1
  | .ptr d => uptoBulk d + 1
  | .slice elems spare => uptoBulkAll elems + uptoBulkAll spare + 1
  | .agg parts => uptoBulkAll parts + 1
  | .iface _ d => uptoBulk d + 1
  | .map entries => uptoBulkEntries entries + 1
  | .held _ => 1
def uptoBulkAll {H : Type} : List (DataW H) → Nat
  | [] => 0
  | d :: r => uptoBulk d + uptoBulkAll r
def uptoBulkEntries {H : Type} : List (Lit × DataW H) → Nat
  | [] => 0
  | x :: r => uptoBulkEntry x + uptoBulkEntries r
def uptoBulkEntry {H : Type} : Lit × DataW H → Nat
  | (.string bytes, d) => bytes.length + uptoBulk d + 1
  | (_, d) => uptoBulk d + 1
 end
def uptoSmall : (H : Type) → List (DataW H) → Bool := fun _ ds => decide (uptoBulkAll ds ≤ 1048576)
def OpenSpec.upto (s : _root_.Go.ChangeSpec) : _root_.Go.OpenSpec := { _root_.Go.OpenSpec.ofChange s with cond := some uptoSmall }

/-- 'budwoodlaw15.RelocValues', WHERE WHAT IT READS IS OF BULK AT MOST 1048576: true; the input reads as it did. -/
def relocValuesUptoRow : OpenClaim := { program := "ytdnjilnnlgphhaa", sum := "d985c9e873d503d051d713826e3d275108a93d777b54924103a82fb485c816a9", func := "budwood/budwoodlaw15.RelocValues", spec := "relocValues", apart := false, narrowed := true }
def RelocValuesUptoSaid : Prop := relocValuesUptoRow.holds Try.pinned (OpenSpec.upto relocValuesSpec)

/-- 'budwoodlaw15.RelocApplies', WHERE WHAT IT READS IS OF BULK AT MOST 1048576: true; the input reads as it did. -/
def relocAppliesUptoRow : OpenClaim := { program := "ytdnjilnnlgphhaa", sum := "d985c9e873d503d051d713826e3d275108a93d777b54924103a82fb485c816a9", func := "budwood/budwoodlaw15.RelocApplies", spec := "relocApplies", apart := false, narrowed := true }
def RelocAppliesUptoSaid : Prop := relocAppliesUptoRow.holds Try.pinned (OpenSpec.upto relocAppliesSpec)

/-- 'budwoodlaw15.RelocUndoes', WHERE WHAT IT READS IS OF BULK AT MOST 1048576: true; the input reads as it did. -/
def relocUndoesUptoRow : OpenClaim := { program := "ytdnjilnnlgphhaa", sum := "d985c9e873d503d051d713826e3d275108a93d777b54924103a82fb485c816a9", func := "budwood/budwoodlaw15.RelocUndoes", spec := "relocUndoes", apart := false, narrowed := true }
def RelocUndoesUptoSaid : Prop := relocUndoesUptoRow.holds Try.pinned (OpenSpec.upto relocUndoesSpec)

/-- 'budwoodlaw15.RelocBack', WHERE WHAT IT READS IS OF BULK AT MOST 1048576: true; the input reads as it did. -/
def relocBackUptoRow : OpenClaim := { program := "ytdnjilnnlgphhaa", sum := "d985c9e873d503d051d713826e3d275108a93d777b54924103a82fb485c816a9", func := "budwood/budwoodlaw15.RelocBack", spec := "relocBack", apart := false, narrowed := true }
def RelocBackUptoSaid : Prop := relocBackUptoRow.holds Try.pinned (OpenSpec.upto relocBackSpec)

/-- 'budwoodlaw15.RelocReach', WHERE WHAT IT READS IS OF BULK AT MOST 1048576: true; the input reads as it did. -/
def relocReachUptoRow : OpenClaim := { program := "ytdnjilnnlgphhaa", sum := "d985c9e873d503d051d713826e3d275108a93d777b54924103a82fb485c816a9", func := "budwood/budwoodlaw15.RelocReach", spec := "relocReach", apart := false, narrowed := true }
def RelocReachUptoSaid : Prop := relocReachUptoRow.holds Try.pinned (OpenSpec.upto relocReachSpec)

/-- 'budwoodlaw15.RelocKeeps', WHERE WHAT IT READS IS OF BULK AT MOST 1048576: true; the input reads as it did. -/
def relocKeepsUptoRow : OpenClaim := { program := "ytdnjilnnlgphhaa", sum := "d985c9e873d503d051d713826e3d275108a93d777b54924103a82fb485c816a9", func := "budwood/budwoodlaw15.RelocKeeps", spec := "relocKeeps", apart := false, narrowed := true }
def RelocKeepsUptoSaid : Prop := relocKeepsUptoRow.holds Try.pinned (OpenSpec.upto relocKeepsSpec)

end Rows
end Go.Proofs.Ytdnjilnnlgphhaa

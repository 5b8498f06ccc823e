/-
  No cell of these rows narrows 'for every input' (looked for: loops, veiled, ifaces, maps, wideKeys, modest, calm, conditions, laid).
  DERIVED. THE GIVEN ROWS OF THIS SEAT. 5 by the template 'for every input the law returns true; each argument reads behind the call as it read before'; 0 by the template 'total and deterministic' (their statements: YtihcellcdkhadaaTotals.lean).
  GIVEN WITH THE SEED: the statements are not yours to turn. If you find one false, say at which input.
  Laid BY PROGRAM, IN A SANDBOX (cutbox-rows.mjs): the forced cells as the released guide's own fill.sh prints them over the translation d71292ecc5ac286b… (all of the seat's roots in one cut). By AI agents, Wed Nov 11 2026. No macro, syntax, notation, axiom, sorry.
-/
import Derived.Test.YtihcellcdkhadaaChecked
import GoSem.Claim
import GoSem.ClaimJoined
import GoSem.ClaimMapViews
import Derived.JoinedTies
import Derived.KernelRfl
namespace Go.Proofs.Ytihcellcdkhadaa
/- THE CELL 'sum', in the pinned program and in every row, IS THE sha256 OF THE DUMP (.gsa) THAT YtihcellcdkhadaaProg.lean LOADS. Nothing in Lean hashes anything: it is a label: what it is worth is what the hold of that sum in a sandbox is worth. -/
noncomputable def Try.pinned : Pinned := { name := "ytihcellcdkhadaa", sum := "d71292ecc5ac286b9f286ccda5a9bf965436b94d693887eb5bad7239447d6ae0", checked := Try.checked }
namespace Rows
def none {H : Type} : Left H := { results := [], args := [] }

/-- 'budwoodlaw09.HartSames': WHATEVER THE INPUT: true; the input reads as it did. -/
def hartSamesSpec : ChangeSpec := { name := "hartSames", fn := fun _ => fun
  | [d1, d2, d3] => { results := [.lit (.bool true)], args := [d1, d2, d3] }
  | _ => none }
def hartSamesRow : OpenClaim := { program := "ytihcellcdkhadaa", sum := "d71292ecc5ac286b9f286ccda5a9bf965436b94d693887eb5bad7239447d6ae0", func := "budwood/budwoodlaw09.HartSames", spec := "hartSames", apart := false }
def HartSamesSaid : Prop := hartSamesRow.holds Try.pinned (OpenSpec.ofChange hartSamesSpec)

/-- ITS FALSE NEIGHBOUR: 'it returns false'. Refute it at one input. -/
def hartSamesWrong : ChangeSpec := { name := "hartSames", fn := fun _ => fun
  | [d1, d2, d3] => { results := [.lit (.bool false)], args := [d1, d2, d3] }
  | _ => none }
def HartSamesWrongFalsely : Prop := hartSamesRow.holds Try.pinned (OpenSpec.ofChange hartSamesWrong)

/-- 'budwoodlaw09.HartGuards': WHATEVER THE INPUT: true; the input reads as it did. -/
def hartGuardsSpec : ChangeSpec := { name := "hartGuards", fn := fun _ => fun
  | [d1, d2, d3] => { results := [.lit (.bool true)], args := [d1, d2, d3] }
  | _ => none }
def hartGuardsRow : OpenClaim := { program := "ytihcellcdkhadaa", sum := "d71292ecc5ac286b9f286ccda5a9bf965436b94d693887eb5bad7239447d6ae0", func := "budwood/budwoodlaw09.HartGuards", spec := "hartGuards", unfollowed := true, recurses := true, apart := false }
def HartGuardsSaid : Prop := hartGuardsRow.holds Try.pinned (OpenSpec.ofChange hartGuardsSpec)

/-- ITS FALSE NEIGHBOUR: 'it returns false'. Refute it at one input. -/
def hartGuardsWrong : ChangeSpec := { name := "hartGuards", fn := fun _ => fun
  | [d1, d2, d3] => { results := [.lit (.bool false)], args := [d1, d2, d3] }
  | _ => none }
def HartGuardsWrongFalsely : Prop := hartGuardsRow.holds Try.pinned (OpenSpec.ofChange hartGuardsWrong)

/-- 'budwoodlaw09.HartSums': WHATEVER THE INPUT: true; the input reads as it did. -/
def hartSumsSpec : ChangeSpec := { name := "hartSums", fn := fun _ => fun
  | [d1, d2, d3] => { results := [.lit (.bool true)], args := [d1, d2, d3] }
  | _ => none }
def hartSumsRow : OpenClaim := { program := "ytihcellcdkhadaa", sum := "d71292ecc5ac286b9f286ccda5a9bf965436b94d693887eb5bad7239447d6ae0", func := "budwood/budwoodlaw09.HartSums", spec := "hartSums", unfollowed := true, recurses := true, apart := false }
def HartSumsSaid : Prop := hartSumsRow.holds Try.pinned (OpenSpec.ofChange hartSumsSpec)

/-- ITS FALSE NEIGHBOUR: 'it returns false'. Refute it at one input. -/
def hartSumsWrong : ChangeSpec := { name := "hartSums", fn := fun _ => fun
  | [d1, d2, d3] => { results := [.lit (.bool false)], args := [d1, d2, d3] }
  | _ => none }
def HartSumsWrongFalsely : Prop := hartSumsRow.holds Try.pinned (OpenSpec.ofChange hartSumsWrong)

/-- 'budwoodlaw09.HartCalls': WHATEVER THE INPUT: true; the input reads as it did. -/
def hartCallsSpec : ChangeSpec := { name := "hartCalls", fn := fun _ => fun
  | [d1, d2] => { results := [.lit (.bool true)], args := [d1, d2] }
  | _ => none }
def hartCallsRow : OpenClaim := { program := "ytihcellcdkhadaa", sum := "d71292ecc5ac286b9f286ccda5a9bf965436b94d693887eb5bad7239447d6ae0", func := "budwood/budwoodlaw09.HartCalls", spec := "hartCalls", unfollowed := true, recurses := true, apart := false }
def HartCallsSaid : Prop := hartCallsRow.holds Try.pinned (OpenSpec.ofChange hartCallsSpec)

/-- ITS FALSE NEIGHBOUR: 'it returns false'. Refute it at one input. -/
def hartCallsWrong : ChangeSpec := { name := "hartCalls", fn := fun _ => fun
  | [d1, d2] => { results := [.lit (.bool false)], args := [d1, d2] }
  | _ => none }
def HartCallsWrongFalsely : Prop := hartCallsRow.holds Try.pinned (OpenSpec.ofChange hartCallsWrong)

/-- 'budwoodlaw09.HartBranches': WHATEVER THE INPUT: true; the input reads as it did. -/
def hartBranchesSpec : ChangeSpec := { name := "hartBranches", fn := fun _ => fun
  | [d1, d2, d3] => { results := [.lit (.bool true)], args := [d1, d2, d3] }
  | _ => none }
def hartBranchesRow : OpenClaim := { program := "ytihcellcdkhadaa", sum := "d71292ecc5ac286b9f286ccda5a9bf965436b94d693887eb5bad7239447d6ae0", func := "budwood/budwoodlaw09.HartBranches", spec := "hartBranches", unfollowed := true, recurses := true, apart := false }
def HartBranchesSaid : Prop := hartBranchesRow.holds Try.pinned (OpenSpec.ofChange hartBranchesSpec)

/-- ITS FALSE NEIGHBOUR: 'it returns false'. Refute it at one input. -/
def hartBranchesWrong : ChangeSpec := { name := "hartBranches", fn := fun _ => fun
  | [d1, d2, d3] => { results := [.lit (.bool false)], args := [d1, d2, d3] }
  | _ => none }
def HartBranchesWrongFalsely : Prop := hartBranchesRow.holds Try.pinned (OpenSpec.ofChange hartBranchesWrong)

/- THE SECOND FORM. 'bulk': how many values and letters a reading holds, each counted each time it is reached (what is shared counts as often as it is met; a slice's spare places count too). A statement '..UptoSaid' is the law's where the arguments, and the package variables that the reading takes, are together of bulk at most 1048576: NARROWER than '..Said'. Prove '..Said' where nothing that the law and all that it calls make is longer than what came in: it says more and counts as full. Else prove '..UptoSaid'. A law counts once. -/
mutual
def uptoBulk {H : Type} : DataW H → Nat
  | .lit (.string bytes) => bytes.length + 1
  | .lit _ => 1
  | .nil => 1
  | .ptr d => uptoBulk d + 1
  | .slice elems spare => uptoBulkAll elems + uptoBulkAll spare + 1
  | .agg parts => uptoBulkAll parts + 1
  | .iface _ d => uptoBulk d + 1
  | .map entries => uptoBulkEntries entries + 1
  | .held _ => 1
def uptoBulkAll {H : Type} : List (DataW H) → Nat
  | [] => 0
  | d :: r => uptoBulk d + uptoBulkAll r
def uptoBulkEntries {H : Type} : List (Lit × DataW H) → Nat
  | [] => 0
  | x :: r => uptoBulkEntry x + uptoBulkEntries r
def uptoBulkEntry {H : Type} : Lit × DataW H → Nat
  | (.string bytes, d) => bytes.length + uptoBulk d + 1
  | (_, d) => uptoBulk d + 1
 end
def uptoSmall : (H : Type) → List (DataW H) → Bool := fun _ ds => decide (uptoBulkAll ds ≤ 1048576)
def OpenSpec.upto (s : _root_.Go.ChangeSpec) : _root_.Go.OpenSpec := { _root_.Go.OpenSpec.ofChange s with cond := some uptoSmall }

/-- 'budwoodlaw09.HartSames', WHERE WHAT IT READS IS OF BULK AT MOST 1048576: true; the input reads as it did. -/
def hartSamesUptoRow : OpenClaim := { program := "ytihcellcdkhadaa", sum := "d71292ecc5ac286b9f286ccda5a9bf965436b94d693887eb5bad7239447d6ae0", func := "budwood/budwoodlaw09.HartSames", spec := "hartSames", apart := false, narrowed := true }
def HartSamesUptoSaid : Prop := hartSamesUptoRow.holds Try.pinned (OpenSpec.upto hartSamesSpec)

/-- 'budwoodlaw09.HartGuards', WHERE WHAT IT READS IS OF BULK AT MOST 1048576: true; the input reads as it did. -/
def hartGuardsUptoRow : OpenClaim := { program := "ytihcellcdkhadaa", sum := "d71292ecc5ac286b9f286ccda5a9bf965436b94d693887eb5bad7239447d6ae0", func := "budwood/budwoodlaw09.HartGuards", spec := "hartGuards", unfollowed := true, recurses := true, apart := false, narrowed := true }
def HartGuardsUptoSaid : Prop := hartGuardsUptoRow.holds Try.pinned (OpenSpec.upto hartGuardsSpec)

/-- 'budwoodlaw09.HartSums', WHERE WHAT IT READS IS OF BULK AT MOST 1048576: true; the input reads as it did. -/
def hartSumsUptoRow : OpenClaim := { program := "ytihcellcdkhadaa", sum := "d71292ecc5ac286b9f286ccda5a9bf965436b94d693887eb5bad7239447d6ae0", func := "budwood/budwoodlaw09.HartSums", spec := "hartSums", unfollowed := true, recurses := true, apart := false, narrowed := true }
def HartSumsUptoSaid : Prop := hartSumsUptoRow.holds Try.pinned (OpenSpec.upto hartSumsSpec)

/-- 'budwoodlaw09.HartCalls', WHERE WHAT IT READS IS OF BULK AT MOST 1048576: true; the input reads as it did. -/
def hartCallsUptoRow : OpenClaim := { program := "ytihcellcdkhadaa", sum := "d71292ecc5ac286b9f286ccda5a9bf965436b94d693887eb5bad7239447d6ae0", func := "budwood/budwoodlaw09.HartCalls", spec := "hartCalls", unfollowed := true, recurses := true, apart := false, narrowed := true }
def HartCallsUptoSaid : Prop := hartCallsUptoRow.holds Try.pinned (OpenSpec.upto hartCallsSpec)

/-- 'budwoodlaw09.HartBranches', WHERE WHAT IT READS IS OF BULK AT MOST 1048576: true; the input reads as it did. -/
def hartBranchesUptoRow : OpenClaim := { program := "ytihcellcdkhadaa", sum := "d71292ecc5ac286b9f286ccda5a9bf965436b94d693887eb5bad7239447d6ae0", func := "budwood/budwoodlaw09.HartBranches", spec := "hartBranches", unfollowed := true, recurses := true, apart := false, narrowed := true }
def HartBranchesUptoSaid : Prop := hartBranchesUptoRow.holds Try.pinned (OpenSpec.upto hartBranchesSpec)

end Rows
end Go.Proofs.Ytihcellcdkhadaa

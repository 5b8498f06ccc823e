/-
  No cell of these rows narrows 'for every input' (looked for: loops, veiled, ifaces, maps, wideKeys, modest, calm, conditions, laid).
  DERIVED. THE GIVEN ROWS OF THIS SEAT. 6 by the template 'for every input the law returns true; each argument reads behind the call as it read before'; 0 by the template 'total and deterministic' (their statements: YtajidaicojekdaaTotals.lean).
  GIVEN WITH THE SEED: the statements are not yours to turn. If you find one false, say at which input.
  Laid BY PROGRAM, IN A SANDBOX (cutbox-rows.mjs): the forced cells as the released guide's own fill.sh prints them over the translation 0dc8e5ed6bea355d… (all of the seat's roots in one cut). By AI agents, Wed Nov 11 2026. No macro, syntax, notation, axiom, sorry.
-/
import Derived.Test.YtajidaicojekdaaChecked
import GoSem.Claim
import GoSem.ClaimJoined
import GoSem.ClaimMapViews
import Derived.JoinedTies
import Derived.KernelRfl
namespace Go.Proofs.Ytajidaicojekdaa
/- THE CELL 'sum', in the pinned program and in every row, IS THE sha256 OF THE DUMP (.gsa) THAT YtajidaicojekdaaProg.lean LOADS. Nothing in Lean hashes anything: it is a label: what it is worth is what the hold of that sum in a sandbox is worth. -/
noncomputable def Try.pinned : Pinned := { name := "ytajidaicojekdaa", sum := "0dc8e5ed6bea355df6f4b6cef207d946240d1938c80ba71cbc876237b115804d", checked := Try.checked }
namespace Rows
def none {H : Type} : Left H := { results := [], args := [] }

/-- 'budwoodlaw16.LinkResolves': WHATEVER THE INPUT: true; the input reads as it did. -/
def linkResolvesSpec : ChangeSpec := { name := "linkResolves", fn := fun _ => fun
  | [d1, d2] => { results := [.lit (.bool true)], args := [d1, d2] }
  | _ => none }
def linkResolvesRow : OpenClaim := { program := "ytajidaicojekdaa", sum := "0dc8e5ed6bea355df6f4b6cef207d946240d1938c80ba71cbc876237b115804d", func := "budwood/budwoodlaw16.LinkResolves", spec := "linkResolves", inPlace := ["internal/bytealg.IndexByteString", "internal/bytealg.IndexString"], unfollowed := true, recurses := true, named := ["internal/bytealg.MaxLen"], plainKeys := false, apart := false }
def LinkResolvesSaid : Prop := linkResolvesRow.holds Try.pinned (OpenSpec.ofChange linkResolvesSpec)

/-- ITS FALSE NEIGHBOUR: 'it returns false'. Refute it at one input. -/
def linkResolvesWrong : ChangeSpec := { name := "linkResolves", fn := fun _ => fun
  | [d1, d2] => { results := [.lit (.bool false)], args := [d1, d2] }
  | _ => none }
def LinkResolvesWrongFalsely : Prop := linkResolvesRow.holds Try.pinned (OpenSpec.ofChange linkResolvesWrong)

/-- 'budwoodlaw16.LinkWords': WHATEVER THE INPUT: true; the input reads as it did. -/
def linkWordsSpec : ChangeSpec := { name := "linkWords", fn := fun _ => fun
  | [d1, d2, d3] => { results := [.lit (.bool true)], args := [d1, d2, d3] }
  | _ => none }
def linkWordsRow : OpenClaim := { program := "ytajidaicojekdaa", sum := "0dc8e5ed6bea355df6f4b6cef207d946240d1938c80ba71cbc876237b115804d", func := "budwood/budwoodlaw16.LinkWords", spec := "linkWords", unfollowed := true, recurses := true, plainKeys := false, apart := false }
def LinkWordsSaid : Prop := linkWordsRow.holds Try.pinned (OpenSpec.ofChange linkWordsSpec)

/-- ITS FALSE NEIGHBOUR: 'it returns false'. Refute it at one input. -/
def linkWordsWrong : ChangeSpec := { name := "linkWords", fn := fun _ => fun
  | [d1, d2, d3] => { results := [.lit (.bool false)], args := [d1, d2, d3] }
  | _ => none }
def LinkWordsWrongFalsely : Prop := linkWordsRow.holds Try.pinned (OpenSpec.ofChange linkWordsWrong)

/-- 'budwoodlaw16.LinkImages': WHATEVER THE INPUT: true; the input reads as it did. -/
def linkImagesSpec : ChangeSpec := { name := "linkImages", fn := fun _ => fun
  | [d1, d2, d3] => { results := [.lit (.bool true)], args := [d1, d2, d3] }
  | _ => none }
def linkImagesRow : OpenClaim := { program := "ytajidaicojekdaa", sum := "0dc8e5ed6bea355df6f4b6cef207d946240d1938c80ba71cbc876237b115804d", func := "budwood/budwoodlaw16.LinkImages", spec := "linkImages", unfollowed := true, recurses := true, plainKeys := false, apart := false }
def LinkImagesSaid : Prop := linkImagesRow.holds Try.pinned (OpenSpec.ofChange linkImagesSpec)

/-- ITS FALSE NEIGHBOUR: 'it returns false'. Refute it at one input. -/
def linkImagesWrong : ChangeSpec := { name := "linkImages", fn := fun _ => fun
  | [d1, d2, d3] => { results := [.lit (.bool false)], args := [d1, d2, d3] }
  | _ => none }
def LinkImagesWrongFalsely : Prop := linkImagesRow.holds Try.pinned (OpenSpec.ofChange linkImagesWrong)

/-- 'budwoodlaw16.LinkOnly': WHATEVER THE INPUT: true; the input reads as it did. -/
def linkOnlySpec : ChangeSpec := { name := "linkOnly", fn := fun _ => fun
  | [d1, d2, d3] => { results := [.lit (.bool true)], args := [d1, d2, d3] }
  | _ => none }
def linkOnlyRow : OpenClaim := { program := "ytajidaicojekdaa", sum := "0dc8e5ed6bea355df6f4b6cef207d946240d1938c80ba71cbc876237b115804d", func := "budwood/budwoodlaw16.LinkOnly", spec := "linkOnly", inPlace := ["internal/bytealg.IndexByteString", "internal/bytealg.IndexString"], unfollowed := true, recurses := true, named := ["internal/bytealg.MaxLen"], plainKeys := false, apart := false }
def LinkOnlySaid : Prop := linkOnlyRow.holds Try.pinned (OpenSpec.ofChange linkOnlySpec)

/-- ITS FALSE NEIGHBOUR: 'it returns false'. Refute it at one input. -/
def linkOnlyWrong : ChangeSpec := { name := "linkOnly", fn := fun _ => fun
  | [d1, d2, d3] => { results := [.lit (.bool false)], args := [d1, d2, d3] }
  | _ => none }
def LinkOnlyWrongFalsely : Prop := linkOnlyRow.holds Try.pinned (OpenSpec.ofChange linkOnlyWrong)

/-- 'budwoodlaw16.LinkMoves': WHATEVER THE INPUT: true; the input reads as it did. -/
def linkMovesSpec : ChangeSpec := { name := "linkMoves", fn := fun _ => fun
  | [d1, d2, d3] => { results := [.lit (.bool true)], args := [d1, d2, d3] }
  | _ => none }
def linkMovesRow : OpenClaim := { program := "ytajidaicojekdaa", sum := "0dc8e5ed6bea355df6f4b6cef207d946240d1938c80ba71cbc876237b115804d", func := "budwood/budwoodlaw16.LinkMoves", spec := "linkMoves", inPlace := ["internal/bytealg.IndexByteString", "internal/bytealg.IndexString"], unfollowed := true, recurses := true, named := ["internal/bytealg.MaxLen"], plainKeys := false, apart := false }
def LinkMovesSaid : Prop := linkMovesRow.holds Try.pinned (OpenSpec.ofChange linkMovesSpec)

/-- ITS FALSE NEIGHBOUR: 'it returns false'. Refute it at one input. -/
def linkMovesWrong : ChangeSpec := { name := "linkMoves", fn := fun _ => fun
  | [d1, d2, d3] => { results := [.lit (.bool false)], args := [d1, d2, d3] }
  | _ => none }
def LinkMovesWrongFalsely : Prop := linkMovesRow.holds Try.pinned (OpenSpec.ofChange linkMovesWrong)

/-- 'budwoodlaw16.LinkImports': WHATEVER THE INPUT: true; the input reads as it did. -/
def linkImportsSpec : ChangeSpec := { name := "linkImports", fn := fun _ => fun
  | [d1, d2, d3] => { results := [.lit (.bool true)], args := [d1, d2, d3] }
  | _ => none }
def linkImportsRow : OpenClaim := { program := "ytajidaicojekdaa", sum := "0dc8e5ed6bea355df6f4b6cef207d946240d1938c80ba71cbc876237b115804d", func := "budwood/budwoodlaw16.LinkImports", spec := "linkImports", inPlace := ["internal/bytealg.IndexByteString", "internal/bytealg.IndexString"], unfollowed := true, recurses := true, named := ["internal/bytealg.MaxLen"], plainKeys := false, apart := false }
def LinkImportsSaid : Prop := linkImportsRow.holds Try.pinned (OpenSpec.ofChange linkImportsSpec)

/-- ITS FALSE NEIGHBOUR: 'it returns false'. Refute it at one input. -/
def linkImportsWrong : ChangeSpec := { name := "linkImports", fn := fun _ => fun
  | [d1, d2, d3] => { results := [.lit (.bool false)], args := [d1, d2, d3] }
  | _ => none }
def LinkImportsWrongFalsely : Prop := linkImportsRow.holds Try.pinned (OpenSpec.ofChange linkImportsWrong)

/- THE SECOND FORM. 'bulk': how many values and letters a reading holds, each counted each time it is reached (what is shared counts as often as it is met; a slice's spare places count too). A statement '..UptoSaid' is the law's where the arguments, and the package variables that the reading takes, are together of bulk at most 1048576: NARROWER than '..Said'. Prove '..Said' where nothing that the law and all that it calls make is longer than what came in: it says more and counts as full. Else prove '..UptoSaid'. A law counts once. -/
mutual
def uptoBulk {H : Type} : DataW H → Nat
  | .lit (.string bytes) => bytes.length + 1
  | .lit _ => 1
  | .nil => 1
  | .ptr d => uptoBulk d + 1
  | .slice elems spare => uptoBulkAll elems + uptoBulkAll spare + 1
  | .agg parts => uptoBulkAll parts + 1
  | .iface _ d => uptoBulk d + 1
  | .map entries => uptoBulkEntries entries + 1
  | .held _ => 1
def uptoBulkAll {H : Type} : List (DataW H) → Nat
  | [] => 0
  | d :: r => uptoBulk d + uptoBulkAll r
def uptoBulkEntries {H : Type} : List (Lit × DataW H) → Nat
  | [] => 0
  | x :: r => uptoBulkEntry x + uptoBulkEntries r
def uptoBulkEntry {H : Type} : Lit × DataW H → Nat
  | (.string bytes, d) => bytes.length + uptoBulk d + 1
  | (_, d) => uptoBulk d + 1
 end
def uptoSmall : (H : Type) → List (DataW H) → Bool := fun _ ds => decide (uptoBulkAll ds ≤ 1048576)
def OpenSpec.upto (s : _root_.Go.ChangeSpec) : _root_.Go.OpenSpec := { _root_.Go.OpenSpec.ofChange s with cond := some uptoSmall }

/-- 'budwoodlaw16.LinkResolves', WHERE WHAT IT READS IS OF BULK AT MOST 1048576: true; the input reads as it did. -/
def linkResolvesUptoRow : OpenClaim := { program := "ytajidaicojekdaa", sum := "0dc8e5ed6bea355df6f4b6cef207d946240d1938c80ba71cbc876237b115804d", func := "budwood/budwoodlaw16.LinkResolves", spec := "linkResolves", inPlace := ["internal/bytealg.IndexByteString", "internal/bytealg.IndexString"], unfollowed := true, recurses := true, named := ["internal/bytealg.MaxLen"], plainKeys := false, apart := false, narrowed := true }
def LinkResolvesUptoSaid : Prop := linkResolvesUptoRow.holds Try.pinned (OpenSpec.upto linkResolvesSpec)

/-- 'budwoodlaw16.LinkWords', WHERE WHAT IT READS IS OF BULK AT MOST 1048576: true; the input reads as it did. -/
def linkWordsUptoRow : OpenClaim := { program := "ytajidaicojekdaa", sum := "0dc8e5ed6bea355df6f4b6cef207d946240d1938c80ba71cbc876237b115804d", func := "budwood/budwoodlaw16.LinkWords", spec := "linkWords", unfollowed := true, recurses := true, plainKeys := false, apart := false, narrowed := true }
def LinkWordsUptoSaid : Prop := linkWordsUptoRow.holds Try.pinned (OpenSpec.upto linkWordsSpec)

/-- 'budwoodlaw16.LinkImages', WHERE WHAT IT READS IS OF BULK AT MOST 1048576: true; the input reads as it did. -/
def linkImagesUptoRow : OpenClaim := { program := "ytajidaicojekdaa", sum := "0dc8e5ed6bea355df6f4b6cef207d946240d1938c80ba71cbc876237b115804d", func := "budwood/budwoodlaw16.LinkImages", spec := "linkImages", unfollowed := true, recurses := true, plainKeys := false, apart := false, narrowed := true }
def LinkImagesUptoSaid : Prop := linkImagesUptoRow.holds Try.pinned (OpenSpec.upto linkImagesSpec)

/-- 'budwoodlaw16.LinkOnly', WHERE WHAT IT READS IS OF BULK AT MOST 1048576: true; the input reads as it did. -/
def linkOnlyUptoRow : OpenClaim := { program := "ytajidaicojekdaa", sum := "0dc8e5ed6bea355df6f4b6cef207d946240d1938c80ba71cbc876237b115804d", func := "budwood/budwoodlaw16.LinkOnly", spec := "linkOnly", inPlace := ["internal/bytealg.IndexByteString", "internal/bytealg.IndexString"], unfollowed := true, recurses := true, named := ["internal/bytealg.MaxLen"], plainKeys := false, apart := false, narrowed := true }
def LinkOnlyUptoSaid : Prop := linkOnlyUptoRow.holds Try.pinned (OpenSpec.upto linkOnlySpec)

/-- 'budwoodlaw16.LinkMoves', WHERE WHAT IT READS IS OF BULK AT MOST 1048576: true; the input reads as it did. -/
def linkMovesUptoRow : OpenClaim := { program := "ytajidaicojekdaa", sum := "0dc8e5ed6bea355df6f4b6cef207d946240d1938c80ba71cbc876237b115804d", func := "budwood/budwoodlaw16.LinkMoves", spec := "linkMoves", inPlace := ["internal/bytealg.IndexByteString", "internal/bytealg.IndexString"], unfollowed := true, recurses := true, named := ["internal/bytealg.MaxLen"], plainKeys := false, apart := false, narrowed := true }
def LinkMovesUptoSaid : Prop := linkMovesUptoRow.holds Try.pinned (OpenSpec.upto linkMovesSpec)

/-- 'budwoodlaw16.LinkImports', WHERE WHAT IT READS IS OF BULK AT MOST 1048576: true; the input reads as it did. -/
def linkImportsUptoRow : OpenClaim := { program := "ytajidaicojekdaa", sum := "0dc8e5ed6bea355df6f4b6cef207d946240d1938c80ba71cbc876237b115804d", func := "budwood/budwoodlaw16.LinkImports", spec := "linkImports", inPlace := ["internal/bytealg.IndexByteString", "internal/bytealg.IndexString"], unfollowed := true, recurses := true, named := ["internal/bytealg.MaxLen"], plainKeys := false, apart := false, narrowed := true }
def LinkImportsUptoSaid : Prop := linkImportsUptoRow.holds Try.pinned (OpenSpec.upto linkImportsSpec)

end Rows
end Go.Proofs.Ytajidaicojekdaa

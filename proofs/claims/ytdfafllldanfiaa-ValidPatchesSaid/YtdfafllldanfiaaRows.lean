/-
  No cell of these rows narrows 'for every input' (looked for: loops, veiled, ifaces, maps, wideKeys, modest, calm, conditions, laid).
  DERIVED. THE GIVEN ROWS OF THIS SEAT. 5 by the template 'for every input the law returns true; each argument reads behind the call as it read before'; 0 by the template 'total and deterministic' (their statements: YtdfafllldanfiaaTotals.lean).
  GIVEN WITH THE SEED: the statements are not yours to turn. If you find one false, say at which input.
  Laid BY PROGRAM, IN A SANDBOX (cutbox-rows.mjs): the forced cells as the released guide's own fill.sh prints them over the translation 00f2ce8030942930… (all of the seat's roots in one cut). By AI agents, Wed Nov 11 2026. No macro, syntax, notation, axiom, sorry.
-/
import Derived.Test.YtdfafllldanfiaaChecked
import GoSem.Claim
import GoSem.ClaimJoined
import GoSem.ClaimMapViews
import Derived.JoinedTies
import Derived.KernelRfl
namespace Go.Proofs.Ytdfafllldanfiaa
/- THE CELL 'sum', in the pinned program and in every row, IS THE sha256 OF THE DUMP (.gsa) THAT YtdfafllldanfiaaProg.lean LOADS. Nothing in Lean hashes anything: it is a label: what it is worth is what the hold of that sum in a sandbox is worth. -/
noncomputable def Try.pinned : Pinned := { name := "ytdfafllldanfiaa", sum := "00f2ce8030942930316e7aec5a7d69948c39dd11d19e633c1d4f2e2a3fe31ea0", checked := Try.checked }
namespace Rows
def none {H : Type} : Left H := { results := [], args := [] }

/-- 'budwoodlaw11.ValidPatches': WHATEVER THE INPUT: true; the input reads as it did. -/
def validPatchesSpec : ChangeSpec := { name := "validPatches", fn := fun _ => fun
  | [d1, d2] => { results := [.lit (.bool true)], args := [d1, d2] }
  | _ => none }
def validPatchesRow : OpenClaim := { program := "ytdfafllldanfiaa", sum := "00f2ce8030942930316e7aec5a7d69948c39dd11d19e633c1d4f2e2a3fe31ea0", func := "budwood/budwoodlaw11.ValidPatches", spec := "validPatches", inPlace := ["internal/bytealg.IndexByteString", "internal/bytealg.IndexString"], unfollowed := true, recurses := true, named := ["internal/bytealg.MaxLen"], plainKeys := false, apart := false }
def ValidPatchesSaid : Prop := validPatchesRow.holds Try.pinned (OpenSpec.ofChange validPatchesSpec)

/-- ITS FALSE NEIGHBOUR: 'it returns false'. Refute it at one input. -/
def validPatchesWrong : ChangeSpec := { name := "validPatches", fn := fun _ => fun
  | [d1, d2] => { results := [.lit (.bool false)], args := [d1, d2] }
  | _ => none }
def ValidPatchesWrongFalsely : Prop := validPatchesRow.holds Try.pinned (OpenSpec.ofChange validPatchesWrong)

/-- 'budwoodlaw11.ValidCalls': WHATEVER THE INPUT: true; the input reads as it did. -/
def validCallsSpec : ChangeSpec := { name := "validCalls", fn := fun _ => fun
  | [d] => { results := [.lit (.bool true)], args := [d] }
  | _ => none }
def validCallsRow : OpenClaim := { program := "ytdfafllldanfiaa", sum := "00f2ce8030942930316e7aec5a7d69948c39dd11d19e633c1d4f2e2a3fe31ea0", func := "budwood/budwoodlaw11.ValidCalls", spec := "validCalls", inPlace := ["internal/bytealg.IndexByteString", "internal/bytealg.IndexString"], unfollowed := true, recurses := true, named := ["internal/bytealg.MaxLen"], plainKeys := false, apart := false }
def ValidCallsSaid : Prop := validCallsRow.holds Try.pinned (OpenSpec.ofChange validCallsSpec)

/-- ITS FALSE NEIGHBOUR: 'it returns false'. Refute it at one input. -/
def validCallsWrong : ChangeSpec := { name := "validCalls", fn := fun _ => fun
  | [d] => { results := [.lit (.bool false)], args := [d] }
  | _ => none }
def ValidCallsWrongFalsely : Prop := validCallsRow.holds Try.pinned (OpenSpec.ofChange validCallsWrong)

/-- 'budwoodlaw11.ValidLess': WHATEVER THE INPUT: true; the input reads as it did. -/
def validLessSpec : ChangeSpec := { name := "validLess", fn := fun _ => fun
  | [d] => { results := [.lit (.bool true)], args := [d] }
  | _ => none }
def validLessRow : OpenClaim := { program := "ytdfafllldanfiaa", sum := "00f2ce8030942930316e7aec5a7d69948c39dd11d19e633c1d4f2e2a3fe31ea0", func := "budwood/budwoodlaw11.ValidLess", spec := "validLess", inPlace := ["internal/bytealg.IndexByteString", "internal/bytealg.IndexString"], unfollowed := true, recurses := true, named := ["internal/bytealg.MaxLen"], plainKeys := false, apart := false }
def ValidLessSaid : Prop := validLessRow.holds Try.pinned (OpenSpec.ofChange validLessSpec)

/-- ITS FALSE NEIGHBOUR: 'it returns false'. Refute it at one input. -/
def validLessWrong : ChangeSpec := { name := "validLess", fn := fun _ => fun
  | [d] => { results := [.lit (.bool false)], args := [d] }
  | _ => none }
def ValidLessWrongFalsely : Prop := validLessRow.holds Try.pinned (OpenSpec.ofChange validLessWrong)

/-- 'budwoodlaw11.ValidMore': WHATEVER THE INPUT: true; the input reads as it did. -/
def validMoreSpec : ChangeSpec := { name := "validMore", fn := fun _ => fun
  | [d1, d2] => { results := [.lit (.bool true)], args := [d1, d2] }
  | _ => none }
def validMoreRow : OpenClaim := { program := "ytdfafllldanfiaa", sum := "00f2ce8030942930316e7aec5a7d69948c39dd11d19e633c1d4f2e2a3fe31ea0", func := "budwood/budwoodlaw11.ValidMore", spec := "validMore", inPlace := ["internal/bytealg.IndexByteString", "internal/bytealg.IndexString"], unfollowed := true, recurses := true, named := ["internal/bytealg.MaxLen"], plainKeys := false, apart := false }
def ValidMoreSaid : Prop := validMoreRow.holds Try.pinned (OpenSpec.ofChange validMoreSpec)

/-- ITS FALSE NEIGHBOUR: 'it returns false'. Refute it at one input. -/
def validMoreWrong : ChangeSpec := { name := "validMore", fn := fun _ => fun
  | [d1, d2] => { results := [.lit (.bool false)], args := [d1, d2] }
  | _ => none }
def ValidMoreWrongFalsely : Prop := validMoreRow.holds Try.pinned (OpenSpec.ofChange validMoreWrong)

/-- 'budwoodlaw11.ValidTwice': WHATEVER THE INPUT: true; the input reads as it did. -/
def validTwiceSpec : ChangeSpec := { name := "validTwice", fn := fun _ => fun
  | [d1, d2] => { results := [.lit (.bool true)], args := [d1, d2] }
  | _ => none }
def validTwiceRow : OpenClaim := { program := "ytdfafllldanfiaa", sum := "00f2ce8030942930316e7aec5a7d69948c39dd11d19e633c1d4f2e2a3fe31ea0", func := "budwood/budwoodlaw11.ValidTwice", spec := "validTwice", inPlace := ["internal/bytealg.IndexByteString", "internal/bytealg.IndexString"], unfollowed := true, recurses := true, named := ["internal/bytealg.MaxLen"], plainKeys := false, apart := false }
def ValidTwiceSaid : Prop := validTwiceRow.holds Try.pinned (OpenSpec.ofChange validTwiceSpec)

/-- ITS FALSE NEIGHBOUR: 'it returns false'. Refute it at one input. -/
def validTwiceWrong : ChangeSpec := { name := "validTwice", fn := fun _ => fun
  | [d1, d2] => { results := [.lit (.bool false)], args := [d1, d2] }
  | _ => none }
def ValidTwiceWrongFalsely : Prop := validTwiceRow.holds Try.pinned (OpenSpec.ofChange validTwiceWrong)

/- THE SECOND FORM. 'bulk': how many values and letters a reading holds, each counted each time it is reached (what is shared counts as often as it is met; a slice's spare places count too). A statement '..UptoSaid' is the law's where the arguments, and the package variables that the reading takes, are together of bulk at most 1048576: NARROWER than '..Said'. Prove '..Said' where nothing that the law and all that it calls make is longer than what came in: it says more and counts as full. Else prove '..UptoSaid'. A law counts once. -/
mutual
def uptoBulk {H : Type} : DataW H → Nat
  | .lit (.string bytes) => bytes.length + 1
  | .lit _ => 1
  | .nil => 1
  | .ptr d => uptoBulk d + 1
  | .slice elems spare => uptoBulkAll elems + uptoBulkAll spare + 1
  | .agg parts => uptoBulkAll parts + 1
  | .iface _ d => uptoBulk d + 1
  | .map entries => uptoBulkEntries entries + 1
  | .held _ => 1
def uptoBulkAll {H : Type} : List (DataW H) → Nat
  | [] => 0
  | d :: r => uptoBulk d + uptoBulkAll r
def uptoBulkEntries {H : Type} : List (Lit × DataW H) → Nat
  | [] => 0
  | x :: r => uptoBulkEntry x + uptoBulkEntries r
def uptoBulkEntry {H : Type} : Lit × DataW H → Nat
  | (.string bytes, d) => bytes.length + uptoBulk d + 1
  | (_, d) => uptoBulk d + 1
 end
def uptoSmall : (H : Type) → List (DataW H) → Bool := fun _ ds => decide (uptoBulkAll ds ≤ 1048576)
def OpenSpec.upto (s : _root_.Go.ChangeSpec) : _root_.Go.OpenSpec := { _root_.Go.OpenSpec.ofChange s with cond := some uptoSmall }

/-- 'budwoodlaw11.ValidPatches', WHERE WHAT IT READS IS OF BULK AT MOST 1048576: true; the input reads as it did. -/
def validPatchesUptoRow : OpenClaim := { program := "ytdfafllldanfiaa", sum := "00f2ce8030942930316e7aec5a7d69948c39dd11d19e633c1d4f2e2a3fe31ea0", func := "budwood/budwoodlaw11.ValidPatches", spec := "validPatches", inPlace := ["internal/bytealg.IndexByteString", "internal/bytealg.IndexString"], unfollowed := true, recurses := true, named := ["internal/bytealg.MaxLen"], plainKeys := false, apart := false, narrowed := true }
def ValidPatchesUptoSaid : Prop := validPatchesUptoRow.holds Try.pinned (OpenSpec.upto validPatchesSpec)

/-- 'budwoodlaw11.ValidCalls', WHERE WHAT IT READS IS OF BULK AT MOST 1048576: true; the input reads as it did. -/
def validCallsUptoRow : OpenClaim := { program := "ytdfafllldanfiaa", sum := "00f2ce8030942930316e7aec5a7d69948c39dd11d19e633c1d4f2e2a3fe31ea0", func := "budwood/budwoodlaw11.ValidCalls", spec := "validCalls", inPlace := ["internal/bytealg.IndexByteString", "internal/bytealg.IndexString"], unfollowed := true, recurses := true, named := ["internal/bytealg.MaxLen"], plainKeys := false, apart := false, narrowed := true }
def ValidCallsUptoSaid : Prop := validCallsUptoRow.holds Try.pinned (OpenSpec.upto validCallsSpec)

/-- 'budwoodlaw11.ValidLess', WHERE WHAT IT READS IS OF BULK AT MOST 1048576: true; the input reads as it did. -/
def validLessUptoRow : OpenClaim := { program := "ytdfafllldanfiaa", sum := "00f2ce8030942930316e7aec5a7d69948c39dd11d19e633c1d4f2e2a3fe31ea0", func := "budwood/budwoodlaw11.ValidLess", spec := "validLess", inPlace := ["internal/bytealg.IndexByteString", "internal/bytealg.IndexString"], unfollowed := true, recurses := true, named := ["internal/bytealg.MaxLen"], plainKeys := false, apart := false, narrowed := true }
def ValidLessUptoSaid : Prop := validLessUptoRow.holds Try.pinned (OpenSpec.upto validLessSpec)

/-- 'budwoodlaw11.ValidMore', WHERE WHAT IT READS IS OF BULK AT MOST 1048576: true; the input reads as it did. -/
def validMoreUptoRow : OpenClaim := { program := "ytdfafllldanfiaa", sum := "00f2ce8030942930316e7aec5a7d69948c39dd11d19e633c1d4f2e2a3fe31ea0", func := "budwood/budwoodlaw11.ValidMore", spec := "validMore", inPlace := ["internal/bytealg.IndexByteString", "internal/bytealg.IndexString"], unfollowed := true, recurses := true, named := ["internal/bytealg.MaxLen"], plainKeys := false, apart := false, narrowed := true }
def ValidMoreUptoSaid : Prop := validMoreUptoRow.holds Try.pinned (OpenSpec.upto validMoreSpec)

/-- 'budwoodlaw11.ValidTwice', WHERE WHAT IT READS IS OF BULK AT MOST 1048576: true; the input reads as it did. -/
def validTwiceUptoRow : OpenClaim := { program := "ytdfafllldanfiaa", sum := "00f2ce8030942930316e7aec5a7d69948c39dd11d19e633c1d4f2e2a3fe31ea0", func := "budwood/budwoodlaw11.ValidTwice", spec := "validTwice", inPlace := ["internal/bytealg.IndexByteString", "internal/bytealg.IndexString"], unfollowed := true, recurses := true, named := ["internal/bytealg.MaxLen"], plainKeys := false, apart := false, narrowed := true }
def ValidTwiceUptoSaid : Prop := validTwiceUptoRow.holds Try.pinned (OpenSpec.upto validTwiceSpec)

end Rows
end Go.Proofs.Ytdfafllldanfiaa

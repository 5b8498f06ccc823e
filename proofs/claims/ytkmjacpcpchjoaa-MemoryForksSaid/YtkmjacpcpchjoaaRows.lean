/-
  No cell of these rows narrows 'for every input' (looked for: loops, veiled, ifaces, maps, wideKeys, modest, calm, conditions, laid).
  DERIVED. THE GIVEN ROWS OF THIS SEAT. 6 by the template 'for every input the law returns true; each argument reads behind the call as it read before'; 0 by the template 'total and deterministic' (their statements: YtkmjacpcpchjoaaTotals.lean).
  GIVEN WITH THE SEED: the statements are not yours to turn. If you find one false, say at which input.
  Laid BY PROGRAM, IN A SANDBOX (cutbox-rows.mjs): the forced cells as the released guide's own fill.sh prints them over the translation 5da5f4fdc40cbe8a… (all of the seat's roots in one cut). By AI agents, Wed Nov 11 2026. No macro, syntax, notation, axiom, sorry.
-/
import Derived.Test.YtkmjacpcpchjoaaChecked
import GoSem.Claim
import GoSem.ClaimJoined
import GoSem.ClaimMapViews
import Derived.JoinedTies
import Derived.KernelRfl
namespace Go.Proofs.Ytkmjacpcpchjoaa
/- THE CELL 'sum', in the pinned program and in every row, IS THE sha256 OF THE DUMP (.gsa) THAT YtkmjacpcpchjoaaProg.lean LOADS. Nothing in Lean hashes anything: it is a label: what it is worth is what the hold of that sum in a sandbox is worth. -/
noncomputable def Try.pinned : Pinned := { name := "ytkmjacpcpchjoaa", sum := "5da5f4fdc40cbe8ac7758c8bcd063dce48ca32c69d075b868ad426d7acd8094b", checked := Try.checked }
namespace Rows
def none {H : Type} : Left H := { results := [], args := [] }

/-- 'budwoodlaw08.MemoryPlays': WHATEVER THE INPUT: true; the input reads as it did. -/
def memoryPlaysSpec : ChangeSpec := { name := "memoryPlays", fn := fun _ => fun
  | [d1, d2] => { results := [.lit (.bool true)], args := [d1, d2] }
  | _ => none }
def memoryPlaysRow : OpenClaim := { program := "ytkmjacpcpchjoaa", sum := "5da5f4fdc40cbe8ac7758c8bcd063dce48ca32c69d075b868ad426d7acd8094b", func := "budwood/budwoodlaw08.MemoryPlays", spec := "memoryPlays", unfollowed := true, recurses := true, apart := false }
def MemoryPlaysSaid : Prop := memoryPlaysRow.holds Try.pinned (OpenSpec.ofChange memoryPlaysSpec)

/-- ITS FALSE NEIGHBOUR: 'it returns false'. Refute it at one input. -/
def memoryPlaysWrong : ChangeSpec := { name := "memoryPlays", fn := fun _ => fun
  | [d1, d2] => { results := [.lit (.bool false)], args := [d1, d2] }
  | _ => none }
def MemoryPlaysWrongFalsely : Prop := memoryPlaysRow.holds Try.pinned (OpenSpec.ofChange memoryPlaysWrong)

/-- 'budwoodlaw08.MemoryPages': WHATEVER THE INPUT: true; the input reads as it did. -/
def memoryPagesSpec : ChangeSpec := { name := "memoryPages", fn := fun _ => fun
  | [d1, d2] => { results := [.lit (.bool true)], args := [d1, d2] }
  | _ => none }
def memoryPagesRow : OpenClaim := { program := "ytkmjacpcpchjoaa", sum := "5da5f4fdc40cbe8ac7758c8bcd063dce48ca32c69d075b868ad426d7acd8094b", func := "budwood/budwoodlaw08.MemoryPages", spec := "memoryPages", unfollowed := true, recurses := true, apart := false }
def MemoryPagesSaid : Prop := memoryPagesRow.holds Try.pinned (OpenSpec.ofChange memoryPagesSpec)

/-- ITS FALSE NEIGHBOUR: 'it returns false'. Refute it at one input. -/
def memoryPagesWrong : ChangeSpec := { name := "memoryPages", fn := fun _ => fun
  | [d1, d2] => { results := [.lit (.bool false)], args := [d1, d2] }
  | _ => none }
def MemoryPagesWrongFalsely : Prop := memoryPagesRow.holds Try.pinned (OpenSpec.ofChange memoryPagesWrong)

/-- 'budwoodlaw08.MemoryForks': WHATEVER THE INPUT: true; the input reads as it did. -/
def memoryForksSpec : ChangeSpec := { name := "memoryForks", fn := fun _ => fun
  | [d1, d2, d3] => { results := [.lit (.bool true)], args := [d1, d2, d3] }
  | _ => none }
def memoryForksRow : OpenClaim := { program := "ytkmjacpcpchjoaa", sum := "5da5f4fdc40cbe8ac7758c8bcd063dce48ca32c69d075b868ad426d7acd8094b", func := "budwood/budwoodlaw08.MemoryForks", spec := "memoryForks", unfollowed := true, recurses := true, apart := false }
def MemoryForksSaid : Prop := memoryForksRow.holds Try.pinned (OpenSpec.ofChange memoryForksSpec)

/-- ITS FALSE NEIGHBOUR: 'it returns false'. Refute it at one input. -/
def memoryForksWrong : ChangeSpec := { name := "memoryForks", fn := fun _ => fun
  | [d1, d2, d3] => { results := [.lit (.bool false)], args := [d1, d2, d3] }
  | _ => none }
def MemoryForksWrongFalsely : Prop := memoryForksRow.holds Try.pinned (OpenSpec.ofChange memoryForksWrong)

/-- 'budwoodlaw08.MemorySlots': WHATEVER THE INPUT: true; the input reads as it did. -/
def memorySlotsSpec : ChangeSpec := { name := "memorySlots", fn := fun _ => fun
  | [d1, d2, d3] => { results := [.lit (.bool true)], args := [d1, d2, d3] }
  | _ => none }
def memorySlotsRow : OpenClaim := { program := "ytkmjacpcpchjoaa", sum := "5da5f4fdc40cbe8ac7758c8bcd063dce48ca32c69d075b868ad426d7acd8094b", func := "budwood/budwoodlaw08.MemorySlots", spec := "memorySlots", unfollowed := true, recurses := true, apart := false }
def MemorySlotsSaid : Prop := memorySlotsRow.holds Try.pinned (OpenSpec.ofChange memorySlotsSpec)

/-- ITS FALSE NEIGHBOUR: 'it returns false'. Refute it at one input. -/
def memorySlotsWrong : ChangeSpec := { name := "memorySlots", fn := fun _ => fun
  | [d1, d2, d3] => { results := [.lit (.bool false)], args := [d1, d2, d3] }
  | _ => none }
def MemorySlotsWrongFalsely : Prop := memorySlotsRow.holds Try.pinned (OpenSpec.ofChange memorySlotsWrong)

/-- 'budwoodlaw08.MemoryStores': WHATEVER THE INPUT: true; the input reads as it did. -/
def memoryStoresSpec : ChangeSpec := { name := "memoryStores", fn := fun _ => fun
  | [d1, d2] => { results := [.lit (.bool true)], args := [d1, d2] }
  | _ => none }
def memoryStoresRow : OpenClaim := { program := "ytkmjacpcpchjoaa", sum := "5da5f4fdc40cbe8ac7758c8bcd063dce48ca32c69d075b868ad426d7acd8094b", func := "budwood/budwoodlaw08.MemoryStores", spec := "memoryStores", unfollowed := true, recurses := true, apart := false }
def MemoryStoresSaid : Prop := memoryStoresRow.holds Try.pinned (OpenSpec.ofChange memoryStoresSpec)

/-- ITS FALSE NEIGHBOUR: 'it returns false'. Refute it at one input. -/
def memoryStoresWrong : ChangeSpec := { name := "memoryStores", fn := fun _ => fun
  | [d1, d2] => { results := [.lit (.bool false)], args := [d1, d2] }
  | _ => none }
def MemoryStoresWrongFalsely : Prop := memoryStoresRow.holds Try.pinned (OpenSpec.ofChange memoryStoresWrong)

/-- 'budwoodlaw08.MemoryBack': WHATEVER THE INPUT: true; the input reads as it did. -/
def memoryBackSpec : ChangeSpec := { name := "memoryBack", fn := fun _ => fun
  | [d1, d2, d3] => { results := [.lit (.bool true)], args := [d1, d2, d3] }
  | _ => none }
def memoryBackRow : OpenClaim := { program := "ytkmjacpcpchjoaa", sum := "5da5f4fdc40cbe8ac7758c8bcd063dce48ca32c69d075b868ad426d7acd8094b", func := "budwood/budwoodlaw08.MemoryBack", spec := "memoryBack", unfollowed := true, recurses := true, apart := false }
def MemoryBackSaid : Prop := memoryBackRow.holds Try.pinned (OpenSpec.ofChange memoryBackSpec)

/-- ITS FALSE NEIGHBOUR: 'it returns false'. Refute it at one input. -/
def memoryBackWrong : ChangeSpec := { name := "memoryBack", fn := fun _ => fun
  | [d1, d2, d3] => { results := [.lit (.bool false)], args := [d1, d2, d3] }
  | _ => none }
def MemoryBackWrongFalsely : Prop := memoryBackRow.holds Try.pinned (OpenSpec.ofChange memoryBackWrong)

/- THE SECOND FORM. 'bulk': how many values and letters a reading holds, each counted each time it is reached (what is shared counts as often as it is met; a slice's spare places count too). A statement '..UptoSaid' is the law's where the arguments, and the package variables that the reading takes, are together of bulk at most 1048576: NARROWER than '..Said'. Prove '..Said' where nothing that the law and all that it calls make is longer than what came in: it says more and counts as full. Else prove '..UptoSaid'. A law counts once. -/
mutual
def uptoBulk {H : Type} : DataW H → Nat
  | .lit (.string bytes) => bytes.length + 1
  | .lit _ => 1
  | .nil => 1
  | .ptr d => uptoBulk d + 1
  | .slice elems spare => uptoBulkAll elems + uptoBulkAll spare + 1
  | .agg parts => uptoBulkAll parts + 1
  | .iface _ d => uptoBulk d + 1
  | .map entries => uptoBulkEntries entries + 1
  | .held _ => 1
def uptoBulkAll {H : Type} : List (DataW H) → Nat
  | [] => 0
  | d :: r => uptoBulk d + uptoBulkAll r
def uptoBulkEntries {H : Type} : List (Lit × DataW H) → Nat
  | [] => 0
  | x :: r => uptoBulkEntry x + uptoBulkEntries r
def uptoBulkEntry {H : Type} : Lit × DataW H → Nat
  | (.string bytes, d) => bytes.length + uptoBulk d + 1
  | (_, d) => uptoBulk d + 1
 end
def uptoSmall : (H : Type) → List (DataW H) → Bool := fun _ ds => decide (uptoBulkAll ds ≤ 1048576)
def OpenSpec.upto (s : _root_.Go.ChangeSpec) : _root_.Go.OpenSpec := { _root_.Go.OpenSpec.ofChange s with cond := some uptoSmall }

/-- 'budwoodlaw08.MemoryPlays', WHERE WHAT IT READS IS OF BULK AT MOST 1048576: true; the input reads as it did. -/
def memoryPlaysUptoRow : OpenClaim := { program := "ytkmjacpcpchjoaa", sum := "5da5f4fdc40cbe8ac7758c8bcd063dce48ca32c69d075b868ad426d7acd8094b", func := "budwood/budwoodlaw08.MemoryPlays", spec := "memoryPlays", unfollowed := true, recurses := true, apart := false, narrowed := true }
def MemoryPlaysUptoSaid : Prop := memoryPlaysUptoRow.holds Try.pinned (OpenSpec.upto memoryPlaysSpec)

/-- 'budwoodlaw08.MemoryPages', WHERE WHAT IT READS IS OF BULK AT MOST 1048576: true; the input reads as it did. -/
def memoryPagesUptoRow : OpenClaim := { program := "ytkmjacpcpchjoaa", sum := "5da5f4fdc40cbe8ac7758c8bcd063dce48ca32c69d075b868ad426d7acd8094b", func := "budwood/budwoodlaw08.MemoryPages", spec := "memoryPages", unfollowed := true, recurses := true, apart := false, narrowed := true }
def MemoryPagesUptoSaid : Prop := memoryPagesUptoRow.holds Try.pinned (OpenSpec.upto memoryPagesSpec)

/-- 'budwoodlaw08.MemoryForks', WHERE WHAT IT READS IS OF BULK AT MOST 1048576: true; the input reads as it did. -/
def memoryForksUptoRow : OpenClaim := { program := "ytkmjacpcpchjoaa", sum := "5da5f4fdc40cbe8ac7758c8bcd063dce48ca32c69d075b868ad426d7acd8094b", func := "budwood/budwoodlaw08.MemoryForks", spec := "memoryForks", unfollowed := true, recurses := true, apart := false, narrowed := true }
def MemoryForksUptoSaid : Prop := memoryForksUptoRow.holds Try.pinned (OpenSpec.upto memoryForksSpec)

/-- 'budwoodlaw08.MemorySlots', WHERE WHAT IT READS IS OF BULK AT MOST 1048576: true; the input reads as it did. -/
def memorySlotsUptoRow : OpenClaim := { program := "ytkmjacpcpchjoaa", sum := "5da5f4fdc40cbe8ac7758c8bcd063dce48ca32c69d075b868ad426d7acd8094b", func := "budwood/budwoodlaw08.MemorySlots", spec := "memorySlots", unfollowed := true, recurses := true, apart := false, narrowed := true }
def MemorySlotsUptoSaid : Prop := memorySlotsUptoRow.holds Try.pinned (OpenSpec.upto memorySlotsSpec)

/-- 'budwoodlaw08.MemoryStores', WHERE WHAT IT READS IS OF BULK AT MOST 1048576: true; the input reads as it did. -/
def memoryStoresUptoRow : OpenClaim := { program := "ytkmjacpcpchjoaa", sum := "5da5f4fdc40cbe8ac7758c8bcd063dce48ca32c69d075b868ad426d7acd8094b", func := "budwood/budwoodlaw08.MemoryStores", spec := "memoryStores", unfollowed := true, recurses := true, apart := false, narrowed := true }
def MemoryStoresUptoSaid : Prop := memoryStoresUptoRow.holds Try.pinned (OpenSpec.upto memoryStoresSpec)

/-- 'budwoodlaw08.MemoryBack', WHERE WHAT IT READS IS OF BULK AT MOST 1048576: true; the input reads as it did. -/
def memoryBackUptoRow : OpenClaim := { program := "ytkmjacpcpchjoaa", sum := "5da5f4fdc40cbe8ac7758c8bcd063dce48ca32c69d075b868ad426d7acd8094b", func := "budwood/budwoodlaw08.MemoryBack", spec := "memoryBack", unfollowed := true, recurses := true, apart := false, narrowed := true }
def MemoryBackUptoSaid : Prop := memoryBackUptoRow.holds Try.pinned (OpenSpec.upto memoryBackSpec)

end Rows
end Go.Proofs.Ytkmjacpcpchjoaa

/-
  DERIVED. GIVEN WITH THE SEED: THE CARDS: each row of YtenilpofmfcofaaDoorRows.lean that lists a variable, with what it lists TIED to the program's text (the seventh form; the later family's looks); each row that meets fmt, with fmt's text TOLD by the authors' own Lean function (tested against real Go, not proved from fmt's source: count such statements apart). THE CARD IS WHAT COUNTS. Prove the row's statement (the work); the ties are given (YtenilpofmfcofaaDoorTie.lean); close each card by the builder's one call (the guide's Derived/Test/ToyasCard.lean, 'card_holds'). Laid BY PROGRAM, IN A SANDBOX (cutbox-door.mjs). By AI agents, Wed Nov 11 2026. No macro, syntax, notation, axiom, sorry.
-/
import Derived.Test.YtenilpofmfcofaaDoorRows
import GoSem.ClaimSeven
namespace Go.Proofs.YtenilpofmfcofaaDoor
namespace Rows

/-- THE TIED CARD OF 'budwoodlaw02.NameJoins'. -/
def nameJoinsCard : Claim7 := { stood := { row := nameJoinsRow, standIns := [], harness := (true, "1ec99eee0282b8cfc57beb929b789c5fe40be2f98eeba5bf63bddf1d8d2c667a"), looks := false }, kinds := [], alts := [], laidByText := true, laidKinds := [.data, .data, .data], laidTests := true, laidLooks := .later }
def NameJoinsCardSaid : Prop := Claim7.holds Tryd.pinned (.plain (OpenSpec.ofChange nameJoinsSpec)) nameJoinsCard

/-- THE TIED CARD OF 'budwoodlaw02.NameBack'. -/
def nameBackCard : Claim7 := { stood := { row := nameBackRow, standIns := [], harness := (true, "1ec99eee0282b8cfc57beb929b789c5fe40be2f98eeba5bf63bddf1d8d2c667a"), looks := false }, kinds := [], alts := [], laidByText := true, laidKinds := [.data, .data, .data], laidTests := true, laidLooks := .later }
def NameBackCardSaid : Prop := Claim7.holds Tryd.pinned (.plain (OpenSpec.ofChange nameBackSpec)) nameBackCard

/-- THE TIED CARD OF 'budwoodlaw02.NameVersions'. -/
def nameVersionsCard : Claim7 := { stood := { row := nameVersionsRow, standIns := [], harness := (true, "1ec99eee0282b8cfc57beb929b789c5fe40be2f98eeba5bf63bddf1d8d2c667a"), looks := false }, kinds := [], alts := [], laidByText := true, laidKinds := [.data, .data, .data], laidTests := true, laidLooks := .later }
def NameVersionsCardSaid : Prop := Claim7.holds Tryd.pinned (.plain (OpenSpec.ofChange nameVersionsSpec)) nameVersionsCard

/-- THE SECOND FORM's CARD OF 'budwoodlaw02.NameJoins'. -/
def nameJoinsUptoCard : Claim7 := { stood := { row := nameJoinsUptoRow, standIns := [], harness := (true, "1ec99eee0282b8cfc57beb929b789c5fe40be2f98eeba5bf63bddf1d8d2c667a"), looks := false }, kinds := [], alts := [], laidByText := true, laidKinds := [.data, .data, .data], laidTests := true, laidLooks := .later }
def NameJoinsUptoCardSaid : Prop := Claim7.holds Tryd.pinned (.plain (OpenSpec.upto nameJoinsSpec)) nameJoinsUptoCard

/-- THE SECOND FORM's CARD OF 'budwoodlaw02.NameBack'. -/
def nameBackUptoCard : Claim7 := { stood := { row := nameBackUptoRow, standIns := [], harness := (true, "1ec99eee0282b8cfc57beb929b789c5fe40be2f98eeba5bf63bddf1d8d2c667a"), looks := false }, kinds := [], alts := [], laidByText := true, laidKinds := [.data, .data, .data], laidTests := true, laidLooks := .later }
def NameBackUptoCardSaid : Prop := Claim7.holds Tryd.pinned (.plain (OpenSpec.upto nameBackSpec)) nameBackUptoCard

/-- THE SECOND FORM's CARD OF 'budwoodlaw02.NameVersions'. -/
def nameVersionsUptoCard : Claim7 := { stood := { row := nameVersionsUptoRow, standIns := [], harness := (true, "1ec99eee0282b8cfc57beb929b789c5fe40be2f98eeba5bf63bddf1d8d2c667a"), looks := false }, kinds := [], alts := [], laidByText := true, laidKinds := [.data, .data, .data], laidTests := true, laidLooks := .later }
def NameVersionsUptoCardSaid : Prop := Claim7.holds Tryd.pinned (.plain (OpenSpec.upto nameVersionsSpec)) nameVersionsUptoCard
end Rows
end Go.Proofs.YtenilpofmfcofaaDoor

/-
  DERIVED. GIVEN WITH THE SEED: THE CARDS: each row of YtphccenlflhfjaaGreatDoorRows.lean that lists a variable, with what it lists TIED to the program's text (the seventh form; the later family's looks); each row that meets fmt, with fmt's text TOLD by the authors' own Lean function (tested against real Go, not proved from fmt's source: count such statements apart). THE CARD IS WHAT COUNTS. Prove the row's statement (the work); the ties are given (YtphccenlflhfjaaGreatDoorTie.lean); close each card by the builder's one call (the guide's Derived/Test/ToyasCard.lean, 'card_holds'). Laid BY PROGRAM, IN A SANDBOX (cutbox-door.mjs). By AI agents, Wed Nov 11 2026. No macro, syntax, notation, axiom, sorry.
-/
import Derived.Test.YtphccenlflhfjaaGreatDoorRows
import GoSem.ClaimSeven
namespace Go.Proofs.YtphccenlflhfjaaGreatDoor
namespace Rows

/-- THE TIED CARD OF 'laws.FnRights'. -/
def fnRightsCard : Claim7 := { stood := { row := fnRightsRow, standIns := [], harness := (true, "d17cf9c6dd6c10f41586f853bf6c708fd9ebfe9e06a85ea1cdf4f53a4ab55431"), looks := false }, kinds := [], alts := [], laidByText := true, laidKinds := [.data, .data], laidTests := true, laidLooks := .later }
def FnRightsCardSaid : Prop := Claim7.holds Tryz.pinned (.plain (OpenSpec.ofChange fnRightsSpec)) fnRightsCard

/-- THE SECOND FORM's CARD OF 'laws.FnRights'. -/
def fnRightsUptoCard : Claim7 := { stood := { row := fnRightsUptoRow, standIns := [], harness := (true, "d17cf9c6dd6c10f41586f853bf6c708fd9ebfe9e06a85ea1cdf4f53a4ab55431"), looks := false }, kinds := [], alts := [], laidByText := true, laidKinds := [.data, .data], laidTests := true, laidLooks := .later }
def FnRightsUptoCardSaid : Prop := Claim7.holds Tryz.pinned (.plain (OpenSpec.upto fnRightsSpec)) fnRightsUptoCard
end Rows
end Go.Proofs.YtphccenlflhfjaaGreatDoor

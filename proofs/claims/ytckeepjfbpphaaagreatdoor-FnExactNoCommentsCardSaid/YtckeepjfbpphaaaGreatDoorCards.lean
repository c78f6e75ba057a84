/-
  DERIVED. GIVEN WITH THE SEED: THE CARDS: each row of YtckeepjfbpphaaaGreatDoorRows.lean that lists a variable, with what it lists TIED to the program's text (the seventh form; the later family's looks); each row that meets fmt, with fmt's text TOLD by the authors' own Lean function (tested against real Go, not proved from fmt's source: count such statements apart). THE CARD IS WHAT COUNTS. Prove the row's statement (the work); the ties are given (YtckeepjfbpphaaaGreatDoorTie.lean); close each card by the builder's one call (the guide's Derived/Test/ToyasCard.lean, 'card_holds'). Laid BY PROGRAM, IN A SANDBOX (cutbox-door.mjs). By AI agents, Wed Nov 11 2026. No macro, syntax, notation, axiom, sorry.
-/
import Derived.Test.YtckeepjfbpphaaaGreatDoorRows
import GoSem.ClaimSeven
namespace Go.Proofs.YtckeepjfbpphaaaGreatDoor
namespace Rows

/-- THE TIED CARD OF 'laws.FnExactNoComments'. -/
def fnExactNoCommentsCard : Claim7 := { stood := { row := fnExactNoCommentsRow, standIns := [], harness := (true, "fc9212223ff527ba8119fbe2e3ab74fb30f13122b55c884153862101d54969cb"), looks := false }, kinds := [], alts := [], laidByText := true, laidKinds := [.data, .data], laidTests := true, laidLooks := .later }
def FnExactNoCommentsCardSaid : Prop := Claim7.holds Tryz.pinned (.plain (OpenSpec.ofChange fnExactNoCommentsSpec)) fnExactNoCommentsCard

/-- THE SECOND FORM's CARD OF 'laws.FnExactNoComments'. -/
def fnExactNoCommentsUptoCard : Claim7 := { stood := { row := fnExactNoCommentsUptoRow, standIns := [], harness := (true, "fc9212223ff527ba8119fbe2e3ab74fb30f13122b55c884153862101d54969cb"), looks := false }, kinds := [], alts := [], laidByText := true, laidKinds := [.data, .data], laidTests := true, laidLooks := .later }
def FnExactNoCommentsUptoCardSaid : Prop := Claim7.holds Tryz.pinned (.plain (OpenSpec.upto fnExactNoCommentsSpec)) fnExactNoCommentsUptoCard
end Rows
end Go.Proofs.YtckeepjfbpphaaaGreatDoor

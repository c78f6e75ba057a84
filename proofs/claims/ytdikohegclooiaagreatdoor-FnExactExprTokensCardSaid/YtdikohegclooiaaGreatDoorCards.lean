/-
  DERIVED. GIVEN WITH THE SEED: THE CARDS: each row of YtdikohegclooiaaGreatDoorRows.lean that lists a variable, with what it lists TIED to the program's text (the seventh form; the later family's looks); each row that meets fmt, with fmt's text TOLD by the authors' own Lean function (tested against real Go, not proved from fmt's source: count such statements apart). THE CARD IS WHAT COUNTS. Prove the row's statement (the work); the ties are given (YtdikohegclooiaaGreatDoorTie.lean); close each card by the builder's one call (the guide's Derived/Test/ToyasCard.lean, 'card_holds'). Laid BY PROGRAM, IN A SANDBOX (cutbox-door.mjs). By AI agents, Wed Nov 11 2026. No macro, syntax, notation, axiom, sorry.
-/
import Derived.Test.YtdikohegclooiaaGreatDoorRows
import GoSem.ClaimSeven
namespace Go.Proofs.YtdikohegclooiaaGreatDoor
namespace Rows

/-- THE TIED CARD OF 'laws.FnExactExprTokens'. -/
def fnExactExprTokensCard : Claim7 := { stood := { row := fnExactExprTokensRow, standIns := [], harness := (true, "050e9897ac3aaf2c63427171d6b0b6660082b4b0839221813a39179a57f5fe8c"), looks := false }, kinds := [], alts := [], laidByText := true, laidKinds := [.data, .data], laidTests := true, laidLooks := .later }
def FnExactExprTokensCardSaid : Prop := Claim7.holds Tryz.pinned (.plain (OpenSpec.ofChange fnExactExprTokensSpec)) fnExactExprTokensCard

/-- THE TIED CARD OF 'laws.FnExactFullTokens'. -/
def fnExactFullTokensCard : Claim7 := { stood := { row := fnExactFullTokensRow, standIns := [], harness := (true, "050e9897ac3aaf2c63427171d6b0b6660082b4b0839221813a39179a57f5fe8c"), looks := false }, kinds := [], alts := [], laidByText := true, laidKinds := [.data, .data], laidTests := true, laidLooks := .later }
def FnExactFullTokensCardSaid : Prop := Claim7.holds Tryz.pinned (.plain (OpenSpec.ofChange fnExactFullTokensSpec)) fnExactFullTokensCard

/-- THE SECOND FORM's CARD OF 'laws.FnExactExprTokens'. -/
def fnExactExprTokensUptoCard : Claim7 := { stood := { row := fnExactExprTokensUptoRow, standIns := [], harness := (true, "050e9897ac3aaf2c63427171d6b0b6660082b4b0839221813a39179a57f5fe8c"), looks := false }, kinds := [], alts := [], laidByText := true, laidKinds := [.data, .data], laidTests := true, laidLooks := .later }
def FnExactExprTokensUptoCardSaid : Prop := Claim7.holds Tryz.pinned (.plain (OpenSpec.upto fnExactExprTokensSpec)) fnExactExprTokensUptoCard

/-- THE SECOND FORM's CARD OF 'laws.FnExactFullTokens'. -/
def fnExactFullTokensUptoCard : Claim7 := { stood := { row := fnExactFullTokensUptoRow, standIns := [], harness := (true, "050e9897ac3aaf2c63427171d6b0b6660082b4b0839221813a39179a57f5fe8c"), looks := false }, kinds := [], alts := [], laidByText := true, laidKinds := [.data, .data], laidTests := true, laidLooks := .later }
def FnExactFullTokensUptoCardSaid : Prop := Claim7.holds Tryz.pinned (.plain (OpenSpec.upto fnExactFullTokensSpec)) fnExactFullTokensUptoCard
end Rows
end Go.Proofs.YtdikohegclooiaaGreatDoor

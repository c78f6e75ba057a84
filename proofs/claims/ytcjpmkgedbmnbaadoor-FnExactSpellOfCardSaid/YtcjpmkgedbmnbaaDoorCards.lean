/-
  DERIVED. GIVEN WITH THE SEED: THE CARDS: each row of YtcjpmkgedbmnbaaDoorRows.lean that lists a variable, with what it lists TIED to the program's text (the seventh form; the later family's looks); each row that meets fmt, with fmt's text TOLD by the authors' own Lean function (tested against real Go, not proved from fmt's source: count such statements apart). THE CARD IS WHAT COUNTS. Prove the row's statement (the work); the ties are given (YtcjpmkgedbmnbaaDoorTie.lean); close each card by the builder's one call (the guide's Derived/Test/ToyasCard.lean, 'card_holds'). Laid BY PROGRAM, IN A SANDBOX (cutbox-door.mjs). By AI agents, Wed Nov 11 2026. No macro, syntax, notation, axiom, sorry.
-/
import Derived.Test.YtcjpmkgedbmnbaaDoorRows
import GoSem.ClaimSeven
namespace Go.Proofs.YtcjpmkgedbmnbaaDoor
namespace Rows

/-- THE TIED CARD OF 'laws.FnExactSpellOf'. -/
def fnExactSpellOfCard : Claim7 := { stood := { row := fnExactSpellOfRow, standIns := [], harness := (true, "1a04ab5903c37de48115b2a550d5fbec36ad98d8b0257b7b2221efd2a5d0f041"), looks := false }, kinds := [], alts := [], laidByText := true, laidKinds := [.data, .data], laidTests := true, laidLooks := .later }
def FnExactSpellOfCardSaid : Prop := Claim7.holds Tryd.pinned (.plain (OpenSpec.ofChange fnExactSpellOfSpec)) fnExactSpellOfCard

/-- THE TIED CARD OF 'laws.FnExactKeywordOf'. -/
def fnExactKeywordOfCard : Claim7 := { stood := { row := fnExactKeywordOfRow, standIns := [], harness := (true, "1a04ab5903c37de48115b2a550d5fbec36ad98d8b0257b7b2221efd2a5d0f041"), looks := false }, kinds := [], alts := [], laidByText := true, laidKinds := [.data, .data], laidTests := true, laidLooks := .later }
def FnExactKeywordOfCardSaid : Prop := Claim7.holds Tryd.pinned (.plain (OpenSpec.ofChange fnExactKeywordOfSpec)) fnExactKeywordOfCard

/-- THE TIED CARD OF 'laws.FnExactNameOk'. -/
def fnExactNameOkCard : Claim7 := { stood := { row := fnExactNameOkRow, standIns := [], harness := (true, "1a04ab5903c37de48115b2a550d5fbec36ad98d8b0257b7b2221efd2a5d0f041"), looks := false }, kinds := [], alts := [], laidByText := true, laidKinds := [.data, .data], laidTests := true, laidLooks := .later }
def FnExactNameOkCardSaid : Prop := Claim7.holds Tryd.pinned (.plain (OpenSpec.ofChange fnExactNameOkSpec)) fnExactNameOkCard

/-- THE SECOND FORM's CARD OF 'laws.FnExactSpellOf'. -/
def fnExactSpellOfUptoCard : Claim7 := { stood := { row := fnExactSpellOfUptoRow, standIns := [], harness := (true, "1a04ab5903c37de48115b2a550d5fbec36ad98d8b0257b7b2221efd2a5d0f041"), looks := false }, kinds := [], alts := [], laidByText := true, laidKinds := [.data, .data], laidTests := true, laidLooks := .later }
def FnExactSpellOfUptoCardSaid : Prop := Claim7.holds Tryd.pinned (.plain (OpenSpec.upto fnExactSpellOfSpec)) fnExactSpellOfUptoCard

/-- THE SECOND FORM's CARD OF 'laws.FnExactKeywordOf'. -/
def fnExactKeywordOfUptoCard : Claim7 := { stood := { row := fnExactKeywordOfUptoRow, standIns := [], harness := (true, "1a04ab5903c37de48115b2a550d5fbec36ad98d8b0257b7b2221efd2a5d0f041"), looks := false }, kinds := [], alts := [], laidByText := true, laidKinds := [.data, .data], laidTests := true, laidLooks := .later }
def FnExactKeywordOfUptoCardSaid : Prop := Claim7.holds Tryd.pinned (.plain (OpenSpec.upto fnExactKeywordOfSpec)) fnExactKeywordOfUptoCard

/-- THE SECOND FORM's CARD OF 'laws.FnExactNameOk'. -/
def fnExactNameOkUptoCard : Claim7 := { stood := { row := fnExactNameOkUptoRow, standIns := [], harness := (true, "1a04ab5903c37de48115b2a550d5fbec36ad98d8b0257b7b2221efd2a5d0f041"), looks := false }, kinds := [], alts := [], laidByText := true, laidKinds := [.data, .data], laidTests := true, laidLooks := .later }
def FnExactNameOkUptoCardSaid : Prop := Claim7.holds Tryd.pinned (.plain (OpenSpec.upto fnExactNameOkSpec)) fnExactNameOkUptoCard
end Rows
end Go.Proofs.YtcjpmkgedbmnbaaDoor

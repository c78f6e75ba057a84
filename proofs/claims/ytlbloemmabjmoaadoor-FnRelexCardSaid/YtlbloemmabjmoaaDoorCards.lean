/-
  DERIVED. GIVEN WITH THE SEED: THE CARDS: each row of YtlbloemmabjmoaaDoorRows.lean that lists a variable, with what it lists TIED to the program's text (the seventh form; the later family's looks); each row that meets fmt, with fmt's text TOLD by the authors' own Lean function (tested against real Go, not proved from fmt's source: count such statements apart). THE CARD IS WHAT COUNTS. Prove the row's statement (the work); the ties are given (YtlbloemmabjmoaaDoorTie.lean); close each card by the builder's one call (the guide's Derived/Test/ToyasCard.lean, 'card_holds'). Laid BY PROGRAM, IN A SANDBOX (cutbox-door.mjs). By AI agents, Wed Nov 11 2026. No macro, syntax, notation, axiom, sorry.
-/
import Derived.Test.YtlbloemmabjmoaaDoorRows
import GoSem.ClaimSeven
namespace Go.Proofs.YtlbloemmabjmoaaDoor
namespace Rows

/-- THE TIED CARD OF 'laws.FnRelex'. -/
def fnRelexCard : Claim7 := { stood := { row := fnRelexRow, standIns := [], harness := (true, "e98d73f9fd8c1c2c2ac747a6de4702aa4e740cd39528b9d4da02d6f4dd059f25"), looks := false }, kinds := [], alts := [], laidByText := true, laidKinds := [.data, .data], laidTests := true, laidLooks := .later }
def FnRelexCardSaid : Prop := Claim7.holds Tryd.pinned (.plain (OpenSpec.ofChange fnRelexSpec)) fnRelexCard

/-- THE TIED CARD OF 'laws.FnPlaces'. -/
def fnPlacesCard : Claim7 := { stood := { row := fnPlacesRow, standIns := [], harness := (true, "e98d73f9fd8c1c2c2ac747a6de4702aa4e740cd39528b9d4da02d6f4dd059f25"), looks := false }, kinds := [], alts := [], laidByText := true, laidKinds := [.data, .data], laidTests := true, laidLooks := .later }
def FnPlacesCardSaid : Prop := Claim7.holds Tryd.pinned (.plain (OpenSpec.ofChange fnPlacesSpec)) fnPlacesCard

/-- THE TIED CARD OF 'laws.FnExactLex'. -/
def fnExactLexCard : Claim7 := { stood := { row := fnExactLexRow, standIns := [], harness := (true, "e98d73f9fd8c1c2c2ac747a6de4702aa4e740cd39528b9d4da02d6f4dd059f25"), looks := false }, kinds := [], alts := [], laidByText := true, laidKinds := [.data, .data], laidTests := true, laidLooks := .later }
def FnExactLexCardSaid : Prop := Claim7.holds Tryd.pinned (.plain (OpenSpec.ofChange fnExactLexSpec)) fnExactLexCard

/-- THE TIED CARD OF 'laws.FnExactTokensOk'. -/
def fnExactTokensOkCard : Claim7 := { stood := { row := fnExactTokensOkRow, standIns := [], harness := (true, "e98d73f9fd8c1c2c2ac747a6de4702aa4e740cd39528b9d4da02d6f4dd059f25"), looks := false }, kinds := [], alts := [], laidByText := true, laidKinds := [.data, .data], laidTests := true, laidLooks := .later }
def FnExactTokensOkCardSaid : Prop := Claim7.holds Tryd.pinned (.plain (OpenSpec.ofChange fnExactTokensOkSpec)) fnExactTokensOkCard

/-- THE TIED CARD OF 'laws.FnExactNeedsGap'. -/
def fnExactNeedsGapCard : Claim7 := { stood := { row := fnExactNeedsGapRow, standIns := [], harness := (true, "e98d73f9fd8c1c2c2ac747a6de4702aa4e740cd39528b9d4da02d6f4dd059f25"), looks := false }, kinds := [], alts := [], laidByText := true, laidKinds := [.data, .data], laidTests := true, laidLooks := .later }
def FnExactNeedsGapCardSaid : Prop := Claim7.holds Tryd.pinned (.plain (OpenSpec.ofChange fnExactNeedsGapSpec)) fnExactNeedsGapCard

/-- THE TIED CARD OF 'laws.FnExactSpell'. -/
def fnExactSpellCard : Claim7 := { stood := { row := fnExactSpellRow, standIns := [], harness := (true, "e98d73f9fd8c1c2c2ac747a6de4702aa4e740cd39528b9d4da02d6f4dd059f25"), looks := false }, kinds := [], alts := [], laidByText := true, laidKinds := [.data, .data], laidTests := true, laidLooks := .later }
def FnExactSpellCardSaid : Prop := Claim7.holds Tryd.pinned (.plain (OpenSpec.ofChange fnExactSpellSpec)) fnExactSpellCard

/-- THE SECOND FORM's CARD OF 'laws.FnRelex'. -/
def fnRelexUptoCard : Claim7 := { stood := { row := fnRelexUptoRow, standIns := [], harness := (true, "e98d73f9fd8c1c2c2ac747a6de4702aa4e740cd39528b9d4da02d6f4dd059f25"), looks := false }, kinds := [], alts := [], laidByText := true, laidKinds := [.data, .data], laidTests := true, laidLooks := .later }
def FnRelexUptoCardSaid : Prop := Claim7.holds Tryd.pinned (.plain (OpenSpec.upto fnRelexSpec)) fnRelexUptoCard

/-- THE SECOND FORM's CARD OF 'laws.FnPlaces'. -/
def fnPlacesUptoCard : Claim7 := { stood := { row := fnPlacesUptoRow, standIns := [], harness := (true, "e98d73f9fd8c1c2c2ac747a6de4702aa4e740cd39528b9d4da02d6f4dd059f25"), looks := false }, kinds := [], alts := [], laidByText := true, laidKinds := [.data, .data], laidTests := true, laidLooks := .later }
def FnPlacesUptoCardSaid : Prop := Claim7.holds Tryd.pinned (.plain (OpenSpec.upto fnPlacesSpec)) fnPlacesUptoCard

/-- THE SECOND FORM's CARD OF 'laws.FnExactLex'. -/
def fnExactLexUptoCard : Claim7 := { stood := { row := fnExactLexUptoRow, standIns := [], harness := (true, "e98d73f9fd8c1c2c2ac747a6de4702aa4e740cd39528b9d4da02d6f4dd059f25"), looks := false }, kinds := [], alts := [], laidByText := true, laidKinds := [.data, .data], laidTests := true, laidLooks := .later }
def FnExactLexUptoCardSaid : Prop := Claim7.holds Tryd.pinned (.plain (OpenSpec.upto fnExactLexSpec)) fnExactLexUptoCard

/-- THE SECOND FORM's CARD OF 'laws.FnExactTokensOk'. -/
def fnExactTokensOkUptoCard : Claim7 := { stood := { row := fnExactTokensOkUptoRow, standIns := [], harness := (true, "e98d73f9fd8c1c2c2ac747a6de4702aa4e740cd39528b9d4da02d6f4dd059f25"), looks := false }, kinds := [], alts := [], laidByText := true, laidKinds := [.data, .data], laidTests := true, laidLooks := .later }
def FnExactTokensOkUptoCardSaid : Prop := Claim7.holds Tryd.pinned (.plain (OpenSpec.upto fnExactTokensOkSpec)) fnExactTokensOkUptoCard

/-- THE SECOND FORM's CARD OF 'laws.FnExactNeedsGap'. -/
def fnExactNeedsGapUptoCard : Claim7 := { stood := { row := fnExactNeedsGapUptoRow, standIns := [], harness := (true, "e98d73f9fd8c1c2c2ac747a6de4702aa4e740cd39528b9d4da02d6f4dd059f25"), looks := false }, kinds := [], alts := [], laidByText := true, laidKinds := [.data, .data], laidTests := true, laidLooks := .later }
def FnExactNeedsGapUptoCardSaid : Prop := Claim7.holds Tryd.pinned (.plain (OpenSpec.upto fnExactNeedsGapSpec)) fnExactNeedsGapUptoCard

/-- THE SECOND FORM's CARD OF 'laws.FnExactSpell'. -/
def fnExactSpellUptoCard : Claim7 := { stood := { row := fnExactSpellUptoRow, standIns := [], harness := (true, "e98d73f9fd8c1c2c2ac747a6de4702aa4e740cd39528b9d4da02d6f4dd059f25"), looks := false }, kinds := [], alts := [], laidByText := true, laidKinds := [.data, .data], laidTests := true, laidLooks := .later }
def FnExactSpellUptoCardSaid : Prop := Claim7.holds Tryd.pinned (.plain (OpenSpec.upto fnExactSpellSpec)) fnExactSpellUptoCard
end Rows
end Go.Proofs.YtlbloemmabjmoaaDoor

/-
  DERIVED. GIVEN WITH THE SEED: THE CARDS: each row of YtphccenlflhfjaaDoorRows.lean that lists a variable, with what it lists TIED to the program's text (the seventh form; the later family's looks); each row that meets fmt, with fmt's text TOLD by the authors' own Lean function (tested against real Go, not proved from fmt's source: count such statements apart). THE CARD IS WHAT COUNTS. Prove the row's statement (the work); the ties are given (YtphccenlflhfjaaDoorTie.lean); close each card by the builder's one call (the guide's Derived/Test/ToyasCard.lean, 'card_holds'). Laid BY PROGRAM, IN A SANDBOX (cutbox-door.mjs). By AI agents, Wed Nov 11 2026. No macro, syntax, notation, axiom, sorry.
-/
import Derived.Test.YtphccenlflhfjaaDoorRows
import GoSem.ClaimSeven
namespace Go.Proofs.YtphccenlflhfjaaDoor
namespace Rows

/-- THE TIED CARD OF 'laws.FnExactOpSpell'. -/
def fnExactOpSpellCard : Claim7 := { stood := { row := fnExactOpSpellRow, standIns := [], harness := (true, "a09ec0a36f244b7c538666ad4a702dc1ef3f9703e329d016bd14c526885efb1d"), looks := false }, kinds := [], alts := [], laidByText := true, laidKinds := [.data, .data], laidTests := true, laidLooks := .later }
def FnExactOpSpellCardSaid : Prop := Claim7.holds Tryd.pinned (.plain (OpenSpec.ofChange fnExactOpSpellSpec)) fnExactOpSpellCard

/-- THE TIED CARD OF 'laws.FnExactLevelWord'. -/
def fnExactLevelWordCard : Claim7 := { stood := { row := fnExactLevelWordRow, standIns := [], harness := (true, "a09ec0a36f244b7c538666ad4a702dc1ef3f9703e329d016bd14c526885efb1d"), looks := false }, kinds := [], alts := [], laidByText := true, laidKinds := [.data], laidTests := true, laidLooks := .later }
def FnExactLevelWordCardSaid : Prop := Claim7.holds Tryd.pinned (.plain (OpenSpec.ofChange fnExactLevelWordSpec)) fnExactLevelWordCard

/-- THE SECOND FORM's CARD OF 'laws.FnExactOpSpell'. -/
def fnExactOpSpellUptoCard : Claim7 := { stood := { row := fnExactOpSpellUptoRow, standIns := [], harness := (true, "a09ec0a36f244b7c538666ad4a702dc1ef3f9703e329d016bd14c526885efb1d"), looks := false }, kinds := [], alts := [], laidByText := true, laidKinds := [.data, .data], laidTests := true, laidLooks := .later }
def FnExactOpSpellUptoCardSaid : Prop := Claim7.holds Tryd.pinned (.plain (OpenSpec.upto fnExactOpSpellSpec)) fnExactOpSpellUptoCard

/-- THE SECOND FORM's CARD OF 'laws.FnExactLevelWord'. -/
def fnExactLevelWordUptoCard : Claim7 := { stood := { row := fnExactLevelWordUptoRow, standIns := [], harness := (true, "a09ec0a36f244b7c538666ad4a702dc1ef3f9703e329d016bd14c526885efb1d"), looks := false }, kinds := [], alts := [], laidByText := true, laidKinds := [.data], laidTests := true, laidLooks := .later }
def FnExactLevelWordUptoCardSaid : Prop := Claim7.holds Tryd.pinned (.plain (OpenSpec.upto fnExactLevelWordSpec)) fnExactLevelWordUptoCard
end Rows
end Go.Proofs.YtphccenlflhfjaaDoor

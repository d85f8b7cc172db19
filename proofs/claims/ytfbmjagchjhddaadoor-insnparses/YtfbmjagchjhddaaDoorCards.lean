/-
  DERIVED. GIVEN WITH THE SEED: THE CARDS: each row of YtfbmjagchjhddaaDoorRows.lean that lists a variable, with what it lists TIED to the program's text (the seventh form; the later family's looks); each row that meets fmt, with fmt's text TOLD by the authors' own Lean function (tested against real Go, not proved from fmt's source: count such statements apart). THE CARD IS WHAT COUNTS. Prove the row's statement (the work); the ties are given (YtfbmjagchjhddaaDoorTie.lean); close each card by the builder's one call (the guide's Derived/Test/ToyasCard.lean, 'card_holds'). Laid BY PROGRAM, IN A SANDBOX (cutbox-door.mjs). By AI agents, Wed Nov 11 2026. No macro, syntax, notation, axiom, sorry.
-/
import Derived.Test.YtfbmjagchjhddaaDoorRows
import GoSem.ClaimSeven
namespace Go.Proofs.YtfbmjagchjhddaaDoor
namespace Rows

/-- THE TIED CARD OF 'penumbralaw07.InsnParses'. -/
def insnParsesCard : Claim7 := { stood := { row := insnParsesRow, standIns := [], harness := (true, "f0a568ebe249e63d199c30138ab139261d5bd5d1344250a01edc9936cdd8ace1"), looks := true }, kinds := [], alts := [], laidByText := true, laidKinds := [.data, .data, .data, .sentinel, .sentinel, .data, .data], laidTests := true, laidLooks := .later }
def InsnParsesCardSaid : Prop := Claim7.holds Tryd.pinned (.plain (OpenSpec.ofChange insnParsesSpec)) insnParsesCard

/-- THE TIED CARD OF 'penumbralaw08.RegsRun'. -/
def regsRunCard : Claim7 := { stood := { row := regsRunRow, standIns := [], harness := (true, "f0a568ebe249e63d199c30138ab139261d5bd5d1344250a01edc9936cdd8ace1"), looks := true }, kinds := [], alts := [], laidByText := true, laidKinds := [.data], laidTests := true, laidLooks := .later }
def RegsRunCardSaid : Prop := Claim7.holds Tryd.pinned (.plain (OpenSpec.ofChange regsRunSpec)) regsRunCard

/-- THE SECOND FORM's CARD OF 'penumbralaw07.InsnParses'. -/
def insnParsesUptoCard : Claim7 := { stood := { row := insnParsesUptoRow, standIns := [], harness := (true, "f0a568ebe249e63d199c30138ab139261d5bd5d1344250a01edc9936cdd8ace1"), looks := true }, kinds := [], alts := [], laidByText := true, laidKinds := [.data, .data, .data, .sentinel, .sentinel, .data, .data], laidTests := true, laidLooks := .later }
def InsnParsesUptoCardSaid : Prop := Claim7.holds Tryd.pinned (.plain (OpenSpec.upto insnParsesSpec)) insnParsesUptoCard

/-- THE SECOND FORM's CARD OF 'penumbralaw08.RegsRun'. -/
def regsRunUptoCard : Claim7 := { stood := { row := regsRunUptoRow, standIns := [], harness := (true, "f0a568ebe249e63d199c30138ab139261d5bd5d1344250a01edc9936cdd8ace1"), looks := true }, kinds := [], alts := [], laidByText := true, laidKinds := [.data], laidTests := true, laidLooks := .later }
def RegsRunUptoCardSaid : Prop := Claim7.holds Tryd.pinned (.plain (OpenSpec.upto regsRunSpec)) regsRunUptoCard
end Rows
end Go.Proofs.YtfbmjagchjhddaaDoor

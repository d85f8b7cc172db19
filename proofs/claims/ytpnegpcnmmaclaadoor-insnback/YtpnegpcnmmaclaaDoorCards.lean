/-
  DERIVED. GIVEN WITH THE SEED: THE CARDS: each row of YtpnegpcnmmaclaaDoorRows.lean that lists a variable, with what it lists TIED to the program's text (the seventh form; the later family's looks); each row that meets fmt, with fmt's text TOLD by the authors' own Lean function (tested against real Go, not proved from fmt's source: count such statements apart). THE CARD IS WHAT COUNTS. Prove the row's statement (the work); the ties are given (YtpnegpcnmmaclaaDoorTie.lean); close each card by the builder's one call (the guide's Derived/Test/ToyasCard.lean, 'card_holds'). Laid BY PROGRAM, IN A SANDBOX (cutbox-door.mjs). By AI agents, Wed Nov 11 2026. No macro, syntax, notation, axiom, sorry.
-/
import Derived.Test.YtpnegpcnmmaclaaDoorRows
import GoSem.ClaimSeven
namespace Go.Proofs.YtpnegpcnmmaclaaDoor
namespace Rows

/-- THE TIED CARD OF 'penumbralaw07.InsnParses'. -/
def insnParsesCard : Claim7 := { stood := { row := insnParsesRow, standIns := [], harness := (true, "3b9b3295d93c9c40edc312b0cf939b67c37da570eff4849aa37bebb2c9abd43a"), looks := true }, kinds := [], alts := [], laidByText := true, laidKinds := [.data, .data, .data, .sentinel, .sentinel, .data, .data], laidTests := true, laidLooks := .later }
def InsnParsesCardSaid : Prop := Claim7.holds Tryd.pinned (.plain (OpenSpec.ofChange insnParsesSpec)) insnParsesCard

/-- THE TIED CARD OF 'penumbralaw07.InsnBack'. -/
def insnBackCard : Claim7 := { stood := { row := insnBackRow, standIns := [], harness := (true, "3b9b3295d93c9c40edc312b0cf939b67c37da570eff4849aa37bebb2c9abd43a"), looks := true }, kinds := [], alts := [], laidByText := true, laidKinds := [.data, .data, .data, .sentinel, .sentinel, .data, .data], laidTests := true, laidLooks := .later }
def InsnBackCardSaid : Prop := Claim7.holds Tryd.pinned (.plain (OpenSpec.ofChange insnBackSpec)) insnBackCard

/-- THE TIED CARD OF 'penumbralaw07.InsnUnlike'. -/
def insnUnlikeCard : Claim7 := { stood := { row := insnUnlikeRow, standIns := [], harness := (true, "3b9b3295d93c9c40edc312b0cf939b67c37da570eff4849aa37bebb2c9abd43a"), looks := true }, kinds := [], alts := [], laidByText := true, laidKinds := [.data, .data, .data, .sentinel, .sentinel, .data, .data], laidTests := true, laidLooks := .later }
def InsnUnlikeCardSaid : Prop := Claim7.holds Tryd.pinned (.plain (OpenSpec.ofChange insnUnlikeSpec)) insnUnlikeCard

/-- THE SECOND FORM's CARD OF 'penumbralaw07.InsnParses'. -/
def insnParsesUptoCard : Claim7 := { stood := { row := insnParsesUptoRow, standIns := [], harness := (true, "3b9b3295d93c9c40edc312b0cf939b67c37da570eff4849aa37bebb2c9abd43a"), looks := true }, kinds := [], alts := [], laidByText := true, laidKinds := [.data, .data, .data, .sentinel, .sentinel, .data, .data], laidTests := true, laidLooks := .later }
def InsnParsesUptoCardSaid : Prop := Claim7.holds Tryd.pinned (.plain (OpenSpec.upto insnParsesSpec)) insnParsesUptoCard

/-- THE SECOND FORM's CARD OF 'penumbralaw07.InsnBack'. -/
def insnBackUptoCard : Claim7 := { stood := { row := insnBackUptoRow, standIns := [], harness := (true, "3b9b3295d93c9c40edc312b0cf939b67c37da570eff4849aa37bebb2c9abd43a"), looks := true }, kinds := [], alts := [], laidByText := true, laidKinds := [.data, .data, .data, .sentinel, .sentinel, .data, .data], laidTests := true, laidLooks := .later }
def InsnBackUptoCardSaid : Prop := Claim7.holds Tryd.pinned (.plain (OpenSpec.upto insnBackSpec)) insnBackUptoCard

/-- THE SECOND FORM's CARD OF 'penumbralaw07.InsnUnlike'. -/
def insnUnlikeUptoCard : Claim7 := { stood := { row := insnUnlikeUptoRow, standIns := [], harness := (true, "3b9b3295d93c9c40edc312b0cf939b67c37da570eff4849aa37bebb2c9abd43a"), looks := true }, kinds := [], alts := [], laidByText := true, laidKinds := [.data, .data, .data, .sentinel, .sentinel, .data, .data], laidTests := true, laidLooks := .later }
def InsnUnlikeUptoCardSaid : Prop := Claim7.holds Tryd.pinned (.plain (OpenSpec.upto insnUnlikeSpec)) insnUnlikeUptoCard
end Rows
end Go.Proofs.YtpnegpcnmmaclaaDoor

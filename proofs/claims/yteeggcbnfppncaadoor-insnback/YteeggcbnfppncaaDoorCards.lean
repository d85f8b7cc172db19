/-
  DERIVED. GIVEN WITH THE SEED: THE CARDS: each row of YteeggcbnfppncaaDoorRows.lean that lists a variable, with what it lists TIED to the program's text (the seventh form; the later family's looks); each row that meets fmt, with fmt's text TOLD by the authors' own Lean function (tested against real Go, not proved from fmt's source: count such statements apart). THE CARD IS WHAT COUNTS. Prove the row's statement (the work); the ties are given (YteeggcbnfppncaaDoorTie.lean); close each card by the builder's one call (the guide's Derived/Test/ToyasCard.lean, 'card_holds'). Laid BY PROGRAM, IN A SANDBOX (cutbox-door.mjs). By AI agents, Wed Nov 11 2026. No macro, syntax, notation, axiom, sorry.
-/
import Derived.Test.YteeggcbnfppncaaDoorRows
import GoSem.ClaimSeven
namespace Go.Proofs.YteeggcbnfppncaaDoor
namespace Rows

/-- THE TIED CARD OF 'penumbralaw07.InsnForms'. -/
def insnFormsCard : Claim7 := { stood := { row := insnFormsRow, standIns := [], harness := (true, "f07927a32ee03be0ec38ed0929834f6b32d869f9b021d5fa670b968f779f9d22"), looks := true }, kinds := [], alts := [], laidByText := true, laidKinds := [.data, .data, .data, .sentinel, .sentinel, .data, .data], laidTests := true, laidLooks := .later }
def InsnFormsCardSaid : Prop := Claim7.holds Tryd.pinned (.plain (OpenSpec.ofChange insnFormsSpec)) insnFormsCard

/-- THE TIED CARD OF 'penumbralaw07.InsnChecks'. -/
def insnChecksCard : Claim7 := { stood := { row := insnChecksRow, standIns := [], harness := (true, "f07927a32ee03be0ec38ed0929834f6b32d869f9b021d5fa670b968f779f9d22"), looks := true }, kinds := [], alts := [], laidByText := true, laidKinds := [.data, .data, .data, .sentinel, .sentinel, .data, .data], laidTests := true, laidLooks := .later }
def InsnChecksCardSaid : Prop := Claim7.holds Tryd.pinned (.plain (OpenSpec.ofChange insnChecksSpec)) insnChecksCard

/-- THE TIED CARD OF 'penumbralaw07.InsnTells'. -/
def insnTellsCard : Claim7 := { stood := { row := insnTellsRow, standIns := [], harness := (true, "f07927a32ee03be0ec38ed0929834f6b32d869f9b021d5fa670b968f779f9d22"), looks := true }, kinds := [], alts := [], laidByText := true, laidKinds := [.data, .data, .data, .sentinel, .sentinel, .data, .data], laidTests := true, laidLooks := .later }
def InsnTellsCardSaid : Prop := Claim7.holds Tryd.pinned (.plain (OpenSpec.ofChange insnTellsSpec)) insnTellsCard

/-- THE TIED CARD OF 'penumbralaw07.InsnParses'. -/
def insnParsesCard : Claim7 := { stood := { row := insnParsesRow, standIns := [], harness := (true, "f07927a32ee03be0ec38ed0929834f6b32d869f9b021d5fa670b968f779f9d22"), looks := true }, kinds := [], alts := [], laidByText := true, laidKinds := [.data, .data, .data, .sentinel, .sentinel, .data, .data], laidTests := true, laidLooks := .later }
def InsnParsesCardSaid : Prop := Claim7.holds Tryd.pinned (.plain (OpenSpec.ofChange insnParsesSpec)) insnParsesCard

/-- THE TIED CARD OF 'penumbralaw07.InsnBack'. -/
def insnBackCard : Claim7 := { stood := { row := insnBackRow, standIns := [], harness := (true, "f07927a32ee03be0ec38ed0929834f6b32d869f9b021d5fa670b968f779f9d22"), looks := true }, kinds := [], alts := [], laidByText := true, laidKinds := [.data, .data, .data, .sentinel, .sentinel, .data, .data], laidTests := true, laidLooks := .later }
def InsnBackCardSaid : Prop := Claim7.holds Tryd.pinned (.plain (OpenSpec.ofChange insnBackSpec)) insnBackCard

/-- THE TIED CARD OF 'penumbralaw07.InsnUnlike'. -/
def insnUnlikeCard : Claim7 := { stood := { row := insnUnlikeRow, standIns := [], harness := (true, "f07927a32ee03be0ec38ed0929834f6b32d869f9b021d5fa670b968f779f9d22"), looks := true }, kinds := [], alts := [], laidByText := true, laidKinds := [.data, .data, .data, .sentinel, .sentinel, .data, .data], laidTests := true, laidLooks := .later }
def InsnUnlikeCardSaid : Prop := Claim7.holds Tryd.pinned (.plain (OpenSpec.ofChange insnUnlikeSpec)) insnUnlikeCard

/-- THE SECOND FORM's CARD OF 'penumbralaw07.InsnForms'. -/
def insnFormsUptoCard : Claim7 := { stood := { row := insnFormsUptoRow, standIns := [], harness := (true, "f07927a32ee03be0ec38ed0929834f6b32d869f9b021d5fa670b968f779f9d22"), looks := true }, kinds := [], alts := [], laidByText := true, laidKinds := [.data, .data, .data, .sentinel, .sentinel, .data, .data], laidTests := true, laidLooks := .later }
def InsnFormsUptoCardSaid : Prop := Claim7.holds Tryd.pinned (.plain (OpenSpec.upto insnFormsSpec)) insnFormsUptoCard

/-- THE SECOND FORM's CARD OF 'penumbralaw07.InsnChecks'. -/
def insnChecksUptoCard : Claim7 := { stood := { row := insnChecksUptoRow, standIns := [], harness := (true, "f07927a32ee03be0ec38ed0929834f6b32d869f9b021d5fa670b968f779f9d22"), looks := true }, kinds := [], alts := [], laidByText := true, laidKinds := [.data, .data, .data, .sentinel, .sentinel, .data, .data], laidTests := true, laidLooks := .later }
def InsnChecksUptoCardSaid : Prop := Claim7.holds Tryd.pinned (.plain (OpenSpec.upto insnChecksSpec)) insnChecksUptoCard

/-- THE SECOND FORM's CARD OF 'penumbralaw07.InsnTells'. -/
def insnTellsUptoCard : Claim7 := { stood := { row := insnTellsUptoRow, standIns := [], harness := (true, "f07927a32ee03be0ec38ed0929834f6b32d869f9b021d5fa670b968f779f9d22"), looks := true }, kinds := [], alts := [], laidByText := true, laidKinds := [.data, .data, .data, .sentinel, .sentinel, .data, .data], laidTests := true, laidLooks := .later }
def InsnTellsUptoCardSaid : Prop := Claim7.holds Tryd.pinned (.plain (OpenSpec.upto insnTellsSpec)) insnTellsUptoCard

/-- THE SECOND FORM's CARD OF 'penumbralaw07.InsnParses'. -/
def insnParsesUptoCard : Claim7 := { stood := { row := insnParsesUptoRow, standIns := [], harness := (true, "f07927a32ee03be0ec38ed0929834f6b32d869f9b021d5fa670b968f779f9d22"), looks := true }, kinds := [], alts := [], laidByText := true, laidKinds := [.data, .data, .data, .sentinel, .sentinel, .data, .data], laidTests := true, laidLooks := .later }
def InsnParsesUptoCardSaid : Prop := Claim7.holds Tryd.pinned (.plain (OpenSpec.upto insnParsesSpec)) insnParsesUptoCard

/-- THE SECOND FORM's CARD OF 'penumbralaw07.InsnBack'. -/
def insnBackUptoCard : Claim7 := { stood := { row := insnBackUptoRow, standIns := [], harness := (true, "f07927a32ee03be0ec38ed0929834f6b32d869f9b021d5fa670b968f779f9d22"), looks := true }, kinds := [], alts := [], laidByText := true, laidKinds := [.data, .data, .data, .sentinel, .sentinel, .data, .data], laidTests := true, laidLooks := .later }
def InsnBackUptoCardSaid : Prop := Claim7.holds Tryd.pinned (.plain (OpenSpec.upto insnBackSpec)) insnBackUptoCard

/-- THE SECOND FORM's CARD OF 'penumbralaw07.InsnUnlike'. -/
def insnUnlikeUptoCard : Claim7 := { stood := { row := insnUnlikeUptoRow, standIns := [], harness := (true, "f07927a32ee03be0ec38ed0929834f6b32d869f9b021d5fa670b968f779f9d22"), looks := true }, kinds := [], alts := [], laidByText := true, laidKinds := [.data, .data, .data, .sentinel, .sentinel, .data, .data], laidTests := true, laidLooks := .later }
def InsnUnlikeUptoCardSaid : Prop := Claim7.holds Tryd.pinned (.plain (OpenSpec.upto insnUnlikeSpec)) insnUnlikeUptoCard
end Rows
end Go.Proofs.YteeggcbnfppncaaDoor

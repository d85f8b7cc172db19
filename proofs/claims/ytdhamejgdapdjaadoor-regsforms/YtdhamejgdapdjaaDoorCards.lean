/-
  DERIVED. GIVEN WITH THE SEED: THE CARDS: each row of YtdhamejgdapdjaaDoorRows.lean that lists a variable, with what it lists TIED to the program's text (the seventh form; the later family's looks); each row that meets fmt, with fmt's text TOLD by the authors' own Lean function (tested against real Go, not proved from fmt's source: count such statements apart). THE CARD IS WHAT COUNTS. Prove the row's statement (the work); the ties are given (YtdhamejgdapdjaaDoorTie.lean); close each card by the builder's one call (the guide's Derived/Test/ToyasCard.lean, 'card_holds'). Laid BY PROGRAM, IN A SANDBOX (cutbox-door.mjs). By AI agents, Wed Nov 11 2026. No macro, syntax, notation, axiom, sorry.
-/
import Derived.Test.YtdhamejgdapdjaaDoorRows
import GoSem.ClaimSeven
namespace Go.Proofs.YtdhamejgdapdjaaDoor
namespace Rows

/-- THE TIED CARD OF 'penumbralaw07.InsnParses'. -/
def insnParsesCard : Claim7 := { stood := { row := insnParsesRow, standIns := [], harness := (true, "b0663f450c6bf32e670199e1ecf12ba518a8496c7ddd84d2936b9bfb427352cc"), looks := true }, kinds := [], alts := [], laidByText := true, laidKinds := [.data, .data, .data, .sentinel, .sentinel, .data, .data], laidTests := true, laidLooks := .later }
def InsnParsesCardSaid : Prop := Claim7.holds Tryd.pinned (.plain (OpenSpec.ofChange insnParsesSpec)) insnParsesCard

/-- THE TIED CARD OF 'penumbralaw08.RegsForms'. -/
def regsFormsCard : Claim7 := { stood := { row := regsFormsRow, standIns := [], harness := (true, "b0663f450c6bf32e670199e1ecf12ba518a8496c7ddd84d2936b9bfb427352cc"), looks := true }, kinds := [], alts := [], laidByText := true, laidKinds := [.data], laidTests := true, laidLooks := .later }
def RegsFormsCardSaid : Prop := Claim7.holds Tryd.pinned (.plain (OpenSpec.ofChange regsFormsSpec)) regsFormsCard

/-- THE TIED CARD OF 'penumbralaw08.RegsKeeps'. -/
def regsKeepsCard : Claim7 := { stood := { row := regsKeepsRow, standIns := [], harness := (true, "b0663f450c6bf32e670199e1ecf12ba518a8496c7ddd84d2936b9bfb427352cc"), looks := true }, kinds := [], alts := [], laidByText := true, laidKinds := [.data], laidTests := true, laidLooks := .later }
def RegsKeepsCardSaid : Prop := Claim7.holds Tryd.pinned (.plain (OpenSpec.ofChange regsKeepsSpec)) regsKeepsCard

/-- THE TIED CARD OF 'penumbralaw08.RegsTell'. -/
def regsTellCard : Claim7 := { stood := { row := regsTellRow, standIns := [], harness := (true, "b0663f450c6bf32e670199e1ecf12ba518a8496c7ddd84d2936b9bfb427352cc"), looks := true }, kinds := [], alts := [], laidByText := true, laidKinds := [.data], laidTests := true, laidLooks := .later }
def RegsTellCardSaid : Prop := Claim7.holds Tryd.pinned (.plain (OpenSpec.ofChange regsTellSpec)) regsTellCard

/-- THE TIED CARD OF 'penumbralaw08.RegsRun'. -/
def regsRunCard : Claim7 := { stood := { row := regsRunRow, standIns := [], harness := (true, "b0663f450c6bf32e670199e1ecf12ba518a8496c7ddd84d2936b9bfb427352cc"), looks := true }, kinds := [], alts := [], laidByText := true, laidKinds := [.data], laidTests := true, laidLooks := .later }
def RegsRunCardSaid : Prop := Claim7.holds Tryd.pinned (.plain (OpenSpec.ofChange regsRunSpec)) regsRunCard

/-- THE TIED CARD OF 'penumbralaw08.RegsJumps'. -/
def regsJumpsCard : Claim7 := { stood := { row := regsJumpsRow, standIns := [], harness := (true, "b0663f450c6bf32e670199e1ecf12ba518a8496c7ddd84d2936b9bfb427352cc"), looks := true }, kinds := [], alts := [], laidByText := true, laidKinds := [.data], laidTests := true, laidLooks := .later }
def RegsJumpsCardSaid : Prop := Claim7.holds Tryd.pinned (.plain (OpenSpec.ofChange regsJumpsSpec)) regsJumpsCard

/-- THE SECOND FORM's CARD OF 'penumbralaw07.InsnParses'. -/
def insnParsesUptoCard : Claim7 := { stood := { row := insnParsesUptoRow, standIns := [], harness := (true, "b0663f450c6bf32e670199e1ecf12ba518a8496c7ddd84d2936b9bfb427352cc"), looks := true }, kinds := [], alts := [], laidByText := true, laidKinds := [.data, .data, .data, .sentinel, .sentinel, .data, .data], laidTests := true, laidLooks := .later }
def InsnParsesUptoCardSaid : Prop := Claim7.holds Tryd.pinned (.plain (OpenSpec.upto insnParsesSpec)) insnParsesUptoCard

/-- THE SECOND FORM's CARD OF 'penumbralaw08.RegsForms'. -/
def regsFormsUptoCard : Claim7 := { stood := { row := regsFormsUptoRow, standIns := [], harness := (true, "b0663f450c6bf32e670199e1ecf12ba518a8496c7ddd84d2936b9bfb427352cc"), looks := true }, kinds := [], alts := [], laidByText := true, laidKinds := [.data], laidTests := true, laidLooks := .later }
def RegsFormsUptoCardSaid : Prop := Claim7.holds Tryd.pinned (.plain (OpenSpec.upto regsFormsSpec)) regsFormsUptoCard

/-- THE SECOND FORM's CARD OF 'penumbralaw08.RegsKeeps'. -/
def regsKeepsUptoCard : Claim7 := { stood := { row := regsKeepsUptoRow, standIns := [], harness := (true, "b0663f450c6bf32e670199e1ecf12ba518a8496c7ddd84d2936b9bfb427352cc"), looks := true }, kinds := [], alts := [], laidByText := true, laidKinds := [.data], laidTests := true, laidLooks := .later }
def RegsKeepsUptoCardSaid : Prop := Claim7.holds Tryd.pinned (.plain (OpenSpec.upto regsKeepsSpec)) regsKeepsUptoCard

/-- THE SECOND FORM's CARD OF 'penumbralaw08.RegsTell'. -/
def regsTellUptoCard : Claim7 := { stood := { row := regsTellUptoRow, standIns := [], harness := (true, "b0663f450c6bf32e670199e1ecf12ba518a8496c7ddd84d2936b9bfb427352cc"), looks := true }, kinds := [], alts := [], laidByText := true, laidKinds := [.data], laidTests := true, laidLooks := .later }
def RegsTellUptoCardSaid : Prop := Claim7.holds Tryd.pinned (.plain (OpenSpec.upto regsTellSpec)) regsTellUptoCard

/-- THE SECOND FORM's CARD OF 'penumbralaw08.RegsRun'. -/
def regsRunUptoCard : Claim7 := { stood := { row := regsRunUptoRow, standIns := [], harness := (true, "b0663f450c6bf32e670199e1ecf12ba518a8496c7ddd84d2936b9bfb427352cc"), looks := true }, kinds := [], alts := [], laidByText := true, laidKinds := [.data], laidTests := true, laidLooks := .later }
def RegsRunUptoCardSaid : Prop := Claim7.holds Tryd.pinned (.plain (OpenSpec.upto regsRunSpec)) regsRunUptoCard

/-- THE SECOND FORM's CARD OF 'penumbralaw08.RegsJumps'. -/
def regsJumpsUptoCard : Claim7 := { stood := { row := regsJumpsUptoRow, standIns := [], harness := (true, "b0663f450c6bf32e670199e1ecf12ba518a8496c7ddd84d2936b9bfb427352cc"), looks := true }, kinds := [], alts := [], laidByText := true, laidKinds := [.data], laidTests := true, laidLooks := .later }
def RegsJumpsUptoCardSaid : Prop := Claim7.holds Tryd.pinned (.plain (OpenSpec.upto regsJumpsSpec)) regsJumpsUptoCard
end Rows
end Go.Proofs.YtdhamejgdapdjaaDoor

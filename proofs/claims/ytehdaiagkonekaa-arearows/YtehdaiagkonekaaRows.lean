/-
  No cell of these rows narrows 'for every input' (looked for: loops, veiled, ifaces, maps, wideKeys, modest, calm, conditions, laid).
  DERIVED. THE GIVEN ROWS OF THIS SEAT. 5 by the template 'for every input the law returns true; each argument reads behind the call as it read before'; 0 by the template 'total and deterministic' (their statements: YtehdaiagkonekaaTotals.lean).
  GIVEN WITH THE SEED: the statements are not yours to turn. If you find one false, say at which input.
  Laid BY PROGRAM, IN A SANDBOX (cutbox-rows.mjs): the forced cells as the released guide's own fill.sh prints them over the translation 36c3c295b3ec2252… (all of the seat's roots in one cut). By AI agents, Wed Nov 11 2026. No macro, syntax, notation, axiom, sorry.
-/
import Derived.Test.YtehdaiagkonekaaChecked
import GoSem.Claim
import GoSem.ClaimJoined
import GoSem.ClaimMapViews
import Derived.JoinedTies
import Derived.KernelRfl
namespace Go.Proofs.Ytehdaiagkonekaa
/- THE CELL 'sum', in the pinned program and in every row, IS THE sha256 OF THE DUMP (.gsa) THAT YtehdaiagkonekaaProg.lean LOADS. Nothing in Lean hashes anything: it is a label: what it is worth is what the hold of that sum in a sandbox is worth. -/
noncomputable def Try.pinned : Pinned := { name := "ytehdaiagkonekaa", sum := "36c3c295b3ec225275a53688da9fadb60f54df744be91b7e4b2a539b059fd8b3", checked := Try.checked }
namespace Rows
def none {H : Type} : Left H := { results := [], args := [] }

/-- 'penumbralaw12.AreaForms': WHATEVER THE INPUT: true; the input reads as it did. -/
def areaFormsSpec : ChangeSpec := { name := "areaForms", fn := fun _ => fun
  | [d] => { results := [.lit (.bool true)], args := [d] }
  | _ => none }
def areaFormsRow : OpenClaim := { program := "ytehdaiagkonekaa", sum := "36c3c295b3ec225275a53688da9fadb60f54df744be91b7e4b2a539b059fd8b3", func := "penumbra/penumbralaw12.AreaForms", spec := "areaForms", apart := false }
def AreaFormsSaid : Prop := areaFormsRow.holds Try.pinned (OpenSpec.ofChange areaFormsSpec)

/-- ITS FALSE NEIGHBOUR: 'it returns false'. Refute it at one input. -/
def areaFormsWrong : ChangeSpec := { name := "areaForms", fn := fun _ => fun
  | [d] => { results := [.lit (.bool false)], args := [d] }
  | _ => none }
def AreaFormsWrongFalsely : Prop := areaFormsRow.holds Try.pinned (OpenSpec.ofChange areaFormsWrong)

/-- 'penumbralaw12.AreaErrors': WHATEVER THE INPUT: true; the input reads as it did. -/
def areaErrorsSpec : ChangeSpec := { name := "areaErrors", fn := fun _ => fun
  | [d] => { results := [.lit (.bool true)], args := [d] }
  | _ => none }
def areaErrorsRow : OpenClaim := { program := "ytehdaiagkonekaa", sum := "36c3c295b3ec225275a53688da9fadb60f54df744be91b7e4b2a539b059fd8b3", func := "penumbra/penumbralaw12.AreaErrors", spec := "areaErrors", apart := false }
def AreaErrorsSaid : Prop := areaErrorsRow.holds Try.pinned (OpenSpec.ofChange areaErrorsSpec)

/-- ITS FALSE NEIGHBOUR: 'it returns false'. Refute it at one input. -/
def areaErrorsWrong : ChangeSpec := { name := "areaErrors", fn := fun _ => fun
  | [d] => { results := [.lit (.bool false)], args := [d] }
  | _ => none }
def AreaErrorsWrongFalsely : Prop := areaErrorsRow.holds Try.pinned (OpenSpec.ofChange areaErrorsWrong)

/-- 'penumbralaw12.AreaPlays': WHATEVER THE INPUT: true; the input reads as it did. -/
def areaPlaysSpec : ChangeSpec := { name := "areaPlays", fn := fun _ => fun
  | [d] => { results := [.lit (.bool true)], args := [d] }
  | _ => none }
def areaPlaysRow : OpenClaim := { program := "ytehdaiagkonekaa", sum := "36c3c295b3ec225275a53688da9fadb60f54df744be91b7e4b2a539b059fd8b3", func := "penumbra/penumbralaw12.AreaPlays", spec := "areaPlays", apart := false }
def AreaPlaysSaid : Prop := areaPlaysRow.holds Try.pinned (OpenSpec.ofChange areaPlaysSpec)

/-- ITS FALSE NEIGHBOUR: 'it returns false'. Refute it at one input. -/
def areaPlaysWrong : ChangeSpec := { name := "areaPlays", fn := fun _ => fun
  | [d] => { results := [.lit (.bool false)], args := [d] }
  | _ => none }
def AreaPlaysWrongFalsely : Prop := areaPlaysRow.holds Try.pinned (OpenSpec.ofChange areaPlaysWrong)

/-- 'penumbralaw12.AreaRows': WHATEVER THE INPUT: true; the input reads as it did. -/
def areaRowsSpec : ChangeSpec := { name := "areaRows", fn := fun _ => fun
  | [d] => { results := [.lit (.bool true)], args := [d] }
  | _ => none }
def areaRowsRow : OpenClaim := { program := "ytehdaiagkonekaa", sum := "36c3c295b3ec225275a53688da9fadb60f54df744be91b7e4b2a539b059fd8b3", func := "penumbra/penumbralaw12.AreaRows", spec := "areaRows", apart := false }
def AreaRowsSaid : Prop := areaRowsRow.holds Try.pinned (OpenSpec.ofChange areaRowsSpec)

/-- ITS FALSE NEIGHBOUR: 'it returns false'. Refute it at one input. -/
def areaRowsWrong : ChangeSpec := { name := "areaRows", fn := fun _ => fun
  | [d] => { results := [.lit (.bool false)], args := [d] }
  | _ => none }
def AreaRowsWrongFalsely : Prop := areaRowsRow.holds Try.pinned (OpenSpec.ofChange areaRowsWrong)

/-- 'penumbralaw12.AreaParts': WHATEVER THE INPUT: true; the input reads as it did. -/
def areaPartsSpec : ChangeSpec := { name := "areaParts", fn := fun _ => fun
  | [d1, d2, d3, d4, d5] => { results := [.lit (.bool true)], args := [d1, d2, d3, d4, d5] }
  | _ => none }
def areaPartsRow : OpenClaim := { program := "ytehdaiagkonekaa", sum := "36c3c295b3ec225275a53688da9fadb60f54df744be91b7e4b2a539b059fd8b3", func := "penumbra/penumbralaw12.AreaParts", spec := "areaParts", apart := false }
def AreaPartsSaid : Prop := areaPartsRow.holds Try.pinned (OpenSpec.ofChange areaPartsSpec)

/-- ITS FALSE NEIGHBOUR: 'it returns false'. Refute it at one input. -/
def areaPartsWrong : ChangeSpec := { name := "areaParts", fn := fun _ => fun
  | [d1, d2, d3, d4, d5] => { results := [.lit (.bool false)], args := [d1, d2, d3, d4, d5] }
  | _ => none }
def AreaPartsWrongFalsely : Prop := areaPartsRow.holds Try.pinned (OpenSpec.ofChange areaPartsWrong)

/- THE SECOND FORM. 'bulk': how many values and letters a reading holds, each counted each time it is reached (what is shared counts as often as it is met; a slice's spare places count too). A statement '..UptoSaid' is the law's where the arguments, and the package variables that the reading takes, are together of bulk at most 1048576: NARROWER than '..Said'. Prove '..Said' where nothing that the law and all that it calls make is longer than what came in: it says more and counts as full. Else prove '..UptoSaid'. A law counts once. -/
mutual
def uptoBulk {H : Type} : DataW H → Nat
  | .lit (.string bytes) => bytes.length + 1
  | .lit _ => 1
  | .nil => 1
  | .ptr d => uptoBulk d + 1
  | .slice elems spare => uptoBulkAll elems + uptoBulkAll spare + 1
  | .agg parts => uptoBulkAll parts + 1
  | .iface _ d => uptoBulk d + 1
  | .map entries => uptoBulkEntries entries + 1
  | .held _ => 1
def uptoBulkAll {H : Type} : List (DataW H) → Nat
  | [] => 0
  | d :: r => uptoBulk d + uptoBulkAll r
def uptoBulkEntries {H : Type} : List (Lit × DataW H) → Nat
  | [] => 0
  | x :: r => uptoBulkEntry x + uptoBulkEntries r
def uptoBulkEntry {H : Type} : Lit × DataW H → Nat
  | (.string bytes, d) => bytes.length + uptoBulk d + 1
  | (_, d) => uptoBulk d + 1
 end
def uptoSmall : (H : Type) → List (DataW H) → Bool := fun _ ds => decide (uptoBulkAll ds ≤ 1048576)
def OpenSpec.upto (s : _root_.Go.ChangeSpec) : _root_.Go.OpenSpec := { _root_.Go.OpenSpec.ofChange s with cond := some uptoSmall }

/-- 'penumbralaw12.AreaForms', WHERE WHAT IT READS IS OF BULK AT MOST 1048576: true; the input reads as it did. -/
def areaFormsUptoRow : OpenClaim := { program := "ytehdaiagkonekaa", sum := "36c3c295b3ec225275a53688da9fadb60f54df744be91b7e4b2a539b059fd8b3", func := "penumbra/penumbralaw12.AreaForms", spec := "areaForms", apart := false, narrowed := true }
def AreaFormsUptoSaid : Prop := areaFormsUptoRow.holds Try.pinned (OpenSpec.upto areaFormsSpec)

/-- 'penumbralaw12.AreaErrors', WHERE WHAT IT READS IS OF BULK AT MOST 1048576: true; the input reads as it did. -/
def areaErrorsUptoRow : OpenClaim := { program := "ytehdaiagkonekaa", sum := "36c3c295b3ec225275a53688da9fadb60f54df744be91b7e4b2a539b059fd8b3", func := "penumbra/penumbralaw12.AreaErrors", spec := "areaErrors", apart := false, narrowed := true }
def AreaErrorsUptoSaid : Prop := areaErrorsUptoRow.holds Try.pinned (OpenSpec.upto areaErrorsSpec)

/-- 'penumbralaw12.AreaPlays', WHERE WHAT IT READS IS OF BULK AT MOST 1048576: true; the input reads as it did. -/
def areaPlaysUptoRow : OpenClaim := { program := "ytehdaiagkonekaa", sum := "36c3c295b3ec225275a53688da9fadb60f54df744be91b7e4b2a539b059fd8b3", func := "penumbra/penumbralaw12.AreaPlays", spec := "areaPlays", apart := false, narrowed := true }
def AreaPlaysUptoSaid : Prop := areaPlaysUptoRow.holds Try.pinned (OpenSpec.upto areaPlaysSpec)

/-- 'penumbralaw12.AreaRows', WHERE WHAT IT READS IS OF BULK AT MOST 1048576: true; the input reads as it did. -/
def areaRowsUptoRow : OpenClaim := { program := "ytehdaiagkonekaa", sum := "36c3c295b3ec225275a53688da9fadb60f54df744be91b7e4b2a539b059fd8b3", func := "penumbra/penumbralaw12.AreaRows", spec := "areaRows", apart := false, narrowed := true }
def AreaRowsUptoSaid : Prop := areaRowsUptoRow.holds Try.pinned (OpenSpec.upto areaRowsSpec)

/-- 'penumbralaw12.AreaParts', WHERE WHAT IT READS IS OF BULK AT MOST 1048576: true; the input reads as it did. -/
def areaPartsUptoRow : OpenClaim := { program := "ytehdaiagkonekaa", sum := "36c3c295b3ec225275a53688da9fadb60f54df744be91b7e4b2a539b059fd8b3", func := "penumbra/penumbralaw12.AreaParts", spec := "areaParts", apart := false, narrowed := true }
def AreaPartsUptoSaid : Prop := areaPartsUptoRow.holds Try.pinned (OpenSpec.upto areaPartsSpec)

end Rows
end Go.Proofs.Ytehdaiagkonekaa

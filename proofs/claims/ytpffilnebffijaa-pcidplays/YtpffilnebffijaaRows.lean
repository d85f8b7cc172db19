/-
  No cell of these rows narrows 'for every input' (looked for: loops, veiled, ifaces, maps, wideKeys, modest, calm, conditions, laid).
  DERIVED. THE GIVEN ROWS OF THIS SEAT. 5 by the template 'for every input the law returns true; each argument reads behind the call as it read before'; 0 by the template 'total and deterministic' (their statements: YtpffilnebffijaaTotals.lean).
  GIVEN WITH THE SEED: the statements are not yours to turn. If you find one false, say at which input.
  Laid BY PROGRAM, IN A SANDBOX (cutbox-rows.mjs): the forced cells as the released guide's own fill.sh prints them over the translation debc7845b63f5df7… (all of the seat's roots in one cut). By AI agents, Wed Nov 11 2026. No macro, syntax, notation, axiom, sorry.
-/
import Derived.Test.YtpffilnebffijaaChecked
import GoSem.Claim
import GoSem.ClaimJoined
import GoSem.ClaimMapViews
import Derived.JoinedTies
import Derived.KernelRfl
namespace Go.Proofs.Ytpffilnebffijaa
/- THE CELL 'sum', in the pinned program and in every row, IS THE sha256 OF THE DUMP (.gsa) THAT YtpffilnebffijaaProg.lean LOADS. Nothing in Lean hashes anything: it is a label: what it is worth is what the hold of that sum in a sandbox is worth. -/
noncomputable def Try.pinned : Pinned := { name := "ytpffilnebffijaa", sum := "debc7845b63f5df7ca3d56a3ec02343c4dc26e91374c2f35f3e779b7bcf4b009", checked := Try.checked }
namespace Rows
def none {H : Type} : Left H := { results := [], args := [] }

/-- 'penumbralaw09.SpacePlays': WHATEVER THE INPUT: true; the input reads as it did. -/
def spacePlaysSpec : ChangeSpec := { name := "spacePlays", fn := fun _ => fun
  | [d1, d2, d3] => { results := [.lit (.bool true)], args := [d1, d2, d3] }
  | _ => none }
def spacePlaysRow : OpenClaim := { program := "ytpffilnebffijaa", sum := "debc7845b63f5df7ca3d56a3ec02343c4dc26e91374c2f35f3e779b7bcf4b009", func := "penumbra/penumbralaw09.SpacePlays", spec := "spacePlays", unfollowed := true, recurses := true, plainKeys := false, apart := false }
def SpacePlaysSaid : Prop := spacePlaysRow.holds Try.pinned (OpenSpec.ofChange spacePlaysSpec)

/-- ITS FALSE NEIGHBOUR: 'it returns false'. Refute it at one input. -/
def spacePlaysWrong : ChangeSpec := { name := "spacePlays", fn := fun _ => fun
  | [d1, d2, d3] => { results := [.lit (.bool false)], args := [d1, d2, d3] }
  | _ => none }
def SpacePlaysWrongFalsely : Prop := spacePlaysRow.holds Try.pinned (OpenSpec.ofChange spacePlaysWrong)

/-- 'penumbralaw11.PcidForms': WHATEVER THE INPUT: true; the input reads as it did. -/
def pcidFormsSpec : ChangeSpec := { name := "pcidForms", fn := fun _ => fun
  | [d] => { results := [.lit (.bool true)], args := [d] }
  | _ => none }
def pcidFormsRow : OpenClaim := { program := "ytpffilnebffijaa", sum := "debc7845b63f5df7ca3d56a3ec02343c4dc26e91374c2f35f3e779b7bcf4b009", func := "penumbra/penumbralaw11.PcidForms", spec := "pcidForms", plainKeys := false, apart := false }
def PcidFormsSaid : Prop := pcidFormsRow.holds Try.pinned (OpenSpec.ofChange pcidFormsSpec)

/-- ITS FALSE NEIGHBOUR: 'it returns false'. Refute it at one input. -/
def pcidFormsWrong : ChangeSpec := { name := "pcidForms", fn := fun _ => fun
  | [d] => { results := [.lit (.bool false)], args := [d] }
  | _ => none }
def PcidFormsWrongFalsely : Prop := pcidFormsRow.holds Try.pinned (OpenSpec.ofChange pcidFormsWrong)

/-- 'penumbralaw11.PcidPlays': WHATEVER THE INPUT: true; the input reads as it did. -/
def pcidPlaysSpec : ChangeSpec := { name := "pcidPlays", fn := fun _ => fun
  | [d1, d2] => { results := [.lit (.bool true)], args := [d1, d2] }
  | _ => none }
def pcidPlaysRow : OpenClaim := { program := "ytpffilnebffijaa", sum := "debc7845b63f5df7ca3d56a3ec02343c4dc26e91374c2f35f3e779b7bcf4b009", func := "penumbra/penumbralaw11.PcidPlays", spec := "pcidPlays", plainKeys := false, apart := false }
def PcidPlaysSaid : Prop := pcidPlaysRow.holds Try.pinned (OpenSpec.ofChange pcidPlaysSpec)

/-- ITS FALSE NEIGHBOUR: 'it returns false'. Refute it at one input. -/
def pcidPlaysWrong : ChangeSpec := { name := "pcidPlays", fn := fun _ => fun
  | [d1, d2] => { results := [.lit (.bool false)], args := [d1, d2] }
  | _ => none }
def PcidPlaysWrongFalsely : Prop := pcidPlaysRow.holds Try.pinned (OpenSpec.ofChange pcidPlaysWrong)

/-- 'penumbralaw11.PcidUnlike': WHATEVER THE INPUT: true; the input reads as it did. -/
def pcidUnlikeSpec : ChangeSpec := { name := "pcidUnlike", fn := fun _ => fun
  | [d] => { results := [.lit (.bool true)], args := [d] }
  | _ => none }
def pcidUnlikeRow : OpenClaim := { program := "ytpffilnebffijaa", sum := "debc7845b63f5df7ca3d56a3ec02343c4dc26e91374c2f35f3e779b7bcf4b009", func := "penumbra/penumbralaw11.PcidUnlike", spec := "pcidUnlike", plainKeys := false, apart := false }
def PcidUnlikeSaid : Prop := pcidUnlikeRow.holds Try.pinned (OpenSpec.ofChange pcidUnlikeSpec)

/-- ITS FALSE NEIGHBOUR: 'it returns false'. Refute it at one input. -/
def pcidUnlikeWrong : ChangeSpec := { name := "pcidUnlike", fn := fun _ => fun
  | [d] => { results := [.lit (.bool false)], args := [d] }
  | _ => none }
def PcidUnlikeWrongFalsely : Prop := pcidUnlikeRow.holds Try.pinned (OpenSpec.ofChange pcidUnlikeWrong)

/-- 'penumbralaw11.PcidMust': WHATEVER THE INPUT: true; the input reads as it did. -/
def pcidMustSpec : ChangeSpec := { name := "pcidMust", fn := fun _ => fun
  | [d] => { results := [.lit (.bool true)], args := [d] }
  | _ => none }
def pcidMustRow : OpenClaim := { program := "ytpffilnebffijaa", sum := "debc7845b63f5df7ca3d56a3ec02343c4dc26e91374c2f35f3e779b7bcf4b009", func := "penumbra/penumbralaw11.PcidMust", spec := "pcidMust", plainKeys := false, apart := false }
def PcidMustSaid : Prop := pcidMustRow.holds Try.pinned (OpenSpec.ofChange pcidMustSpec)

/-- ITS FALSE NEIGHBOUR: 'it returns false'. Refute it at one input. -/
def pcidMustWrong : ChangeSpec := { name := "pcidMust", fn := fun _ => fun
  | [d] => { results := [.lit (.bool false)], args := [d] }
  | _ => none }
def PcidMustWrongFalsely : Prop := pcidMustRow.holds Try.pinned (OpenSpec.ofChange pcidMustWrong)

/- THE SECOND FORM. 'bulk': how many values and letters a reading holds, each counted each time it is reached (what is shared counts as often as it is met; a slice's spare places count too). A statement '..UptoSaid' is the law's where the arguments, and the package variables that the reading takes, are together of bulk at most 1048576: NARROWER than '..Said'. Prove '..Said' where nothing that the law and all that it calls make is longer than what came in: it says more and counts as full. Else prove '..UptoSaid'. A law counts once. -/
mutual
def uptoBulk {H : Type} : DataW H → Nat
  | .lit (.string bytes) => bytes.length + 1
  | .lit _ => 1
  | .nil => 1
  | .ptr d => uptoBulk d + 1
  | .slice elems spare => uptoBulkAll elems + uptoBulkAll spare + 1
  | .agg parts => uptoBulkAll parts + 1
  | .iface _ d => uptoBulk d + 1
  | .map entries => uptoBulkEntries entries + 1
  | .held _ => 1
def uptoBulkAll {H : Type} : List (DataW H) → Nat
  | [] => 0
  | d :: r => uptoBulk d + uptoBulkAll r
def uptoBulkEntries {H : Type} : List (Lit × DataW H) → Nat
  | [] => 0
  | x :: r => uptoBulkEntry x + uptoBulkEntries r
def uptoBulkEntry {H : Type} : Lit × DataW H → Nat
  | (.string bytes, d) => bytes.length + uptoBulk d + 1
  | (_, d) => uptoBulk d + 1
 end
def uptoSmall : (H : Type) → List (DataW H) → Bool := fun _ ds => decide (uptoBulkAll ds ≤ 1048576)
def OpenSpec.upto (s : _root_.Go.ChangeSpec) : _root_.Go.OpenSpec := { _root_.Go.OpenSpec.ofChange s with cond := some uptoSmall }

/-- 'penumbralaw09.SpacePlays', WHERE WHAT IT READS IS OF BULK AT MOST 1048576: true; the input reads as it did. -/
def spacePlaysUptoRow : OpenClaim := { program := "ytpffilnebffijaa", sum := "debc7845b63f5df7ca3d56a3ec02343c4dc26e91374c2f35f3e779b7bcf4b009", func := "penumbra/penumbralaw09.SpacePlays", spec := "spacePlays", unfollowed := true, recurses := true, plainKeys := false, apart := false, narrowed := true }
def SpacePlaysUptoSaid : Prop := spacePlaysUptoRow.holds Try.pinned (OpenSpec.upto spacePlaysSpec)

/-- 'penumbralaw11.PcidForms', WHERE WHAT IT READS IS OF BULK AT MOST 1048576: true; the input reads as it did. -/
def pcidFormsUptoRow : OpenClaim := { program := "ytpffilnebffijaa", sum := "debc7845b63f5df7ca3d56a3ec02343c4dc26e91374c2f35f3e779b7bcf4b009", func := "penumbra/penumbralaw11.PcidForms", spec := "pcidForms", plainKeys := false, apart := false, narrowed := true }
def PcidFormsUptoSaid : Prop := pcidFormsUptoRow.holds Try.pinned (OpenSpec.upto pcidFormsSpec)

/-- 'penumbralaw11.PcidPlays', WHERE WHAT IT READS IS OF BULK AT MOST 1048576: true; the input reads as it did. -/
def pcidPlaysUptoRow : OpenClaim := { program := "ytpffilnebffijaa", sum := "debc7845b63f5df7ca3d56a3ec02343c4dc26e91374c2f35f3e779b7bcf4b009", func := "penumbra/penumbralaw11.PcidPlays", spec := "pcidPlays", plainKeys := false, apart := false, narrowed := true }
def PcidPlaysUptoSaid : Prop := pcidPlaysUptoRow.holds Try.pinned (OpenSpec.upto pcidPlaysSpec)

/-- 'penumbralaw11.PcidUnlike', WHERE WHAT IT READS IS OF BULK AT MOST 1048576: true; the input reads as it did. -/
def pcidUnlikeUptoRow : OpenClaim := { program := "ytpffilnebffijaa", sum := "debc7845b63f5df7ca3d56a3ec02343c4dc26e91374c2f35f3e779b7bcf4b009", func := "penumbra/penumbralaw11.PcidUnlike", spec := "pcidUnlike", plainKeys := false, apart := false, narrowed := true }
def PcidUnlikeUptoSaid : Prop := pcidUnlikeUptoRow.holds Try.pinned (OpenSpec.upto pcidUnlikeSpec)

/-- 'penumbralaw11.PcidMust', WHERE WHAT IT READS IS OF BULK AT MOST 1048576: true; the input reads as it did. -/
def pcidMustUptoRow : OpenClaim := { program := "ytpffilnebffijaa", sum := "debc7845b63f5df7ca3d56a3ec02343c4dc26e91374c2f35f3e779b7bcf4b009", func := "penumbra/penumbralaw11.PcidMust", spec := "pcidMust", plainKeys := false, apart := false, narrowed := true }
def PcidMustUptoSaid : Prop := pcidMustUptoRow.holds Try.pinned (OpenSpec.upto pcidMustSpec)

end Rows
end Go.Proofs.Ytpffilnebffijaa

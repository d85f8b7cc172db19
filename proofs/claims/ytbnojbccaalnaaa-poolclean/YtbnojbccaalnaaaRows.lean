/-
  No cell of these rows narrows 'for every input' (looked for: loops, veiled, ifaces, maps, wideKeys, modest, calm, conditions, laid).
  DERIVED. THE GIVEN ROWS OF THIS SEAT. 5 by the template 'for every input the law returns true; each argument reads behind the call as it read before'; 0 by the template 'total and deterministic' (their statements: YtbnojbccaalnaaaTotals.lean).
  GIVEN WITH THE SEED: the statements are not yours to turn. If you find one false, say at which input.
  Laid BY PROGRAM, IN A SANDBOX (cutbox-rows.mjs): the forced cells as the released guide's own fill.sh prints them over the translation 7e7b20c09443c582… (all of the seat's roots in one cut). By AI agents, Wed Nov 11 2026. No macro, syntax, notation, axiom, sorry.
-/
import Derived.Test.YtbnojbccaalnaaaChecked
import GoSem.Claim
import GoSem.ClaimJoined
import GoSem.ClaimMapViews
import Derived.JoinedTies
import Derived.KernelRfl
namespace Go.Proofs.Ytbnojbccaalnaaa
/- THE CELL 'sum', in the pinned program and in every row, IS THE sha256 OF THE DUMP (.gsa) THAT YtbnojbccaalnaaaProg.lean LOADS. Nothing in Lean hashes anything: it is a label: what it is worth is what the hold of that sum in a sandbox is worth. -/
noncomputable def Try.pinned : Pinned := { name := "ytbnojbccaalnaaa", sum := "7e7b20c09443c5820c808e2f316782b2f9f24bbd028d6bf83ab2aff826886cfa", checked := Try.checked }
namespace Rows
def none {H : Type} : Left H := { results := [], args := [] }

/-- 'penumbralaw03.PoolOrder': WHATEVER THE INPUT: true; the input reads as it did. -/
def poolOrderSpec : ChangeSpec := { name := "poolOrder", fn := fun _ => fun
  | [d1, d2] => { results := [.lit (.bool true)], args := [d1, d2] }
  | _ => none }
def poolOrderRow : OpenClaim := { program := "ytbnojbccaalnaaa", sum := "7e7b20c09443c5820c808e2f316782b2f9f24bbd028d6bf83ab2aff826886cfa", func := "penumbra/penumbralaw03.PoolOrder", spec := "poolOrder", apart := false }
def PoolOrderSaid : Prop := poolOrderRow.holds Try.pinned (OpenSpec.ofChange poolOrderSpec)

/-- ITS FALSE NEIGHBOUR: 'it returns false'. Refute it at one input. -/
def poolOrderWrong : ChangeSpec := { name := "poolOrder", fn := fun _ => fun
  | [d1, d2] => { results := [.lit (.bool false)], args := [d1, d2] }
  | _ => none }
def PoolOrderWrongFalsely : Prop := poolOrderRow.holds Try.pinned (OpenSpec.ofChange poolOrderWrong)

/-- 'penumbralaw03.PoolRefs': WHATEVER THE INPUT: true; the input reads as it did. -/
def poolRefsSpec : ChangeSpec := { name := "poolRefs", fn := fun _ => fun
  | [d1, d2] => { results := [.lit (.bool true)], args := [d1, d2] }
  | _ => none }
def poolRefsRow : OpenClaim := { program := "ytbnojbccaalnaaa", sum := "7e7b20c09443c5820c808e2f316782b2f9f24bbd028d6bf83ab2aff826886cfa", func := "penumbra/penumbralaw03.PoolRefs", spec := "poolRefs", apart := false }
def PoolRefsSaid : Prop := poolRefsRow.holds Try.pinned (OpenSpec.ofChange poolRefsSpec)

/-- ITS FALSE NEIGHBOUR: 'it returns false'. Refute it at one input. -/
def poolRefsWrong : ChangeSpec := { name := "poolRefs", fn := fun _ => fun
  | [d1, d2] => { results := [.lit (.bool false)], args := [d1, d2] }
  | _ => none }
def PoolRefsWrongFalsely : Prop := poolRefsRow.holds Try.pinned (OpenSpec.ofChange poolRefsWrong)

/-- 'penumbralaw03.PoolPlays': WHATEVER THE INPUT: true; the input reads as it did. -/
def poolPlaysSpec : ChangeSpec := { name := "poolPlays", fn := fun _ => fun
  | [d1, d2] => { results := [.lit (.bool true)], args := [d1, d2] }
  | _ => none }
def poolPlaysRow : OpenClaim := { program := "ytbnojbccaalnaaa", sum := "7e7b20c09443c5820c808e2f316782b2f9f24bbd028d6bf83ab2aff826886cfa", func := "penumbra/penumbralaw03.PoolPlays", spec := "poolPlays", apart := false }
def PoolPlaysSaid : Prop := poolPlaysRow.holds Try.pinned (OpenSpec.ofChange poolPlaysSpec)

/-- ITS FALSE NEIGHBOUR: 'it returns false'. Refute it at one input. -/
def poolPlaysWrong : ChangeSpec := { name := "poolPlays", fn := fun _ => fun
  | [d1, d2] => { results := [.lit (.bool false)], args := [d1, d2] }
  | _ => none }
def PoolPlaysWrongFalsely : Prop := poolPlaysRow.holds Try.pinned (OpenSpec.ofChange poolPlaysWrong)

/-- 'penumbralaw03.PoolClean': WHATEVER THE INPUT: true; the input reads as it did. -/
def poolCleanSpec : ChangeSpec := { name := "poolClean", fn := fun _ => fun
  | [d1, d2] => { results := [.lit (.bool true)], args := [d1, d2] }
  | _ => none }
def poolCleanRow : OpenClaim := { program := "ytbnojbccaalnaaa", sum := "7e7b20c09443c5820c808e2f316782b2f9f24bbd028d6bf83ab2aff826886cfa", func := "penumbra/penumbralaw03.PoolClean", spec := "poolClean", apart := false }
def PoolCleanSaid : Prop := poolCleanRow.holds Try.pinned (OpenSpec.ofChange poolCleanSpec)

/-- ITS FALSE NEIGHBOUR: 'it returns false'. Refute it at one input. -/
def poolCleanWrong : ChangeSpec := { name := "poolClean", fn := fun _ => fun
  | [d1, d2] => { results := [.lit (.bool false)], args := [d1, d2] }
  | _ => none }
def PoolCleanWrongFalsely : Prop := poolCleanRow.holds Try.pinned (OpenSpec.ofChange poolCleanWrong)

/-- 'penumbralaw03.PoolSums': WHATEVER THE INPUT: true; the input reads as it did. -/
def poolSumsSpec : ChangeSpec := { name := "poolSums", fn := fun _ => fun
  | [d1, d2] => { results := [.lit (.bool true)], args := [d1, d2] }
  | _ => none }
def poolSumsRow : OpenClaim := { program := "ytbnojbccaalnaaa", sum := "7e7b20c09443c5820c808e2f316782b2f9f24bbd028d6bf83ab2aff826886cfa", func := "penumbra/penumbralaw03.PoolSums", spec := "poolSums", apart := false }
def PoolSumsSaid : Prop := poolSumsRow.holds Try.pinned (OpenSpec.ofChange poolSumsSpec)

/-- ITS FALSE NEIGHBOUR: 'it returns false'. Refute it at one input. -/
def poolSumsWrong : ChangeSpec := { name := "poolSums", fn := fun _ => fun
  | [d1, d2] => { results := [.lit (.bool false)], args := [d1, d2] }
  | _ => none }
def PoolSumsWrongFalsely : Prop := poolSumsRow.holds Try.pinned (OpenSpec.ofChange poolSumsWrong)

/- THE SECOND FORM. 'bulk': how many values and letters a reading holds, each counted each time it is reached (what is shared counts as often as it is met; a slice's spare places count too). A statement '..UptoSaid' is the law's where the arguments, and the package variables that the reading takes, are together of bulk at most 1048576: NARROWER than '..Said'. Prove '..Said' where nothing that the law and all that it calls make is longer than what came in: it says more and counts as full. Else prove '..UptoSaid'. A law counts once. -/
mutual
def uptoBulk {H : Type} : DataW H → Nat
  | .lit (.string bytes) => bytes.length + 1
  | .lit _ => 1
  | .nil => 1
  | .ptr d => uptoBulk d + 1
  | .slice elems spare => uptoBulkAll elems + uptoBulkAll spare + 1
  | .agg parts => uptoBulkAll parts + 1
  | .iface _ d => uptoBulk d + 1
  | .map entries => uptoBulkEntries entries + 1
  | .held _ => 1
def uptoBulkAll {H : Type} : List (DataW H) → Nat
  | [] => 0
  | d :: r => uptoBulk d + uptoBulkAll r
def uptoBulkEntries {H : Type} : List (Lit × DataW H) → Nat
  | [] => 0
  | x :: r => uptoBulkEntry x + uptoBulkEntries r
def uptoBulkEntry {H : Type} : Lit × DataW H → Nat
  | (.string bytes, d) => bytes.length + uptoBulk d + 1
  | (_, d) => uptoBulk d + 1
 end
def uptoSmall : (H : Type) → List (DataW H) → Bool := fun _ ds => decide (uptoBulkAll ds ≤ 1048576)
def OpenSpec.upto (s : _root_.Go.ChangeSpec) : _root_.Go.OpenSpec := { _root_.Go.OpenSpec.ofChange s with cond := some uptoSmall }

/-- 'penumbralaw03.PoolOrder', WHERE WHAT IT READS IS OF BULK AT MOST 1048576: true; the input reads as it did. -/
def poolOrderUptoRow : OpenClaim := { program := "ytbnojbccaalnaaa", sum := "7e7b20c09443c5820c808e2f316782b2f9f24bbd028d6bf83ab2aff826886cfa", func := "penumbra/penumbralaw03.PoolOrder", spec := "poolOrder", apart := false, narrowed := true }
def PoolOrderUptoSaid : Prop := poolOrderUptoRow.holds Try.pinned (OpenSpec.upto poolOrderSpec)

/-- 'penumbralaw03.PoolRefs', WHERE WHAT IT READS IS OF BULK AT MOST 1048576: true; the input reads as it did. -/
def poolRefsUptoRow : OpenClaim := { program := "ytbnojbccaalnaaa", sum := "7e7b20c09443c5820c808e2f316782b2f9f24bbd028d6bf83ab2aff826886cfa", func := "penumbra/penumbralaw03.PoolRefs", spec := "poolRefs", apart := false, narrowed := true }
def PoolRefsUptoSaid : Prop := poolRefsUptoRow.holds Try.pinned (OpenSpec.upto poolRefsSpec)

/-- 'penumbralaw03.PoolPlays', WHERE WHAT IT READS IS OF BULK AT MOST 1048576: true; the input reads as it did. -/
def poolPlaysUptoRow : OpenClaim := { program := "ytbnojbccaalnaaa", sum := "7e7b20c09443c5820c808e2f316782b2f9f24bbd028d6bf83ab2aff826886cfa", func := "penumbra/penumbralaw03.PoolPlays", spec := "poolPlays", apart := false, narrowed := true }
def PoolPlaysUptoSaid : Prop := poolPlaysUptoRow.holds Try.pinned (OpenSpec.upto poolPlaysSpec)

/-- 'penumbralaw03.PoolClean', WHERE WHAT IT READS IS OF BULK AT MOST 1048576: true; the input reads as it did. -/
def poolCleanUptoRow : OpenClaim := { program := "ytbnojbccaalnaaa", sum := "7e7b20c09443c5820c808e2f316782b2f9f24bbd028d6bf83ab2aff826886cfa", func := "penumbra/penumbralaw03.PoolClean", spec := "poolClean", apart := false, narrowed := true }
def PoolCleanUptoSaid : Prop := poolCleanUptoRow.holds Try.pinned (OpenSpec.upto poolCleanSpec)

/-- 'penumbralaw03.PoolSums', WHERE WHAT IT READS IS OF BULK AT MOST 1048576: true; the input reads as it did. -/
def poolSumsUptoRow : OpenClaim := { program := "ytbnojbccaalnaaa", sum := "7e7b20c09443c5820c808e2f316782b2f9f24bbd028d6bf83ab2aff826886cfa", func := "penumbra/penumbralaw03.PoolSums", spec := "poolSums", apart := false, narrowed := true }
def PoolSumsUptoSaid : Prop := poolSumsUptoRow.holds Try.pinned (OpenSpec.upto poolSumsSpec)

end Rows
end Go.Proofs.Ytbnojbccaalnaaa

/-
  No cell of these rows narrows 'for every input' (looked for: loops, veiled, ifaces, maps, wideKeys, modest, calm, conditions, laid).
  DERIVED. THE GIVEN ROWS OF THIS SEAT. 6 by the template 'for every input the law returns true; each argument reads behind the call as it read before'; 0 by the template 'total and deterministic' (their statements: YtjfdjlinjghddaaTotals.lean).
  GIVEN WITH THE SEED: the statements are not yours to turn. If you find one false, say at which input.
  Laid BY PROGRAM, IN A SANDBOX (cutbox-rows.mjs): the forced cells as the released guide's own fill.sh prints them over the translation 3dd6fb099af63061… (all of the seat's roots in one cut). By AI agents, Wed Nov 11 2026. No macro, syntax, notation, axiom, sorry.
-/
import Derived.Test.YtjfdjlinjghddaaChecked
import GoSem.Claim
import GoSem.ClaimJoined
import GoSem.ClaimMapViews
import Derived.JoinedTies
import Derived.KernelRfl
namespace Go.Proofs.Ytjfdjlinjghddaa
/- THE CELL 'sum', in the pinned program and in every row, IS THE sha256 OF THE DUMP (.gsa) THAT YtjfdjlinjghddaaProg.lean LOADS. Nothing in Lean hashes anything: it is a label: what it is worth is what the hold of that sum in a sandbox is worth. -/
noncomputable def Try.pinned : Pinned := { name := "ytjfdjlinjghddaa", sum := "3dd6fb099af63061c6d64ee3a663cf4ae77833e0d39dbdb18c3b38635f5ffbd1", checked := Try.checked }
namespace Rows
def none {H : Type} : Left H := { results := [], args := [] }

/-- 'penumbralaw04.CacheForms': WHATEVER THE INPUT: true; the input reads as it did. -/
def cacheFormsSpec : ChangeSpec := { name := "cacheForms", fn := fun _ => fun
  | [d] => { results := [.lit (.bool true)], args := [d] }
  | _ => none }
def cacheFormsRow : OpenClaim := { program := "ytjfdjlinjghddaa", sum := "3dd6fb099af63061c6d64ee3a663cf4ae77833e0d39dbdb18c3b38635f5ffbd1", func := "penumbra/penumbralaw04.CacheForms", spec := "cacheForms", apart := false }
def CacheFormsSaid : Prop := cacheFormsRow.holds Try.pinned (OpenSpec.ofChange cacheFormsSpec)

/-- ITS FALSE NEIGHBOUR: 'it returns false'. Refute it at one input. -/
def cacheFormsWrong : ChangeSpec := { name := "cacheForms", fn := fun _ => fun
  | [d] => { results := [.lit (.bool false)], args := [d] }
  | _ => none }
def CacheFormsWrongFalsely : Prop := cacheFormsRow.holds Try.pinned (OpenSpec.ofChange cacheFormsWrong)

/-- 'penumbralaw04.CacheApart': WHATEVER THE INPUT: true; the input reads as it did. -/
def cacheApartSpec : ChangeSpec := { name := "cacheApart", fn := fun _ => fun
  | [d] => { results := [.lit (.bool true)], args := [d] }
  | _ => none }
def cacheApartRow : OpenClaim := { program := "ytjfdjlinjghddaa", sum := "3dd6fb099af63061c6d64ee3a663cf4ae77833e0d39dbdb18c3b38635f5ffbd1", func := "penumbra/penumbralaw04.CacheApart", spec := "cacheApart", apart := false }
def CacheApartSaid : Prop := cacheApartRow.holds Try.pinned (OpenSpec.ofChange cacheApartSpec)

/-- ITS FALSE NEIGHBOUR: 'it returns false'. Refute it at one input. -/
def cacheApartWrong : ChangeSpec := { name := "cacheApart", fn := fun _ => fun
  | [d] => { results := [.lit (.bool false)], args := [d] }
  | _ => none }
def CacheApartWrongFalsely : Prop := cacheApartRow.holds Try.pinned (OpenSpec.ofChange cacheApartWrong)

/-- 'penumbralaw04.CacheTags': WHATEVER THE INPUT: true; the input reads as it did. -/
def cacheTagsSpec : ChangeSpec := { name := "cacheTags", fn := fun _ => fun
  | [d] => { results := [.lit (.bool true)], args := [d] }
  | _ => none }
def cacheTagsRow : OpenClaim := { program := "ytjfdjlinjghddaa", sum := "3dd6fb099af63061c6d64ee3a663cf4ae77833e0d39dbdb18c3b38635f5ffbd1", func := "penumbra/penumbralaw04.CacheTags", spec := "cacheTags", apart := false }
def CacheTagsSaid : Prop := cacheTagsRow.holds Try.pinned (OpenSpec.ofChange cacheTagsSpec)

/-- ITS FALSE NEIGHBOUR: 'it returns false'. Refute it at one input. -/
def cacheTagsWrong : ChangeSpec := { name := "cacheTags", fn := fun _ => fun
  | [d] => { results := [.lit (.bool false)], args := [d] }
  | _ => none }
def CacheTagsWrongFalsely : Prop := cacheTagsRow.holds Try.pinned (OpenSpec.ofChange cacheTagsWrong)

/-- 'penumbralaw04.CachePlays': WHATEVER THE INPUT: true; the input reads as it did. -/
def cachePlaysSpec : ChangeSpec := { name := "cachePlays", fn := fun _ => fun
  | [d1, d2] => { results := [.lit (.bool true)], args := [d1, d2] }
  | _ => none }
def cachePlaysRow : OpenClaim := { program := "ytjfdjlinjghddaa", sum := "3dd6fb099af63061c6d64ee3a663cf4ae77833e0d39dbdb18c3b38635f5ffbd1", func := "penumbra/penumbralaw04.CachePlays", spec := "cachePlays", apart := false }
def CachePlaysSaid : Prop := cachePlaysRow.holds Try.pinned (OpenSpec.ofChange cachePlaysSpec)

/-- ITS FALSE NEIGHBOUR: 'it returns false'. Refute it at one input. -/
def cachePlaysWrong : ChangeSpec := { name := "cachePlays", fn := fun _ => fun
  | [d1, d2] => { results := [.lit (.bool false)], args := [d1, d2] }
  | _ => none }
def CachePlaysWrongFalsely : Prop := cachePlaysRow.holds Try.pinned (OpenSpec.ofChange cachePlaysWrong)

/-- 'penumbralaw04.CacheWays': WHATEVER THE INPUT: true; the input reads as it did. -/
def cacheWaysSpec : ChangeSpec := { name := "cacheWays", fn := fun _ => fun
  | [d1, d2] => { results := [.lit (.bool true)], args := [d1, d2] }
  | _ => none }
def cacheWaysRow : OpenClaim := { program := "ytjfdjlinjghddaa", sum := "3dd6fb099af63061c6d64ee3a663cf4ae77833e0d39dbdb18c3b38635f5ffbd1", func := "penumbra/penumbralaw04.CacheWays", spec := "cacheWays", apart := false }
def CacheWaysSaid : Prop := cacheWaysRow.holds Try.pinned (OpenSpec.ofChange cacheWaysSpec)

/-- ITS FALSE NEIGHBOUR: 'it returns false'. Refute it at one input. -/
def cacheWaysWrong : ChangeSpec := { name := "cacheWays", fn := fun _ => fun
  | [d1, d2] => { results := [.lit (.bool false)], args := [d1, d2] }
  | _ => none }
def CacheWaysWrongFalsely : Prop := cacheWaysRow.holds Try.pinned (OpenSpec.ofChange cacheWaysWrong)

/-- 'penumbralaw04.CacheClears': WHATEVER THE INPUT: true; the input reads as it did. -/
def cacheClearsSpec : ChangeSpec := { name := "cacheClears", fn := fun _ => fun
  | [d1, d2] => { results := [.lit (.bool true)], args := [d1, d2] }
  | _ => none }
def cacheClearsRow : OpenClaim := { program := "ytjfdjlinjghddaa", sum := "3dd6fb099af63061c6d64ee3a663cf4ae77833e0d39dbdb18c3b38635f5ffbd1", func := "penumbra/penumbralaw04.CacheClears", spec := "cacheClears", apart := false }
def CacheClearsSaid : Prop := cacheClearsRow.holds Try.pinned (OpenSpec.ofChange cacheClearsSpec)

/-- ITS FALSE NEIGHBOUR: 'it returns false'. Refute it at one input. -/
def cacheClearsWrong : ChangeSpec := { name := "cacheClears", fn := fun _ => fun
  | [d1, d2] => { results := [.lit (.bool false)], args := [d1, d2] }
  | _ => none }
def CacheClearsWrongFalsely : Prop := cacheClearsRow.holds Try.pinned (OpenSpec.ofChange cacheClearsWrong)

/- THE SECOND FORM. 'bulk': how many values and letters a reading holds, each counted each time it is reached (what is shared counts as often as it is met; a slice's spare places count too). A statement '..UptoSaid' is the law's where the arguments, and the package variables that the reading takes, are together of bulk at most 1048576: NARROWER than '..Said'. Prove '..Said' where nothing that the law and all that it calls make is longer than what came in: it says more and counts as full. Else prove '..UptoSaid'. A law counts once. -/
mutual
def uptoBulk {H : Type} : DataW H → Nat
  | .lit (.string bytes) => bytes.length + 1
  | .lit _ => 1
  | .nil => 1
  | .ptr d => uptoBulk d + 1
  | .slice elems spare => uptoBulkAll elems + uptoBulkAll spare + 1
  | .agg parts => uptoBulkAll parts + 1
  | .iface _ d => uptoBulk d + 1
  | .map entries => uptoBulkEntries entries + 1
  | .held _ => 1
def uptoBulkAll {H : Type} : List (DataW H) → Nat
  | [] => 0
  | d :: r => uptoBulk d + uptoBulkAll r
def uptoBulkEntries {H : Type} : List (Lit × DataW H) → Nat
  | [] => 0
  | x :: r => uptoBulkEntry x + uptoBulkEntries r
def uptoBulkEntry {H : Type} : Lit × DataW H → Nat
  | (.string bytes, d) => bytes.length + uptoBulk d + 1
  | (_, d) => uptoBulk d + 1
 end
def uptoSmall : (H : Type) → List (DataW H) → Bool := fun _ ds => decide (uptoBulkAll ds ≤ 1048576)
def OpenSpec.upto (s : _root_.Go.ChangeSpec) : _root_.Go.OpenSpec := { _root_.Go.OpenSpec.ofChange s with cond := some uptoSmall }

/-- 'penumbralaw04.CacheForms', WHERE WHAT IT READS IS OF BULK AT MOST 1048576: true; the input reads as it did. -/
def cacheFormsUptoRow : OpenClaim := { program := "ytjfdjlinjghddaa", sum := "3dd6fb099af63061c6d64ee3a663cf4ae77833e0d39dbdb18c3b38635f5ffbd1", func := "penumbra/penumbralaw04.CacheForms", spec := "cacheForms", apart := false, narrowed := true }
def CacheFormsUptoSaid : Prop := cacheFormsUptoRow.holds Try.pinned (OpenSpec.upto cacheFormsSpec)

/-- 'penumbralaw04.CacheApart', WHERE WHAT IT READS IS OF BULK AT MOST 1048576: true; the input reads as it did. -/
def cacheApartUptoRow : OpenClaim := { program := "ytjfdjlinjghddaa", sum := "3dd6fb099af63061c6d64ee3a663cf4ae77833e0d39dbdb18c3b38635f5ffbd1", func := "penumbra/penumbralaw04.CacheApart", spec := "cacheApart", apart := false, narrowed := true }
def CacheApartUptoSaid : Prop := cacheApartUptoRow.holds Try.pinned (OpenSpec.upto cacheApartSpec)

/-- 'penumbralaw04.CacheTags', WHERE WHAT IT READS IS OF BULK AT MOST 1048576: true; the input reads as it did. -/
def cacheTagsUptoRow : OpenClaim := { program := "ytjfdjlinjghddaa", sum := "3dd6fb099af63061c6d64ee3a663cf4ae77833e0d39dbdb18c3b38635f5ffbd1", func := "penumbra/penumbralaw04.CacheTags", spec := "cacheTags", apart := false, narrowed := true }
def CacheTagsUptoSaid : Prop := cacheTagsUptoRow.holds Try.pinned (OpenSpec.upto cacheTagsSpec)

/-- 'penumbralaw04.CachePlays', WHERE WHAT IT READS IS OF BULK AT MOST 1048576: true; the input reads as it did. -/
def cachePlaysUptoRow : OpenClaim := { program := "ytjfdjlinjghddaa", sum := "3dd6fb099af63061c6d64ee3a663cf4ae77833e0d39dbdb18c3b38635f5ffbd1", func := "penumbra/penumbralaw04.CachePlays", spec := "cachePlays", apart := false, narrowed := true }
def CachePlaysUptoSaid : Prop := cachePlaysUptoRow.holds Try.pinned (OpenSpec.upto cachePlaysSpec)

/-- 'penumbralaw04.CacheWays', WHERE WHAT IT READS IS OF BULK AT MOST 1048576: true; the input reads as it did. -/
def cacheWaysUptoRow : OpenClaim := { program := "ytjfdjlinjghddaa", sum := "3dd6fb099af63061c6d64ee3a663cf4ae77833e0d39dbdb18c3b38635f5ffbd1", func := "penumbra/penumbralaw04.CacheWays", spec := "cacheWays", apart := false, narrowed := true }
def CacheWaysUptoSaid : Prop := cacheWaysUptoRow.holds Try.pinned (OpenSpec.upto cacheWaysSpec)

/-- 'penumbralaw04.CacheClears', WHERE WHAT IT READS IS OF BULK AT MOST 1048576: true; the input reads as it did. -/
def cacheClearsUptoRow : OpenClaim := { program := "ytjfdjlinjghddaa", sum := "3dd6fb099af63061c6d64ee3a663cf4ae77833e0d39dbdb18c3b38635f5ffbd1", func := "penumbra/penumbralaw04.CacheClears", spec := "cacheClears", apart := false, narrowed := true }
def CacheClearsUptoSaid : Prop := cacheClearsUptoRow.holds Try.pinned (OpenSpec.upto cacheClearsSpec)

end Rows
end Go.Proofs.Ytjfdjlinjghddaa

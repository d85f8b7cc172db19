/-
  Words on caches and rows that more than one walk wants.
-/
import Derived.Test.YtjfdjlinjghddaaCacheG
import Derived.Test.YtjfdjlinjghddaaCacheH
import Derived.Test.YtjfdjlinjghddaaSlices
namespace Go.Proofs.Ytjfdjlinjghddaa
open Go.ChangeShapes Go.WideShapes Go.ChangeAt Go.RowKit

theorem CAt.oks {w : World} {b lo hi : Nat} {q : CQ} (h : CAt w b lo hi q) : (∀ i, SOK 4 2 (q.F i)) ∧ SOK 8 4 q.Sh := by
  obtain ⟨cf, cs, capf, caps, C, capC, h⟩ := h
  exact ⟨h.okF, h.okS⟩
end Go.Proofs.Ytjfdjlinjghddaa

/-
  The document's example of chapter 3.
-/
import Derived.Test.YtaofkedcdeocjaaPoolB
namespace Go.Proofs.Ytaofkedcdeocjaa
open Go.ChangeShapes Go.WideShapes Go.ChangeAt Go.RowKit

theorem least_fresh (n : Nat) (h : 15 < n) : Least (MS.fresh n) 15 := ⟨by omega, h, rfl, fun g h1 h2 => by omega⟩

theorem left_24 : ((MS.fresh (MS.many 24)).mark 15 2 0).left = 8 := by kernel_rfl
theorem least_24 : Least (MS.fresh (MS.many 24)) 15 := least_fresh _ (by decide)

end Go.Proofs.Ytaofkedcdeocjaa

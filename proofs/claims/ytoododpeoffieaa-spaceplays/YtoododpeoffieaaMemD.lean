/-
  What cloning a memory comes to.
-/
import Derived.Test.YtoododpeoffieaaMemC
import Derived.Lib.SlFresh
import Derived.WalkSpells
namespace Go.Proofs.Ytoododpeoffieaa
open Go.ChangeShapes Go.WideShapes Go.ChangeAt Go.RowKit

theorem MS.cell_one (s : MS) (i : Nat) : (s.cell i).oneCell' = true := by
  unfold MS.cell; split
  · rfl
  · split <;> rfl

end Go.Proofs.Ytoododpeoffieaa

/-
  regs: Address, Fault.
-/
import Derived.Test.YtfbmjagchjhddaaDoorRegD
namespace Go.Proofs.YtfbmjagchjhddaaDoor
open Go.ChangeShapes Go.WideShapes Go.ChangeAt Go.RowKit

theorem u64w (x : Int) : IntKind.u64.wrap x = x % 18446744073709551616 := by
  simp [IntKind.wrap, IntKind.signed, IntKind.bits]

end Go.Proofs.YtfbmjagchjhddaaDoor

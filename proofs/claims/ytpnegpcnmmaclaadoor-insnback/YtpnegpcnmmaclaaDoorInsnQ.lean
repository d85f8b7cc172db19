/-
  Rows of instructions in memory; the document's example (wakes).
-/
import Derived.Test.YtpnegpcnmmaclaaDoorInsnP
import Derived.Test.YtpnegpcnmmaclaaDoorInsnRow
import Derived.Deep.LoopGhost
namespace Go.Proofs.YtpnegpcnmmaclaaDoor
open Go.ChangeShapes Go.WideShapes Go.ChangeAt Go.RowKit

theorem parseV_some {s : List UInt8} {x : Ins} (h : parseP s = some x) : parseV s = .tuple #[insV x, .int .i64 0] := by unfold parseV; rw [h]
theorem parseV_none {s : List UInt8} (h : parseP s = none) : parseV s = .tuple #[insV ⟨0, 0, 0, 0⟩, .int .i64 2] := by unfold parseV; rw [h]

theorem wakes7 (w : World) (hV : Vs w) :
    Calls Tryd.prog 13 #[] w fun e w' => e = .returned (.bool true) ∧ Below w.heap.size w w' := by
  have hp : parseV [108, 111, 97, 100, 32, 114, 49, 32, 114, 50, 32, 53] = .tuple #[.agg #[.int .i64 3, .int .i64 1, .int .i64 2, .int .i64 5], .int .i64 0] := parseV_some (x := ⟨3, 1, 2, 5⟩) (by decide +kernel)
  go_enter Tryd.func13, Tryd.ntmps13
  go_wp2_with fail
  refine (parse_any _ (by decide) _ hV).mono ?_
  rintro e w1 ⟨rfl, b1⟩
  rw [hp]
  go_wp2_with fail
  go_ret
  exact ⟨rfl, b1.alloc b1.size _⟩

end Go.Proofs.YtpnegpcnmmaclaaDoor

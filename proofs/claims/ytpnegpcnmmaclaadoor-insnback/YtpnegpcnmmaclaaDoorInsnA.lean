/-
  insn: Check.
-/
import Derived.Test.YtpnegpcnmmaclaaDoorInsnL
import Derived.Test.YtpnegpcnmmaclaaDoorInsnCk
namespace Go.Proofs.YtpnegpcnmmaclaaDoor
open Go.ChangeShapes Go.WideShapes Go.ChangeAt Go.RowKit

theorem check_any (x : Ins) (w : World) (hV : Vs w) :
    Calls Tryd.prog 27 #[insV x] w fun e w' => e = .returned (.int .i64 (if okP x then 0 else 1)) ∧ Below w.heap.size w w' := check_sh x w hV.toSh
end Go.Proofs.YtpnegpcnmmaclaaDoor

/-
  From the rows' condition on the listed variables to 'Vs'.
-/
import Derived.Test.YtpnegpcnmmaclaaDoorRows
import Derived.Test.YtpnegpcnmmaclaaDoorInsnL
import Derived.Test.YtpnegpcnmmaclaaDoorRegV
import Derived.Stop.LaidErr
import Derived.OpenShut
import Derived.ProofKit
import Derived.LaidMore
import Derived.Stop.Joined
namespace Go.Proofs.YtpnegpcnmmaclaaDoor
open Go.ChangeShapes Go.WideShapes Go.ChangeAt Go.RowKit

theorem c58 : Tryd.prog.cellsOf 62 = 10 := by kernel_rfl
theorem list10 {l : List Value} {v0 v1 v2 v3 v4 v5 v6 v7 v8 v9 : Value} (h : l.length = 10) (h0 : (l.drop (0 * 1)).take 1 = [v0]) (h1 : (l.drop (1 * 1)).take 1 = [v1]) (h2 : (l.drop (2 * 1)).take 1 = [v2]) (h3 : (l.drop (3 * 1)).take 1 = [v3]) (h4 : (l.drop (4 * 1)).take 1 = [v4])
    (h5 : (l.drop (5 * 1)).take 1 = [v5]) (h6 : (l.drop (6 * 1)).take 1 = [v6]) (h7 : (l.drop (7 * 1)).take 1 = [v7]) (h8 : (l.drop (8 * 1)).take 1 = [v8]) (h9 : (l.drop (9 * 1)).take 1 = [v9]) : l = [v0, v1, v2, v3, v4, v5, v6, v7, v8, v9] := by
  match l, h with
  | [a, b, c, d, e, f, g, i, j, k], _ => simp_all
theorem calls_of_trod {w : World} {fuel : Nat} {cs : List Value} {p : List MemPlace} (h : DataW.trod (fun _ => ()) Tryd.prog w 0 (fun _ => true) false fuel 62 cs = some (Rows.laid_penumbra_insn_calls, p)) : cs = callCells.toList := by
  obtain ⟨xs, m, rfl, hx, hl, hn, hel⟩ := DataW.trod_array Tryd.underlying62 h
  rw [c58] at hl
  simp only [c9] at hel
  match xs, hn, hx, hel with
  | [y0, y1, y2, y3, y4, y5, y6, y7, y8, y9], _, hx, hel =>
    rw [list10 hl (lit_string (hel 0 (by omega))) (lit_string (hel 1 (by omega))) (lit_string (hel 2 (by omega))) (lit_string (hel 3 (by omega))) (lit_string (hel 4 (by omega))) (lit_string (hel 5 (by omega))) (lit_string (hel 6 (by omega))) (lit_string (hel 7 (by omega))) (lit_string (hel 8 (by omega))) (lit_string (hel 9 (by omega)))]
    simp only [Rows.laid_penumbra_insn_calls, List.map_cons, List.map_nil, Prod.mk.injEq, DataW.agg.injEq, List.cons.injEq, and_true] at hx
    obtain ⟨⟨e0, e1, e2, e3, e4, e5, e6, e7, e8, e9⟩, _⟩ := hx
    rw [← e0, ← e1, ← e2, ← e3, ← e4, ← e5, ← e6, ← e7, ← e8, ← e9]
    rfl

/-! ### The rows' list -/
def laidL : List (String × DataW Unit) := [("math/bits.deBruijn32tab", Rows.laid_math_bits_deBruijn32tab), ("math/bits.deBruijn64tab", Rows.laid_math_bits_deBruijn64tab), ("internal/strconv.uint64pow10", Rows.laid_internal_strconv_uint64pow10), ("strconv.ErrRange", Rows.laid_strconv_ErrRange), ("strconv.ErrSyntax", Rows.laid_strconv_ErrSyntax), ("penumbra/insn.shapes", Rows.laid_penumbra_insn_shapes), ("penumbra/insn.calls", Rows.laid_penumbra_insn_calls)]
theorem gES : Tryd.prog.globalNamed "strconv.ErrSyntax" = some 4 := by kernel_rfl
theorem gER : Tryd.prog.globalNamed "strconv.ErrRange" = some 5 := by kernel_rfl
theorem gCl : Tryd.prog.globalNamed "penumbra/insn.calls" = some 1 := by kernel_rfl
theorem tES : (Tryd.prog.globals[4]?).map (·.type) = some 72 := by kernel_rfl
theorem tER : (Tryd.prog.globals[5]?).map (·.type) = some 72 := by kernel_rfl
theorem tCl : (Tryd.prog.globals[1]?).map (·.type) = some 62 := by kernel_rfl
theorem tPow : (Tryd.prog.globals[3]?).map (·.type) = some 98 := by kernel_rfl
theorem star : "*" ++ "errors.errorString" = "*errors.errorString" := by decide
theorem rowES (u : TypeId) (h : Tryd.prog.typeName? 3 u = some "*errors.errorString") : u = 112 :=
  typeName_ptr_named (nm := "errors.errorString") (by rw [star]; kernel_rfl) (by kernel_rfl) (by decide) u (by rw [star]; exact h)

theorem vs_of_laid {W : World} (h0 : laidMetH Tryd.prog laidL W) : Vs W := by
  rw [MakeChecks.laidMetH_plain _ _ _ (by kernel_rfl)] at h0
  have h2 := h0.tail.tail
  have hT : Lib.TabIs Tryd.prog W "internal/strconv.uint64pow10" .u64 Lib.pow10Tab :=
    Lib.tabIs_of_head (n := 20) gPow tPow Tryd.underlying98 Tryd.underlying81 (by kernel_rfl) (by kernel_rfl) h2
  have h3 := h2.tail
  obtain ⟨a0, s0, hv0, -, -, -⟩ := laid_sentinel h3 gER tER Tryd.underlying72 rowES Tryd.underlying112 Tryd.underlying114 rfl rfl Tryd.underlying9 (by kernel_rfl) (by kernel_rfl)
  have h4 := h3.tail
  obtain ⟨a1, s1, hv1, -, -, -⟩ := laid_sentinel h4 gES tES Tryd.underlying72 rowES Tryd.underlying112 Tryd.underlying114 rfl rfl Tryd.underlying9 (by kernel_rfl) (by kernel_rfl)
  obtain ⟨ps, ⟨g0, t0, cs0, f0, p0, q0, hg0, ht0, hv0', hd0, ⟨g1, t1, cs1, f1, p1, q1, hg1, ht1, hv1', hd1, _, _⟩, _⟩, _, _⟩ := h4.tail
  obtain rfl := Option.some.inj (gSh.symm.trans hg0)
  obtain rfl := Option.some.inj (tSh.symm.trans ht0)
  obtain rfl := Option.some.inj (gCl.symm.trans hg1)
  obtain rfl := Option.some.inj (tCl.symm.trans ht1)
  have e0 := shapes_of_trod hd0
  have e1 := calls_of_trod hd1
  obtain ⟨ta, fa, ha⟩ := heap_of_var gSh hv0'
  obtain ⟨tb, fb, hb⟩ := heap_of_var gCl hv1'
  obtain rfl : cs0 = shapeCells := Array.toList_inj.1 e0
  obtain rfl : cs1 = callCells := Array.toList_inj.1 e1
  exact ⟨⟨_, _, ha⟩, ⟨_, _, hb⟩, hT, ⟨_, _, by have := World.var?_cell gES hv1 0; simpa using this⟩, ⟨_, _, by have := World.var?_cell gER hv0 0; simpa using this⟩⟩

/-- The heap that the door's own run leaves meets the condition. -/
theorem door_met (os : Os) (args : Array Value) : laidMetH Tryd.prog laidL ((World.doorLaid Tryd.prog 400 os).forCall (fun _ _ => 0) ⟨#[], args, []⟩).memory :=
  laidMetH_of_parts3 (fuel := 8) (laidMet_of_run' 8 (by kernel_rfl) (by kernel_rfl)) (by kernel_rfl) (by kernel_rfl)
end Go.Proofs.YtpnegpcnmmaclaaDoor

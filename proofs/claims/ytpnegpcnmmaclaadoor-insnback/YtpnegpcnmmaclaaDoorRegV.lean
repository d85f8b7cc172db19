/-
  From the rows' condition on insn's table of ops to 'Sh'.
-/
import Derived.Test.YtpnegpcnmmaclaaDoorRows
import Derived.Test.YtpnegpcnmmaclaaDoorInsnSh
import Derived.OpenShut
import Derived.ProofKit
import Derived.LaidMore
import Derived.Stop.Joined
namespace Go.Proofs.YtpnegpcnmmaclaaDoor
open Go.ChangeShapes Go.WideShapes Go.ChangeAt Go.RowKit

section
variable {H : Type} {enc : TypeId × Value → H} {w : World} {base : Nat} {spare : Nat → Bool} {held : Bool} {fuel : Nat}
/-- What a literal reads as, as a value. -/
def litV : DataW H → Value
  | .lit (.string s) => .string ⟨s.toArray⟩
  | .lit (.bool b) => .bool b
  | .lit (.int k n) => .int k n
  | _ => undef
theorem lit_string {l : List Value} {x : DataW H × List MemPlace} (h : DataW.trod enc Tryd.prog w base spare held fuel 9 l = some x) : l = [litV x.1] := by
  obtain ⟨s, rfl, rfl, _⟩ := DataW.trod_string Tryd.underlying9 h
  simp [litV]
theorem lit_bool {l : List Value} {x : DataW H × List MemPlace} (h : DataW.trod enc Tryd.prog w base spare held fuel 4 l = some x) : l = [litV x.1] := by
  obtain ⟨b, rfl, rfl⟩ := DataW.trod_bool Tryd.underlying4 h
  simp [litV]
theorem lit_int {l : List Value} {x : DataW H × List MemPlace} (h : DataW.trod enc Tryd.prog w base spare held fuel 3 l = some x) : l = [litV x.1] := by
  obtain ⟨n, rfl, rfl, _⟩ := DataW.trod_int Tryd.underlying3 h
  simp [litV]
theorem c9 : Tryd.prog.cellsOf 9 = 1 := by kernel_rfl
theorem c4 : Tryd.prog.cellsOf 4 = 1 := by kernel_rfl
theorem c3 : Tryd.prog.cellsOf 3 = 1 := by kernel_rfl
theorem c55 : Tryd.prog.cellsOf 60 = 5 := by kernel_rfl
theorem c56 : Tryd.prog.cellsOf 61 = 40 := by kernel_rfl

/-- Single cells, put together. -/
theorem list5 {l : List Value} {v0 v1 v2 v3 v4 : Value} (h : l.length = 5) (h0 : (l.drop 0).take 1 = [v0]) (h1 : (l.drop 1).take 1 = [v1]) (h2 : (l.drop 2).take 1 = [v2]) (h3 : (l.drop 3).take 1 = [v3]) (h4 : (l.drop 4).take 1 = [v4]) : l = [v0, v1, v2, v3, v4] := by
  match l, h with
  | [a, b, c, d, e], _ => simp_all
theorem row_of_trod {cs : List Value} {x : DataW H × List MemPlace} (h : DataW.trod enc Tryd.prog w base spare held fuel 60 cs = some x) :
    ∃ d0 d1 d2 d3 d4, x.1 = .agg [d0, d1, d2, d3, d4] ∧ cs = [litV d0, litV d1, litV d2, litV d3, litV d4] := by
  obtain ⟨xs, n, rfl, rfl, hl, hx, hf⟩ := DataW.trod_struct Tryd.underlying60 h
  rw [c55] at hl
  match xs, hx, hf with
  | [y0, y1, y2, y3, y4], _, hf =>
    have f0 : DataW.trod enc Tryd.prog w base spare held n 9 ((cs.drop 0).take (Tryd.prog.cellsOf 9)) = some y0 := (hf 0 _ rfl :)
    have f1 : DataW.trod enc Tryd.prog w base spare held n 4 ((cs.drop 1).take (Tryd.prog.cellsOf 4)) = some y1 := (hf 1 _ rfl :)
    have f2 : DataW.trod enc Tryd.prog w base spare held n 4 ((cs.drop 2).take (Tryd.prog.cellsOf 4)) = some y2 := (hf 2 _ rfl :)
    have f3 : DataW.trod enc Tryd.prog w base spare held n 3 ((cs.drop 3).take (Tryd.prog.cellsOf 3)) = some y3 := (hf 3 _ rfl :)
    have f4 : DataW.trod enc Tryd.prog w base spare held n 3 ((cs.drop 4).take (Tryd.prog.cellsOf 3)) = some y4 := (hf 4 _ rfl :)
    rw [c9] at f0; rw [c4] at f1 f2; rw [c3] at f3 f4
    exact ⟨y0.1, y1.1, y2.1, y3.1, y4.1, rfl, list5 hl (lit_string f0) (lit_bool f1) (lit_bool f2) (lit_int f3) (lit_int f4)⟩
end

theorem list8 {cs s0 s1 s2 s3 s4 s5 s6 s7 : List Value} (hl : cs.length = 40) (h0 : (cs.drop (0 * 5)).take 5 = s0) (h1 : (cs.drop (1 * 5)).take 5 = s1) (h2 : (cs.drop (2 * 5)).take 5 = s2) (h3 : (cs.drop (3 * 5)).take 5 = s3)
    (h4 : (cs.drop (4 * 5)).take 5 = s4) (h5 : (cs.drop (5 * 5)).take 5 = s5) (h6 : (cs.drop (6 * 5)).take 5 = s6) (h7 : (cs.drop (7 * 5)).take 5 = s7) : cs = s0 ++ s1 ++ s2 ++ s3 ++ s4 ++ s5 ++ s6 ++ s7 := by
  subst h0 h1 h2 h3 h4 h5 h6 h7
  have e : ∀ k, cs.drop k = (cs.drop k).take 5 ++ cs.drop (k + 5) := fun k => by rw [← List.drop_drop]; exact (List.take_append_drop 5 (cs.drop k)).symm
  have z : cs.drop 40 = [] := List.drop_eq_nil_of_le (by omega)
  have a0 := e 0; have a1 := e 5; have a2 := e 10; have a3 := e 15; have a4 := e 20; have a5 := e 25; have a6 := e 30; have a7 := e 35
  rw [z] at a7
  simp only [List.drop_zero, Nat.zero_add, List.append_nil] at a0 a1 a2 a3 a4 a5 a6 a7
  simp only [Nat.zero_mul, Nat.one_mul, Nat.reduceMul, List.drop_zero, List.append_assoc]
  rw [← a7, ← a6, ← a5, ← a4, ← a3, ← a2, ← a1, ← a0]

theorem shapes_of_trod {w : World} {fuel : Nat} {cs : List Value} {p : List MemPlace} (h : DataW.trod (fun _ => ()) Tryd.prog w 0 (fun _ => true) false fuel 61 cs = some (Rows.laid_penumbra_insn_shapes, p)) : cs = shapeCells.toList := by
  obtain ⟨xs, m, rfl, hx, hl, hn, hel⟩ := DataW.trod_array Tryd.underlying61 h
  rw [c56] at hl
  simp only [c55] at hel
  match xs, hn, hx, hel with
  | [y0, y1, y2, y3, y4, y5, y6, y7], _, hx, hel =>
    obtain ⟨a0, b0, e0, d0, g0, k0, r0⟩ := row_of_trod (hel 0 (by omega))
    obtain ⟨a1, b1, e1, d1, g1, k1, r1⟩ := row_of_trod (hel 1 (by omega))
    obtain ⟨a2, b2, e2, d2, g2, k2, r2⟩ := row_of_trod (hel 2 (by omega))
    obtain ⟨a3, b3, e3, d3, g3, k3, r3⟩ := row_of_trod (hel 3 (by omega))
    obtain ⟨a4, b4, e4, d4, g4, k4, r4⟩ := row_of_trod (hel 4 (by omega))
    obtain ⟨a5, b5, e5, d5, g5, k5, r5⟩ := row_of_trod (hel 5 (by omega))
    obtain ⟨a6, b6, e6, d6, g6, k6, r6⟩ := row_of_trod (hel 6 (by omega))
    obtain ⟨a7, b7, e7, d7, g7, k7, r7⟩ := row_of_trod (hel 7 (by omega))
    rw [list8 hl r0 r1 r2 r3 r4 r5 r6 r7]
    simp only [Rows.laid_penumbra_insn_shapes, List.map_cons, List.map_nil, k0, k1, k2, k3, k4, k5, k6, k7, Prod.mk.injEq, DataW.agg.injEq, List.cons.injEq, and_true] at hx
    obtain ⟨⟨⟨rfl, rfl, rfl, rfl, rfl⟩, ⟨rfl, rfl, rfl, rfl, rfl⟩, ⟨rfl, rfl, rfl, rfl, rfl⟩, ⟨rfl, rfl, rfl, rfl, rfl⟩, ⟨rfl, rfl, rfl, rfl, rfl⟩, ⟨rfl, rfl, rfl, rfl, rfl⟩, ⟨rfl, rfl, rfl, rfl, rfl⟩, ⟨rfl, rfl, rfl, rfl, rfl⟩⟩, _⟩ := hx
    rfl

theorem gSh : Tryd.prog.globalNamed "penumbra/insn.shapes" = some 0 := by kernel_rfl
theorem tSh : (Tryd.prog.globals[0]?).map (·.type) = some 61 := by kernel_rfl
theorem heap_of_var {P : Program} {w : World} {n : String} {g : Nat} {cs : Array Value} (hg : P.globalNamed n = some g) (h : w.var? P n = some cs) : ∃ t fr, w.heap[g]? = some (.cells cs t fr) := by
  simp only [World.var?, hg, Option.bind_some] at h
  cases hb : w.heap[g]? with
  | none => rw [hb] at h; cases h
  | some o =>
    rw [hb] at h
    cases o <;> simp at h
    rename_i cs' t fr
    subst h
    exact ⟨_, _, rfl⟩

/-! ### The rows' list -/
def laidS : List (String × DataW Unit) := [("penumbra/insn.shapes", Rows.laid_penumbra_insn_shapes)]
theorem sh_of_laid {W : World} (h0 : laidMetH Tryd.prog laidS W) : Sh W := by
  rw [MakeChecks.laidMetH_plain _ _ _ (by kernel_rfl)] at h0
  obtain ⟨ps, ⟨g0, t0, cs0, f0, p0, q0, hg0, ht0, hv0', hd0, _, _⟩, _, _⟩ := h0
  obtain rfl := Option.some.inj (gSh.symm.trans hg0)
  obtain rfl := Option.some.inj (tSh.symm.trans ht0)
  have e0 := shapes_of_trod hd0
  obtain ⟨ta, fa, ha⟩ := heap_of_var gSh hv0'
  obtain rfl : cs0 = shapeCells := Array.toList_inj.1 e0
  exact ⟨⟨_, _, ha⟩⟩
theorem ownK : ownKnob Tryd.prog.godebug = none := by kernel_rfl
theorem laidOut : laidOutB Tryd.prog = true := by kernel_rfl
theorem doorS_met (os : Os) (args : Array Value) : laidMetH Tryd.prog laidS ((World.doorLaid Tryd.prog 400 os).forCall (fun _ _ => 0) ⟨#[], args, []⟩).memory :=
  laidMetH_of_parts3 (fuel := 8) (laidMet_of_run' 8 (by kernel_rfl) (by kernel_rfl)) (by kernel_rfl) (by kernel_rfl)
end Go.Proofs.YtpnegpcnmmaclaaDoor

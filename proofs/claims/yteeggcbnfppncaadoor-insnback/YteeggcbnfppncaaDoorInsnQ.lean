/-
  Rows of instructions in memory; the document's example (wakes).
-/
import Derived.Test.YteeggcbnfppncaaDoorInsnP
import Derived.Deep.LoopGhost
namespace Go.Proofs.YteeggcbnfppncaaDoor
open Go.ChangeShapes Go.WideShapes Go.ChangeAt Go.RowKit

theorem parseV_some {s : List UInt8} {x : Ins} (h : parseP s = some x) : parseV s = .tuple #[insV x, .int .i64 0] := by unfold parseV; rw [h]
theorem parseV_none {s : List UInt8} (h : parseP s = none) : parseV s = .tuple #[insV ⟨0, 0, 0, 0⟩, .int .i64 2] := by unfold parseV; rw [h]

theorem wakes7 (w : World) (hV : Vs w) :
    Calls Tryd.prog 12 #[] w fun e w' => e = .returned (.bool true) ∧ Below w.heap.size w w' := by
  have hp : parseV [108, 111, 97, 100, 32, 114, 49, 32, 114, 50, 32, 53] = .tuple #[.agg #[.int .i64 3, .int .i64 1, .int .i64 2, .int .i64 5], .int .i64 0] := parseV_some (x := ⟨3, 1, 2, 5⟩) (by decide +kernel)
  go_enter Tryd.func12, Tryd.ntmps12
  go_wp2_with fail
  refine (parse_any _ (by decide) _ hV).mono ?_
  rintro e w1 ⟨rfl, b1⟩
  rw [hp]
  go_wp2_with fail
  go_ret
  exact ⟨rfl, b1.alloc b1.size _⟩

/-- An instruction's cells. -/
def Ins.vs (x : Ins) : List Value := [.int .i64 x.op, .int .i64 x.a, .int .i64 x.b, .int .i64 x.n]
def flatI (l : List Ins) : List Value := l.flatMap Ins.vs
theorem flatI_len (l : List Ins) : (flatI l).length = l.length * 4 := by
  induction l with
  | nil => rfl
  | cons x l ih => simp [flatI, Ins.vs] at ih ⊢; omega
theorem flatI_at : ∀ (l : List Ins) (i j : Nat) (x : Ins) (v : Value), l[i]? = some x → x.vs[j]? = some v → (flatI l)[i * 4 + j]? = some v
  | [], i, j, x, v, h, _ => by simp at h
  | y :: l, 0, j, x, v, h, hv => by
    simp at h; subst h
    have hj : j < 4 := (List.getElem?_eq_some_iff.1 hv).1
    show (y.vs ++ flatI l)[0 * 4 + j]? = _
    rw [List.getElem?_append_left (by simp [Ins.vs]; omega)]; simpa using hv
  | y :: l, i + 1, j, x, v, h, hv => by
    show (y.vs ++ flatI l)[(i + 1) * 4 + j]? = _
    rw [List.getElem?_append_right (by simp [Ins.vs]; omega)]
    have := flatI_at l i j x v (by simpa using h) hv
    rw [show (i + 1) * 4 + j - y.vs.length = i * 4 + j by simp [Ins.vs]; omega]; exact this
/-- The block g begins with these instructions. -/
def IRow (w : World) (g : Nat) (l : List Ins) : Prop := ∃ cur e fr, w.heap[g]? = some (.cells cur e fr) ∧ ∀ (i : Nat) (v : Value), (flatI l)[i]? = some v → cur[i]? = some v
theorem IRow.lt {w : World} {g : Nat} {l : List Ins} (h : IRow w g l) : g < w.heap.size := by obtain ⟨_, _, _, h, _⟩ := h; exact lt_of_block h
theorem IRow.later {w w' : World} {g : Nat} {l : List Ins} (h : IRow w g l) (b : Below w.heap.size w w') : IRow w' g l := by
  have hl := h.lt
  obtain ⟨c, e, f, h1, h2⟩ := h
  exact ⟨c, e, f, (b.block g hl).trans h1, h2⟩
theorem IRow.lit (w : World) (cur : Array Value) (e : TypeId) (l : List Ins) (h : cur.toList = flatI l) : IRow (w.alloc (.cells cur e)) w.heap.size l :=
  ⟨cur, e, (0, 0), heap_alloc_new w _, fun i v hv => by rw [← h] at hv; simpa using hv⟩
theorem IRow.four {w : World} {g : Nat} {l : List Ins} (h : IRow w g l) {i : Nat} {x : Ins} (hx : l[i]? = some x) :
    w.cell? ⟨g, i * 4, none⟩ = some (.int .i64 x.op) ∧ w.cell? ⟨g, i * 4 + 1, none⟩ = some (.int .i64 x.a) ∧ w.cell? ⟨g, i * 4 + 2, none⟩ = some (.int .i64 x.b) ∧ w.cell? ⟨g, i * 4 + 3, none⟩ = some (.int .i64 x.n) := by
  obtain ⟨c, e, f, h1, h2⟩ := h
  have hc : ∀ j v, x.vs[j]? = some v → w.cell? ⟨g, i * 4 + j, none⟩ = some v := fun j v hj => by
    have := h2 _ _ (flatI_at l i j x v hx hj)
    simp [World.cell?, h1, this]
  exact ⟨hc 0 _ rfl, hc 1 _ rfl, hc 2 _ rfl, hc 3 _ rfl⟩
end Go.Proofs.YteeggcbnfppncaaDoor

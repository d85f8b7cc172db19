/-
  Rows of cells; Parse of a list of bytes; Within, in words of 'Below'.
-/
import Derived.Test.YtpnegpcnmmaclaaDoorInsnQ
namespace Go.Proofs.YtpnegpcnmmaclaaDoor
open Go.ChangeShapes Go.WideShapes Go.ChangeAt Go.RowKit

/-- Rows of cells in a block. -/
def CRow (w : World) (g : Nat) (rows : List (List Value)) : Prop := ∃ cur e fr, w.heap[g]? = some (.cells cur e fr) ∧ ∀ (i : Nat) (v : Value), rows.flatten[i]? = some v → cur[i]? = some v
theorem CRow.lt {w : World} {g : Nat} {l : List (List Value)} (h : CRow w g l) : g < w.heap.size := by obtain ⟨_, _, _, h, _⟩ := h; exact lt_of_block h
theorem CRow.later {w w' : World} {g : Nat} {l : List (List Value)} (h : CRow w g l) (b : Below w.heap.size w w') : CRow w' g l := by
  have hl := h.lt
  obtain ⟨c, e, f, h1, h2⟩ := h
  exact ⟨c, e, f, (b.block g hl).trans h1, h2⟩
theorem CRow.lit (w : World) (cur : Array Value) (e : TypeId) (l : List (List Value)) (h : cur.toList = l.flatten) : CRow (w.alloc (.cells cur e)) w.heap.size l :=
  ⟨cur, e, (0, 0), heap_alloc_new w _, fun i v hv => by rw [← h] at hv; simpa using hv⟩
theorem flatten_at (n : Nat) : ∀ (l : List (List Value)) (_ : ∀ r ∈ l, r.length = n) (i j : Nat) (r : List Value) (v : Value), l[i]? = some r → r[j]? = some v → l.flatten[i * n + j]? = some v
  | [], _, i, j, r, v, h, _ => by simp at h
  | y :: l, hl, 0, j, r, v, h, hv => by
    simp at h; subst h
    have hj : j < y.length := (List.getElem?_eq_some_iff.1 hv).1
    rw [List.flatten_cons, Nat.zero_mul, Nat.zero_add, List.getElem?_append_left hj]; exact hv
  | y :: l, hl, i + 1, j, r, v, h, hv => by
    have hy := hl y (List.mem_cons_self ..)
    rw [List.flatten_cons, List.getElem?_append_right (by rw [hy, Nat.succ_mul]; omega)]
    have := flatten_at n l (fun r hr => hl r (List.mem_cons_of_mem _ hr)) i j r v (by simpa using h) hv
    rw [show (i + 1) * n + j - y.length = i * n + j by rw [hy, Nat.succ_mul]; omega]; exact this
theorem CRow.at {w : World} {g n : Nat} {l : List (List Value)} (h : CRow w g l) (hl : ∀ r ∈ l, r.length = n) {i j : Nat} {r : List Value} {v : Value} (hr : l[i]? = some r) (hv : r[j]? = some v) : w.cell? ⟨g, i * n + j, none⟩ = some v := by
  obtain ⟨c, e, f, h1, h2⟩ := h
  have := h2 _ _ (flatten_at n l hl i j r v hr hv)
  simp [World.cell?, h1, this]

theorem within_below (v n : Int) (w : World) (h1 : 1 ≤ n) (h2 : n ≤ 1099511627776) :
    Calls Tryd.prog 16 #[.int .i64 v, .int .i64 n] w fun e w' => e = .returned (.int .i64 (v % n)) ∧ Below w.heap.size w w' := by
  refine (within_any v n w h1 h2).mono ?_
  rintro e wx ⟨rfl, rfl⟩
  exact ⟨rfl, Below.refl _ _⟩
theorem parse_l (l : List UInt8) (hs : l.length ≤ 1000000) (w : World) (hV : Vs w) :
    Calls Tryd.prog 11 #[.string ⟨l.toArray⟩] w fun e w' => e = .returned (parseV l) ∧ Below w.heap.size w w' := by
  have := parse_any ⟨l.toArray⟩ (by show l.toArray.size ≤ _; simpa using hs) w hV
  simpa using this
theorem five_cells {w w1 : World} {v0 v1 v2 v3 v4 : Value} {t : TypeId} (b1 : Below (w.alloc (.cells #[v0, v1, v2, v3, v4] t)).heap.size (w.alloc (.cells #[v0, v1, v2, v3, v4] t)) w1) :
    w1.cell? ⟨w.heap.size, 0, none⟩ = some v0 ∧ w1.cell? ⟨w.heap.size, 1, none⟩ = some v1 ∧ w1.cell? ⟨w.heap.size, 2, none⟩ = some v2 ∧ w1.cell? ⟨w.heap.size, 3, none⟩ = some v3 ∧ w1.cell? ⟨w.heap.size, 4, none⟩ = some v4 ∧ w.heap.size < w1.heap.size := by
  have hs : w.heap.size < (w.alloc (.cells #[v0, v1, v2, v3, v4] t)).heap.size := by simp
  have hc := fun i => b1.cell (p := ⟨w.heap.size, i, none⟩) hs
  refine ⟨(hc 0).trans ?_, (hc 1).trans ?_, (hc 2).trans ?_, (hc 3).trans ?_, (hc 4).trans ?_, Nat.lt_of_lt_of_le hs b1.size⟩ <;> simp [go_sem]
end Go.Proofs.YtpnegpcnmmaclaaDoor

/-
  regs: Done.
-/
import Derived.Test.YtfbmjagchjhddaaDoorRegE
namespace Go.Proofs.YtfbmjagchjhddaaDoor
open Go.ChangeShapes Go.WideShapes Go.ChangeAt Go.RowKit

/-- A state, an instruction, ten new cells. -/
abbrev dBox (w : World) (s : RS) (x : Ins) (a : Option Addr) (n c : Nat) : World := ((w.alloc (.cells #[.int .u64 (s.r 0), .int .u64 (s.r 1), .int .u64 (s.r 2), .int .u64 (s.r 3), .int .u64 (s.r 4), .int .u64 (s.r 5), .int .u64 (s.r 6), .int .u64 (s.r 7), .slice a n c, .int .i64 s.pc] 45)).alloc (.cells #[.int .i64 x.op, .int .i64 x.a, .int .i64 x.b, .int .i64 x.n] 32)).alloc (.cells zCells 45)
theorem dBox_below (w : World) (s : RS) (x : Ins) (a : Option Addr) (n c : Nat) : Below w.heap.size w (dBox w s x a n c) := (((Below.refl _ w).alloc (Nat.le_refl _) _).alloc (by simp) _).alloc (by simp; omega) _
theorem dBox_size (w : World) (s : RS) (x : Ins) (a : Option Addr) (n c : Nat) : (dBox w s x a n c).heap.size = w.heap.size + 3 := by simp
theorem dBox_at (w : World) (s : RS) (x : Ins) (a : Option Addr) (n c : Nat) :
    (dBox w s x a n c).heap[w.heap.size]? = some (.cells #[.int .u64 (s.r 0), .int .u64 (s.r 1), .int .u64 (s.r 2), .int .u64 (s.r 3), .int .u64 (s.r 4), .int .u64 (s.r 5), .int .u64 (s.r 6), .int .u64 (s.r 7), .slice a n c, .int .i64 s.pc] 45 (0, 0)) ∧
    (dBox w s x a n c).heap[w.heap.size + 1]? = some (.cells #[.int .i64 x.op, .int .i64 x.a, .int .i64 x.b, .int .i64 x.n] 32 (0, 0)) ∧
    (dBox w s x a n c).heap[w.heap.size + 2]? = some (.cells zCells 45 (0, 0)) := by
  refine ⟨?_, ?_, ?_⟩
  · exact (Below.heap_alloc _ _ _ (by simp; omega)).trans ((Below.heap_alloc _ _ _ (by simp)).trans (heap_alloc_new w _))
  · have := heap_alloc_new (w.alloc (.cells #[.int .u64 (s.r 0), .int .u64 (s.r 1), .int .u64 (s.r 2), .int .u64 (s.r 3), .int .u64 (s.r 4), .int .u64 (s.r 5), .int .u64 (s.r 6), .int .u64 (s.r 7), .slice a n c, .int .i64 s.pc] 45)) (.cells #[.int .i64 x.op, .int .i64 x.a, .int .i64 x.b, .int .i64 x.n] 32)
    rw [World.size_alloc] at this
    exact (Below.heap_alloc _ _ _ (by simp)).trans this
  · have := heap_alloc_new ((w.alloc (.cells #[.int .u64 (s.r 0), .int .u64 (s.r 1), .int .u64 (s.r 2), .int .u64 (s.r 3), .int .u64 (s.r 4), .int .u64 (s.r 5), .int .u64 (s.r 6), .int .u64 (s.r 7), .slice a n c, .int .i64 s.pc] 45)).alloc (.cells #[.int .i64 x.op, .int .i64 x.a, .int .i64 x.b, .int .i64 x.n] 32)) (.cells zCells 45)
    rw [World.size_alloc, World.size_alloc] at this
    exact this
theorem put10_block {w : World} {B g : Nat} {s : RS} {a : Option Addr} {n c : Nat} (h : g ≠ B) : (put10 w B s a n c).heap[g]? = w.heap[g]? := by
  unfold put10
  repeat (rw [Below.heap_setCell _ _ _ _ h])
theorem put10_size {w : World} {B : Nat} {s : RS} {a : Option Addr} {n c : Nat} : (put10 w B s a n c).heap.size = w.heap.size := by
  simp [World.size_setCell]

end Go.Proofs.YtfbmjagchjhddaaDoor

/-
  Package sched: what is no process, no CPU (plain); literal lists.
-/
import Derived.Test.YtlhppmhacdoilaaSchD
namespace Go.Proofs.Ytlhppmhacdoilaa
open Go.ChangeShapes Go.WideShapes Go.ChangeAt Go.RowKit

namespace Sd
theorem isP_out (p : Int) (h : p < 0 ∨ 4 ≤ p) : isP p = false := by rw [Bool.eq_false_iff, Ne, isP_iff]; omega
theorem hasC_out (s : Sd) (c : Int) (h : c < 0 ∨ 2 ≤ c) : s.hasC c = false := by rw [Bool.eq_false_iff, Ne, hasC_iff]; have := s.c_le; omega
theorem wakes_out (s : Sd) (p : Int) (h : p < 0 ∨ 4 ≤ p) : s.wakes p = false := by unfold wakes; rw [isP_out p h]; rfl
theorem wake_out (s : Sd) (p : Int) (h : p < 0 ∨ 4 ≤ p) : s.wake p = s := by unfold wake; rw [wakes_out s p h]; rfl
theorem lives_out (s : Sd) (p : Int) (h : p < 0 ∨ 4 ≤ p) : s.lives p = false := by unfold lives; rw [isP_out p h]; rfl
theorem fin_out (s : Sd) (p : Int) (h : p < 0 ∨ 4 ≤ p) : s.fin p = s := by unfold fin; rw [lives_out s p h]; rfl
theorem pick_out (s : Sd) (c : Int) (h : c < 0 ∨ 2 ≤ c) : s.pick c = -1 := by unfold pick; rw [hasC_out s c h]; rfl
theorem picked_out (s : Sd) (c : Int) (h : c < 0 ∨ 2 ≤ c) : s.picked c = s := by unfold picked; rw [hasC_out s c h]; rfl
theorem on_out (s : Sd) (c : Int) (h : c < 0 ∨ 2 ≤ c) : s.on c = -1 := by unfold on; rw [hasC_out s c h]; rfl
theorem wh_out (s : Sd) (p : Int) (h : p < 0 ∨ 4 ≤ p) : s.wh p = -1 := by
  have q : ∀ i, s.hit i p = false := fun i => by
    unfold hit
    have := (s.L i).2
    rw [show (((s.L i).1 : Int) == p) = false by simp; omega]; rfl
  unfold wh; rw [q, q]; simp
end Sd
theorem sdLit2 (w : World) (x y : Int) : SNums (w.alloc (.cells #[.int .i64 x, .int .i64 y] 3)) (some ⟨w.heap.size, 0, none⟩) [x, y] := by
  have := World.rowIs_alloc w #[.int .i64 x, .int .i64 y] 3 (fun i => .int .i64 ([x, y].getD i 0)) (fun i hi => by
    have : i = 0 ∨ i = 1 := by simp at hi; omega
    rcases this with rfl | rfl <;> rfl)
  refine Or.inr ⟨w.heap.size, 0, rfl, this.lt, fun i hi => ?_⟩
  rw [Nat.zero_add]
  exact this.cell hi
end Go.Proofs.Ytlhppmhacdoilaa

/-
  The document's own memory, made.
-/
import Derived.Test.YtaofkedcdeocjaaRefB
import Derived.Test.YtaofkedcdeocjaaRows2
namespace Go.Proofs.Ytaofkedcdeocjaa
open Go.ChangeShapes Go.WideShapes Go.ChangeAt Go.RowKit

/-- Four new blocks, and a draw. -/
theorem four (w : World) (A B C S : Obj) :
    ((((w.alloc A).alloc B).alloc C).alloc S).drew.heap[w.heap.size]? = some A ∧ ((((w.alloc A).alloc B).alloc C).alloc S).drew.heap[w.heap.size + 1]? = some B ∧
    ((((w.alloc A).alloc B).alloc C).alloc S).drew.heap[w.heap.size + 2]? = some C ∧ ((((w.alloc A).alloc B).alloc C).alloc S).drew.heap[w.heap.size + 3]? = some S := by
  have e1 : (w.alloc A).heap.size = w.heap.size + 1 := Deep.nblk_alloc _ _
  have e2 : ((w.alloc A).alloc B).heap.size = w.heap.size + 2 := by rw [Deep.nblk_alloc, e1]
  have e3 : (((w.alloc A).alloc B).alloc C).heap.size = w.heap.size + 3 := by rw [Deep.nblk_alloc, e2]
  refine ⟨?_, ?_, ?_, ?_⟩
  · show ((((w.alloc A).alloc B).alloc C).alloc S).heap[_]? = _
    rw [Deep.blk_alloc_lt _ _ _ (by omega), Deep.blk_alloc_lt _ _ _ (by omega), Deep.blk_alloc_lt _ _ _ (by omega), Deep.blk_alloc_new]
  · show ((((w.alloc A).alloc B).alloc C).alloc S).heap[_]? = _
    rw [Deep.blk_alloc_lt _ _ _ (by omega), Deep.blk_alloc_lt _ _ _ (by omega), ← e1, Deep.blk_alloc_new]
  · show ((((w.alloc A).alloc B).alloc C).alloc S).heap[_]? = _
    rw [Deep.blk_alloc_lt _ _ _ (by omega), ← e2, Deep.blk_alloc_new]
  · show ((((w.alloc A).alloc B).alloc C).alloc S).heap[_]? = _
    rw [← e3, Deep.blk_alloc_new]

/-- The document's memory while its owners are told. -/
theorem RefAt.ofHeap {W : World} {b cw cc co K : Nat} (hK : K ≤ 64) (bw : b ≠ cw) (bc : b ≠ cc) (bo : b ≠ co) (wc : cw ≠ cc) (wo : cw ≠ co) (co' : cc ≠ co)
    (hS : W.heap[b]? = some (.cells #[.slice (some ⟨cw, 0, none⟩) (K * 8) (K * 8), .slice (some ⟨cc, 0, none⟩) K K, .slice (some ⟨co, 0, none⟩) K K] 119))
    (hW : W.heap[cw]? = some (.cells (madeCells #[.int .u64 0] (K * 8)) 23)) (hC : W.heap[cc]? = some (.cells (madeCells #[.int .i64 0] K) 3)) (hO : W.heap[co]? = some (.cells (madeCells #[.int .i64 0] K) 3)) :
    RefAt W b cw cc co (MS.mk' K 0) := by
  refine ⟨hK, bw, bc, bo, wc, wo, co', ⟨_, hS, rfl, ?_⟩, ⟨_, hW, size_madeCells _ _, ?_⟩, ⟨_, hC, size_madeCells _ _, ?_⟩, ⟨_, hO, size_madeCells _ _, ?_⟩⟩
  · intro i hi
    have : i = 0 ∨ i = 1 ∨ i = 2 := by omega
    rcases this with rfl | rfl | rfl <;> rfl
  · intro i hi; exact (madeCells_get _ _ _ hi).trans (by simp [MS.mk', Nat.mod_one])
  · intro i hi; exact (madeCells_get _ _ _ hi).trans (by simp [MS.mk', Nat.mod_one])
  · intro i hi; exact (madeCells_get _ _ _ hi).trans (by simp [MS.mk', Nat.mod_one])

theorem RefAt.owner {w : World} {b cw cc co K k : Nat} (h : RefAt w b cw cc co (MS.mk' K k)) : RefAt (w.setCell ⟨co, k, none⟩ (.int .i64 (-1))) b cw cc co (MS.mk' K (k + 1)) := by
  refine ⟨h.le, h.bw, h.bc, h.bo, h.wc, h.wo, h.co', h.top.setOther h.bo _, h.rw'.setOther h.wo _, h.rc.setOther h.co' _, ?_⟩
  refine (h.ro.set _ _).congr fun i _ => ?_
  simp only [MS.mk']
  by_cases e : i = k
  · subst e; rw [if_pos rfl, if_pos (by omega)]
  · rw [if_neg e]
    by_cases e2 : i < k
    · rw [if_pos e2, if_pos (by omega)]
    · rw [if_neg e2, if_neg (by omega)]
theorem RefAt.made {w : World} {b cw cc co K : Nat} (h : RefAt w b cw cc co (MS.mk' K K)) : RefAt w b cw cc co (MS.fresh K) := by
  refine ⟨h.le, h.bw, h.bc, h.bo, h.wc, h.wo, h.co', h.top, h.rw', h.rc, h.ro.congr fun i hi => ?_⟩
  have hi' : i < K := hi
  simp only [MS.mk', MS.fresh, hi', if_true]

/-- The world while the owners are told. -/
def RNewInv (w : World) (K k : Nat) (wr : World) : Prop := ∃ cw cc co, w.heap.size ≤ cw ∧ w.heap.size ≤ cc ∧ w.heap.size ≤ co ∧ RefAt wr (w.heap.size + 3) cw cc co (MS.mk' K k) ∧ Touch Nil w wr

set_option maxHeartbeats 1000000 in
theorem rnew_any (n : Int) (w : World) :
    Calls Try.prog 39 #[.int .i64 n] w fun e w' => ∃ b cw cc co, e = .returned (.pointer (some ⟨b, 0, none⟩)) ∧ w.heap.size ≤ b ∧ w.heap.size ≤ cw ∧ w.heap.size ≤ cc ∧ w.heap.size ≤ co ∧ RefAt w' b cw cc co (MS.fresh (MS.many n)) ∧ Touch Nil w w' := by
  have hle := MS.many_le n
  have hmm := many_min n
  generalize MS.many n = K at hle hmm
  have mk1 := run_make_rows (P := Try.prog) 66 23 (.int .u64 0) 1 8 (by kernel_rfl) (by kernel_rfl) ((K : Int) * 8) (K * 8) (by omega) (by omega) (by omega)
  have mk2 := run_make_rows (P := Try.prog) 22 3 (.int .i64 0) 1 8 (by kernel_rfl) (by kernel_rfl) (K : Int) K rfl (by omega) (by omega)
  simp only [Nat.mul_one] at mk1 mk2
  go_enter Try.func39, Try.ntmps39
  go_wp2
  go_region
  all_goals
    go_wp2
    go_loopw [23] (fun i wr => ∃ k : Nat, k ≤ K ∧ i = .int .i64 k ∧ RNewInv w K k wr) (fun i _ => K - (intOf i).toNat)
    case atStart =>
      first
      | exact ⟨0, by omega, rfl, w.heap.size, w.heap.size + 1, w.heap.size + 2, by omega, by omega, by omega, RefAt.ofHeap hle (by omega) (by omega) (by omega) (by omega) (by omega) (by omega) (four w _ _ _ _).2.2.2 (four w _ _ _ _).1 (four w _ _ _ _).2.1 (four w _ _ _ _).2.2.1, (((((Touch.refl Nil w).alloc _).alloc _).alloc _).alloc _).drew⟩
      | exact ⟨0, by omega, rfl, w.heap.size, w.heap.size + 2, w.heap.size + 1, by omega, by omega, by omega, RefAt.ofHeap hle (by omega) (by omega) (by omega) (by omega) (by omega) (by omega) (four w _ _ _ _).2.2.2 (four w _ _ _ _).1 (four w _ _ _ _).2.2.1 (four w _ _ _ _).2.1, (((((Touch.refl Nil w).alloc _).alloc _).alloc _).alloc _).drew⟩
      | exact ⟨0, by omega, rfl, w.heap.size + 1, w.heap.size, w.heap.size + 2, by omega, by omega, by omega, RefAt.ofHeap hle (by omega) (by omega) (by omega) (by omega) (by omega) (by omega) (four w _ _ _ _).2.2.2 (four w _ _ _ _).2.1 (four w _ _ _ _).1 (four w _ _ _ _).2.2.1, (((((Touch.refl Nil w).alloc _).alloc _).alloc _).alloc _).drew⟩
      | exact ⟨0, by omega, rfl, w.heap.size + 1, w.heap.size + 2, w.heap.size, by omega, by omega, by omega, RefAt.ofHeap hle (by omega) (by omega) (by omega) (by omega) (by omega) (by omega) (four w _ _ _ _).2.2.2 (four w _ _ _ _).2.1 (four w _ _ _ _).2.2.1 (four w _ _ _ _).1, (((((Touch.refl Nil w).alloc _).alloc _).alloc _).alloc _).drew⟩
      | exact ⟨0, by omega, rfl, w.heap.size + 2, w.heap.size, w.heap.size + 1, by omega, by omega, by omega, RefAt.ofHeap hle (by omega) (by omega) (by omega) (by omega) (by omega) (by omega) (four w _ _ _ _).2.2.2 (four w _ _ _ _).2.2.1 (four w _ _ _ _).1 (four w _ _ _ _).2.1, (((((Touch.refl Nil w).alloc _).alloc _).alloc _).alloc _).drew⟩
      | exact ⟨0, by omega, rfl, w.heap.size + 2, w.heap.size + 1, w.heap.size, by omega, by omega, by omega, RefAt.ofHeap hle (by omega) (by omega) (by omega) (by omega) (by omega) (by omega) (four w _ _ _ _).2.2.2 (four w _ _ _ _).2.2.1 (four w _ _ _ _).2.1 (four w _ _ _ _).1, (((((Touch.refl Nil w).alloc _).alloc _).alloc _).alloc _).drew⟩
    case round =>
      obtain ⟨k, hk, rfl, cw, cc, co, g1, g2, g3, hR, hT⟩ := hrel
      clear mk1 mk2
      by_cases hlt : k < K
      · have h2 := hR.top.cell (i := 2) (by omega)
        have hc := hR.ro.cell (i := k) hlt
        have hf := hR.ro.frozen k
        simp only [MS.mk', show ¬ ((2 : Nat) = 0) by omega, show ¬ ((2 : Nat) = 1) by omega, if_false] at h2
        have hR' := hR.owner
        go_wp2
        go_roundw
        case rel => exact ⟨k + 1, by omega, by go_num, cw, cc, co, g1, g2, g3, hR', hT.setNew (by show _ ≤ co; omega) _⟩
        case measure => simp [intOf]; omega
      · have hkK : k = K := by omega
        subst hkK
        go_wp2
        go_ret
        exact ⟨_, cw, cc, co, rfl, by omega, g1, g2, g3, hR.made, hT⟩
end Go.Proofs.Ytaofkedcdeocjaa

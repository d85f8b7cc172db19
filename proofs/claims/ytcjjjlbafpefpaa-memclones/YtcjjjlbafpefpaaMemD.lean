/-
  What cloning a memory comes to.
-/
import Derived.Test.YtcjjjlbafpefpaaMemC
import Derived.Lib.SlFresh
import Derived.WalkSpells
namespace Go.Proofs.Ytcjjjlbafpefpaa
open Go.ChangeShapes Go.WideShapes Go.ChangeAt Go.RowKit

theorem MS.cell_one (s : MS) (i : Nat) : (s.cell i).oneCell' = true := by
  unfold MS.cell; split
  · rfl
  · split <;> rfl

set_option maxHeartbeats 1000000 in
theorem sclone_any {w : World} {c n cap : Nat} {f : Nat → Value} (h : rowHas w c 51 (n * 10) f) (hn : n ≤ 64) :
    Calls Try.prog 28 #[.slice (some ⟨c, 0, none⟩) n cap] w fun e w' => ∃ c' cap', e = .returned (.slice (some ⟨c', 0, none⟩) n cap') ∧ w.heap.size ≤ c' ∧ rowHas w' c' 51 (n * 10) f ∧ Touch Nil w w' := by
  have he := fun w => Lib.run_eql_slice_nil (P := Try.prog) w 46 51 (some ⟨c, 0, none⟩) n cap 0 0 (by kernel_rfl)
  obtain ⟨c', cap', W', hr, hc', hrow, ht⟩ := append_fresh (P := Try.prog) (w.alloc (.cells #[] 51)) 46 51 46 cellZ 10 80 (by kernel_rfl) (by kernel_rfl) w.heap.size c n cap f
    (rowHas_alloc w #[] _ 0 f (by simp) (fun i hi => by omega)) (h.alloc _) (by omega) (by omega)
  have hge : w.heap.size ≤ c' := by rcases hc' with rfl | rfl <;> simp
  have hT : Touch Nil w W' := ((Touch.refl Nil w).alloc _).trans ht
  clear hc' ht h
  go_enter Try.func28, Try.ntmps28
  go_wp2_with (refine Lib.wpList_append_run_sl _ rfl _ _ 46 rfl _ _ rfl rfl hr ?_)
  go_ret
  exact ⟨c', cap', rfl, hge, hrow, hT⟩

/-- A clone: another memory, of the same words and marks, in new memory. -/
theorem clone_any {w : World} {b c : Nat} {s : MS} (h : MemAt w b c s) :
    Calls Try.prog 19 #[.pointer (some ⟨b, 0, none⟩)] w fun e w' => ∃ b' c', e = .returned (.pointer (some ⟨b', 0, none⟩)) ∧ w.heap.size ≤ b' ∧ w.heap.size ≤ c' ∧ MemAt w' b' c' s ∧ Touch Nil w w' := by
  obtain ⟨cap, htop⟩ := h.top
  have h0 := htop.cell (i := 0) (by omega)
  have hle := h.le
  go_enter Try.func19, Try.ntmps19
  go_wp2_with (go_at_call 28; refine (sclone_any h.row hle).mono ?_; rintro e w1 ⟨c', cap', rfl, hge, hrow, hT⟩)
  go_ret
  refine ⟨w1.heap.size, c', rfl, hT.size, hge, ⟨?_, hle, ⟨cap', ?_⟩, hrow.alloc _⟩, hT.alloc _⟩
  · have := hrow.lt; omega
  · exact World.rowIs_alloc w1 #[.slice (some ⟨c', 0, none⟩) s.n cap'] 48 (fun _ => .slice (some ⟨c', 0, none⟩) s.n cap') (fun i hi => by
      have : i = 0 := by simpa using hi
      subst this; rfl)
end Go.Proofs.Ytcjjjlbafpefpaa

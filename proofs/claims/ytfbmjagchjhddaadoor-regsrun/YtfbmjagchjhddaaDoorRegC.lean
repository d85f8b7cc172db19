/-
  regs: further, Fault.
-/
import Derived.Test.YtfbmjagchjhddaaDoorRegB
namespace Go.Proofs.YtfbmjagchjhddaaDoor
open Go.ChangeShapes Go.WideShapes Go.ChangeAt Go.RowKit

set_option maxRecDepth 20000 in
set_option maxHeartbeats 1000000 in
theorem further_any {w : World} (s : RS) {a : Option Addr} {c : Nat} {l : List Ins} (h : IsL w a l) (hl : l.length ≤ 1000) (hpc : -9223372036854775808 ≤ s.pc) :
    Calls Tryd.prog 30 #[stV s a l.length c] w (StEnd w (s.on l.length) l) := by
  unfold RS.on
  have hW := sBox_below w s a l.length c
  have hB := sBox_new w s a l.length c
  have hZ : w.heap.size + 1 < (sBox w s a l.length c).heap.size := by rw [sBox_size]; omega
  have hI := h.later hW
  obtain ⟨s', hs⟩ : ∃ s', Hid ((if (l.length : Int) ≤ s.pc then s.go l.length 0 else s.go l.length (s.pc + 1)) = s') := ⟨_, rfl⟩
  rw [hs.out]
  by_cases hp : (l.length : Int) ≤ s.pc
  · rw [if_pos hp] at hs
    have hA := StEnd.with (at_any (c := c) s 0 hI hl) hB
    rw [hs.out] at hA
    unfold stV at *
    go_enter Tryd.func30, Tryd.ntmps30
    go_wp2_with fail
    refine hA.mono ?_
    rintro e w1 ⟨a', c', rfl, hI1, b1, ⟨m0, m1, m2, m3, m4, m5, m6, m7, m8, m9⟩, hf⟩
    unfold stV
    go_wp2_with fail
    refine bodyPost_ret (v := stV s' a' l.length c') (by simp [results, Tryd.results30, go_sem, stV, m0, m1, m2, m3, m4, m5, m6, m7, m8, m9]) rfl (ten hI1 b1 hW (by omega) hZ)
  · rw [if_neg hp] at hs
    have hA := StEnd.with (at_any (c := c) s (s.pc + 1) hI hl) hB
    rw [hs.out] at hA
    have hq : wrap64 (s.pc + 1) = s.pc + 1 := by unfold wrap64; omega
    unfold stV at *
    go_enter Tryd.func30, Tryd.ntmps30
    go_wp2_with fail
    refine hA.mono ?_
    rintro e w1 ⟨a', c', rfl, hI1, b1, ⟨m0, m1, m2, m3, m4, m5, m6, m7, m8, m9⟩, hf⟩
    unfold stV
    go_wp2_with fail
    refine bodyPost_ret (v := stV s' a' l.length c') (by simp [results, Tryd.results30, go_sem, stV, m0, m1, m2, m3, m4, m5, m6, m7, m8, m9]) rfl (ten hI1 b1 hW (by omega) hZ)
end Go.Proofs.YtfbmjagchjhddaaDoor

/-
  regs: Address, Fault.
-/
import Derived.Test.YtdhamejgdapdjaaDoorRegD
namespace Go.Proofs.YtdhamejgdapdjaaDoor
open Go.ChangeShapes Go.WideShapes Go.ChangeAt Go.RowKit

theorem u64w (x : Int) : IntKind.u64.wrap x = x % 18446744073709551616 := by
  simp [IntKind.wrap, IntKind.signed, IntKind.bits]

set_option maxRecDepth 20000 in
set_option maxHeartbeats 1000000 in
theorem address_any {w : World} (s : RS) (a : Option Addr) (n c : Nat) (x : Ins) (hn : 0 ≤ x.n ∧ x.n ≤ 65535) (hs : 0 ≤ s.reg x.b ∧ s.reg x.b < 18446744073709551616) :
    Calls Tryd.prog 20 #[stV s a n c, insV x] w fun e w' => e = .returned (.int .u64 (addW (s.reg x.b) x.n)) ∧ Below w.heap.size w w' := by
  obtain ⟨op, xa, xb, xn⟩ := x
  simp only at hn hs
  have hR := fun w => register_any s a n c xb w
  generalize s.reg xb = y at *
  unfold stV insV at *
  go_enter Tryd.func20, Tryd.ntmps20
  go_upto_region 1 with fail
  have hX := C4.new (w.alloc (.cells #[.int .u64 (s.r 0), .int .u64 (s.r 1), .int .u64 (s.r 2), .int .u64 (s.r 3), .int .u64 (s.r 4), .int .u64 (s.r 5), .int .u64 (s.r 6), .int .u64 (s.r 7), .slice a n c, .int .i64 s.pc] 45)) op xa xb xn 32
  have hS := SCells.of ((Below.heap_alloc (w.alloc (.cells #[.int .u64 (s.r 0), .int .u64 (s.r 1), .int .u64 (s.r 2), .int .u64 (s.r 3), .int .u64 (s.r 4), .int .u64 (s.r 5), .int .u64 (s.r 6), .int .u64 (s.r 7), .slice a n c, .int .i64 s.pc] 45)) (.cells #[.int .i64 op, .int .i64 xa, .int .i64 xb, .int .i64 xn] 32) w.heap.size (by simp)).trans (heap_alloc_new w _))
  have hb : Below w.heap.size w ((w.alloc (.cells #[.int .u64 (s.r 0), .int .u64 (s.r 1), .int .u64 (s.r 2), .int .u64 (s.r 3), .int .u64 (s.r 4), .int .u64 (s.r 5), .int .u64 (s.r 6), .int .u64 (s.r 7), .slice a n c, .int .i64 s.pc] 45)).alloc (.cells #[.int .i64 op, .int .i64 xa, .int .i64 xb, .int .i64 xn] 32)) := ((Below.refl _ w).alloc (Nat.le_refl _) _).alloc (by simp) _
  simp only [World.size_alloc] at hX
  generalize (w.alloc (.cells #[.int .u64 (s.r 0), .int .u64 (s.r 1), .int .u64 (s.r 2), .int .u64 (s.r 3), .int .u64 (s.r 4), .int .u64 (s.r 5), .int .u64 (s.r 6), .int .u64 (s.r 7), .slice a n c, .int .i64 s.pc] 45)).alloc (.cells #[.int .i64 op, .int .i64 xa, .int .i64 xb, .int .i64 xn] 32) = W at *
  have hC : Calls Tryd.prog 46 #[.agg #[.int .u64 (s.r 0), .int .u64 (s.r 1), .int .u64 (s.r 2), .int .u64 (s.r 3), .int .u64 (s.r 4), .int .u64 (s.r 5), .int .u64 (s.r 6), .int .u64 (s.r 7), .slice a n c, .int .i64 s.pc], .int .i64 xb] W.drew fun e w' => e = .returned (.int .u64 y) ∧ C4 w' (w.heap.size + 1) op xa xb xn ∧ Below w.heap.size w w' := by
    refine (hR _).mono ?_
    rintro e w1 ⟨rfl, b1⟩
    exact ⟨rfl, hX.later (undrew b1), past hb (undrew b1)⟩
  obtain ⟨x0, x1, x2, x3, xf⟩ := hX
  obtain ⟨z0, z1, z2, z3, z4, z5, z6, z7, z8, z9⟩ := hS
  go_region_with (go_at_call 46; with_reducible refine hC.mono ?_; rintro e w1 ⟨rfl, ⟨k0, k1, k2, k3, kf⟩, b1⟩)
  all_goals go_wp2
  all_goals go_ret
  all_goals refine ⟨ret_int ?_, b1⟩
  all_goals (unfold addW; rw [u64w, u64w]; omega)

set_option maxRecDepth 20000 in
set_option maxHeartbeats 1000000 in
theorem fault_any {w : World} (s : RS) {a : Option Addr} {c : Nat} {l : List Ins} (k : Int) (h : IsL w a l) (hl : l.length ≤ 1000) (hpc : -9223372036854775808 ≤ s.pc) (hk : 0 ≤ k ∧ k < 9) :
    Calls Tryd.prog 22 #[stV s a l.length c, .int .i64 k] w (StEnd w (faultP l.length s k) l) := by
  have hW := sBox_below w s a l.length c
  have hB := sBox_new w s a l.length c
  have hZ : w.heap.size + 1 < (sBox w s a l.length c).heap.size := by rw [sBox_size]; omega
  have hI := h.later hW
  have hWi := with_any s a l.length c 7 (100 + k) (sBox w s a l.length c)
  have hF := fun w1 (b1 : Below (sBox w s a l.length c).heap.size (sBox w s a l.length c) w1) => StEnd.with (further_any (c := c) (w := w1) (s.set 7 (100 + k)) (hI.later b1) hl (by unfold RS.set; split <;> exact hpc)) (cells_of hB b1)
  unfold faultP
  obtain ⟨s', hs⟩ : ∃ s', Hid ((s.set 7 (100 + k)) = s') := ⟨_, rfl⟩
  rw [hs.out] at hF hWi ⊢
  obtain ⟨s2, hs2⟩ : ∃ s2, Hid ((s'.on l.length) = s2) := ⟨_, rfl⟩
  rw [hs2.out] at hF ⊢
  obtain ⟨hk0, hk9⟩ := hk
  unfold stV at hWi
  unfold stV
  go_enter Tryd.func22, Tryd.ntmps22
  go_wp2_with fail
  refine hWi.mono ?_
  rintro e w1 ⟨rfl, b1⟩
  have hF := hF w1 b1
  unfold stV at hF
  go_wp2_with fail
  refine hF.mono ?_
  rintro e w2 ⟨a', c', rfl, hI1, b2, ⟨m0, m1, m2, m3, m4, m5, m6, m7, m8, m9⟩, hf⟩
  unfold stV
  go_wp2_with fail
  refine bodyPost_ret (v := stV s2 a' l.length c') (by simp [results, Tryd.results22, go_sem, stV, m0, m1, m2, m3, m4, m5, m6, m7, m8, m9]) rfl (ten hI1 b2 (past hW b1) (by omega) (Nat.lt_of_lt_of_le hZ b1.size))
end Go.Proofs.YtdhamejgdapdjaaDoor

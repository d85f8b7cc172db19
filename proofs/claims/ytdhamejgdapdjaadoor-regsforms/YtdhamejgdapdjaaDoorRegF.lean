/-
  regs: Done.
-/
import Derived.Test.YtdhamejgdapdjaaDoorRegE
namespace Go.Proofs.YtdhamejgdapdjaaDoor
open Go.ChangeShapes Go.WideShapes Go.ChangeAt Go.RowKit

/-- A state, an instruction, ten new cells. -/
abbrev dBox (w : World) (s : RS) (x : Ins) (a : Option Addr) (n c : Nat) : World := ((w.alloc (.cells #[.int .u64 (s.r 0), .int .u64 (s.r 1), .int .u64 (s.r 2), .int .u64 (s.r 3), .int .u64 (s.r 4), .int .u64 (s.r 5), .int .u64 (s.r 6), .int .u64 (s.r 7), .slice a n c, .int .i64 s.pc] 45)).alloc (.cells #[.int .i64 x.op, .int .i64 x.a, .int .i64 x.b, .int .i64 x.n] 32)).alloc (.cells zCells 45)
theorem dBox_below (w : World) (s : RS) (x : Ins) (a : Option Addr) (n c : Nat) : Below w.heap.size w (dBox w s x a n c) := (((Below.refl _ w).alloc (Nat.le_refl _) _).alloc (by simp) _).alloc (by simp; omega) _
theorem dBox_size (w : World) (s : RS) (x : Ins) (a : Option Addr) (n c : Nat) : (dBox w s x a n c).heap.size = w.heap.size + 3 := by simp
theorem dBox_at (w : World) (s : RS) (x : Ins) (a : Option Addr) (n c : Nat) :
    (dBox w s x a n c).heap[w.heap.size]? = some (.cells #[.int .u64 (s.r 0), .int .u64 (s.r 1), .int .u64 (s.r 2), .int .u64 (s.r 3), .int .u64 (s.r 4), .int .u64 (s.r 5), .int .u64 (s.r 6), .int .u64 (s.r 7), .slice a n c, .int .i64 s.pc] 45 (0, 0)) ∧
    (dBox w s x a n c).heap[w.heap.size + 1]? = some (.cells #[.int .i64 x.op, .int .i64 x.a, .int .i64 x.b, .int .i64 x.n] 32 (0, 0)) ∧
    (dBox w s x a n c).heap[w.heap.size + 2]? = some (.cells zCells 45 (0, 0)) := by
  refine ⟨?_, ?_, ?_⟩
  · exact (Below.heap_alloc _ _ _ (by simp; omega)).trans ((Below.heap_alloc _ _ _ (by simp)).trans (heap_alloc_new w _))
  · have := heap_alloc_new (w.alloc (.cells #[.int .u64 (s.r 0), .int .u64 (s.r 1), .int .u64 (s.r 2), .int .u64 (s.r 3), .int .u64 (s.r 4), .int .u64 (s.r 5), .int .u64 (s.r 6), .int .u64 (s.r 7), .slice a n c, .int .i64 s.pc] 45)) (.cells #[.int .i64 x.op, .int .i64 x.a, .int .i64 x.b, .int .i64 x.n] 32)
    rw [World.size_alloc] at this
    exact (Below.heap_alloc _ _ _ (by simp)).trans this
  · have := heap_alloc_new ((w.alloc (.cells #[.int .u64 (s.r 0), .int .u64 (s.r 1), .int .u64 (s.r 2), .int .u64 (s.r 3), .int .u64 (s.r 4), .int .u64 (s.r 5), .int .u64 (s.r 6), .int .u64 (s.r 7), .slice a n c, .int .i64 s.pc] 45)).alloc (.cells #[.int .i64 x.op, .int .i64 x.a, .int .i64 x.b, .int .i64 x.n] 32)) (.cells zCells 45)
    rw [World.size_alloc, World.size_alloc] at this
    exact this
theorem put10_block {w : World} {B g : Nat} {s : RS} {a : Option Addr} {n c : Nat} (h : g ≠ B) : (put10 w B s a n c).heap[g]? = w.heap[g]? := by
  unfold put10
  repeat (rw [Below.heap_setCell _ _ _ _ h])
theorem put10_size {w : World} {B : Nat} {s : RS} {a : Option Addr} {n c : Nat} : (put10 w B s a n c).heap.size = w.heap.size := by
  simp [World.size_setCell]

set_option maxRecDepth 20000 in
set_option maxHeartbeats 2000000 in
theorem done_any {w : World} (s : RS) {a : Option Addr} {c : Nat} {l : List Ins} (x : Ins) (v : Int) (h : IsL w a l) (hl : l.length ≤ 1000) (hpc : -9223372036854775808 ≤ s.pc) :
    Calls Tryd.prog 21 #[stV s a l.length c, insV x, .int .u64 v] w (StEnd w (doneP l.length s x v) l) := by
  obtain ⟨op, xa, xb, xn⟩ := x
  unfold doneP
  by_cases h3 : op = 3
  · subst h3
    rw [if_pos rfl]
    have hW := dBox_below w s ⟨3, xa, xb, xn⟩ a l.length c
    obtain ⟨hB0, hB1, hB2⟩ := dBox_at w s ⟨3, xa, xb, xn⟩ a l.length c
    have hsz := dBox_size w s ⟨3, xa, xb, xn⟩ a l.length c
    have hWi := with_any s a l.length c xa v (dBox w s ⟨3, xa, xb, xn⟩ a l.length c)
    have hs' : Hid ((s.set xa v).pc = s.pc) := by show _ = _; unfold RS.set; split <;> rfl
    obtain ⟨s', hs⟩ : ∃ s', Hid (s.set xa v = s') := ⟨_, rfl⟩
    rw [hs.out] at hWi hs' ⊢
    obtain ⟨s2, hs2⟩ : ∃ s2, Hid ((s'.on l.length) = s2) := ⟨_, rfl⟩
    rw [hs2.out]
    unfold stV at hWi
    unfold stV insV
    go_enter Tryd.func21, Tryd.ntmps21
    go_wp2_with fail
    refine hWi.mono ?_
    rintro e w1 ⟨rfl, b1⟩
    have K0 := cells_of hB0 b1
    have K2 := cells_of hB2 b1
    have hp := put10_below (s := s') (a := a) (n := l.length) (c := c) (past hW b1) (Nat.le_refl _)
    have hF := StEnd.with (further_any (a := a) (c := c) (w := put10 w1 w.heap.size s' a l.length c) s' (h.later hp) hl (by rw [hs'.out]; exact hpc)) ((put10_block (g := w.heap.size + 2) (by omega)).trans K2)
    clear hs'
    obtain ⟨z0, z1, z2, z3, z4, z5, z6, z7, z8, z9⟩ := SCells.of K0
    have zf := cells_frozen K0
    rw [hs2.out] at hF
    unfold stV at hF
    go_wp2_with fail
    refine hF.mono ?_
    rintro e w2 ⟨a', c', rfl, hI1, b2, ⟨m0, m1, m2, m3, m4, m5, m6, m7, m8, m9⟩, hf⟩
    unfold stV
    go_wp2_with fail
    refine bodyPost_ret (v := stV s2 a' l.length c') (by simp [results, Tryd.results21, go_sem, stV, m0, m1, m2, m3, m4, m5, m6, m7, m8, m9]) rfl (ten hI1 b2 hp (by omega) (by rw [put10_size]; have := b1.size; omega))
  · rw [if_neg h3]
    by_cases h7 : op = 7
    · subst h7
      rw [if_pos rfl]
      have hW := dBox_below w s ⟨7, xa, xb, xn⟩ a l.length c
      obtain ⟨hB0, hB1, hB2⟩ := dBox_at w s ⟨7, xa, xb, xn⟩ a l.length c
      have hsz := dBox_size w s ⟨7, xa, xb, xn⟩ a l.length c
      have hWi := with_any s a l.length c 0 v (dBox w s ⟨7, xa, xb, xn⟩ a l.length c)
      have hs' : Hid ((s.set 0 v).pc = s.pc) := by show _ = _; unfold RS.set; split <;> rfl
      obtain ⟨s', hs⟩ : ∃ s', Hid (s.set 0 v = s') := ⟨_, rfl⟩
      rw [hs.out] at hWi hs' ⊢
      obtain ⟨s2, hs2⟩ : ∃ s2, Hid ((s'.on l.length) = s2) := ⟨_, rfl⟩
      rw [hs2.out]
      unfold stV at hWi
      unfold stV insV
      go_enter Tryd.func21, Tryd.ntmps21
      go_wp2_with fail
      refine hWi.mono ?_
      rintro e w1 ⟨rfl, b1⟩
      have K0 := cells_of hB0 b1
      have K2 := cells_of hB2 b1
      have hp := put10_below (s := s') (a := a) (n := l.length) (c := c) (past hW b1) (Nat.le_refl _)
      have hF := StEnd.with (further_any (a := a) (c := c) (w := put10 w1 w.heap.size s' a l.length c) s' (h.later hp) hl (by rw [hs'.out]; exact hpc)) ((put10_block (g := w.heap.size + 2) (by omega)).trans K2)
      clear hs'
      obtain ⟨z0, z1, z2, z3, z4, z5, z6, z7, z8, z9⟩ := SCells.of K0
      have zf := cells_frozen K0
      rw [hs2.out] at hF
      unfold stV at hF
      go_wp2_with fail
      refine hF.mono ?_
      rintro e w2 ⟨a', c', rfl, hI1, b2, ⟨m0, m1, m2, m3, m4, m5, m6, m7, m8, m9⟩, hf⟩
      unfold stV
      go_wp2_with fail
      refine bodyPost_ret (v := stV s2 a' l.length c') (by simp [results, Tryd.results21, go_sem, stV, m0, m1, m2, m3, m4, m5, m6, m7, m8, m9]) rfl (ten hI1 b2 hp (by omega) (by rw [put10_size]; have := b1.size; omega))
    · rw [if_neg h7]
      have hW := dBox_below w s ⟨op, xa, xb, xn⟩ a l.length c
      obtain ⟨hB0, hB1, hB2⟩ := dBox_at w s ⟨op, xa, xb, xn⟩ a l.length c
      have hsz := dBox_size w s ⟨op, xa, xb, xn⟩ a l.length c
      obtain ⟨s2, hs2⟩ : ∃ s2, Hid ((s.on l.length) = s2) := ⟨_, rfl⟩
      rw [hs2.out]
      have hF := StEnd.with (further_any (c := c) s (h.later hW) hl hpc) hB2
      rw [hs2.out] at hF
      unfold stV at hF
      unfold stV insV
      go_enter Tryd.func21, Tryd.ntmps21
      go_wp2_with fail
      refine hF.mono ?_
      rintro e w2 ⟨a', c', rfl, hI1, b2, ⟨m0, m1, m2, m3, m4, m5, m6, m7, m8, m9⟩, hf⟩
      unfold stV
      go_wp2_with fail
      refine bodyPost_ret (v := stV s2 a' l.length c') (by simp [results, Tryd.results21, go_sem, stV, m0, m1, m2, m3, m4, m5, m6, m7, m8, m9]) rfl (ten hI1 b2 hW (by omega) (by omega))
end Go.Proofs.YtdhamejgdapdjaaDoor

/-
  A state of numbers (penumbralaw08.State).
-/
import Derived.Test.YtdhamejgdapdjaaDoorRegK
import Derived.Test.YtdhamejgdapdjaaDoorInsnU
import Derived.Test.YtdhamejgdapdjaaDoorSlices
import Derived.Deep.LoopGhost
namespace Go.Proofs.YtdhamejgdapdjaaDoor
open Go.ChangeShapes Go.WideShapes Go.ChangeAt Go.RowKit

theorem upd_words {rr : Nat → Int} {k : Nat} {y : Int} (h : ∀ j, 0 ≤ rr j ∧ rr j < 18446744073709551616) (hy : 0 ≤ y ∧ y < 18446744073709551616) : ∀ j, 0 ≤ (if j = k then y else rr j) ∧ (if j = k then y else rr j) < 18446744073709551616 := by
  intro j
  by_cases e : j = k
  · rw [if_pos e]; exact hy
  · rw [if_neg e]; exact h j

set_option maxRecDepth 20000 in
set_option maxHeartbeats 4000000 in
theorem state_any (a0 : Option Addr) (len0 cap0 : Nat) (z0 : List Int) (a1 : Option Addr) (len1 cap1 : Nat) (z1 : List Int) (pc : Int) (w : World) (w0 : Row .i64 w a0 len0 cap0 z0) (w1 : Row .u64 w a1 len1 cap1 z1) (hpc : -9223372036854775808 ≤ pc ∧ pc ≤ 9223372036854775807) :
    Calls Tryd.prog 24 #[.slice a0 len0 cap0, .slice a1 len1 cap1, .int .i64 pc] w fun e w' => ∃ s a l c, e = .returned (stV s a l.length c) ∧ IsL w' a l ∧ l.length ≤ 12 ∧ s.words ∧ -9223372036854775808 ≤ s.pc ∧ s.pc ≤ 9223372036854775807 ∧ Below w.heap.size w w' := by
  obtain ⟨mm0, q0⟩ := w0.plain
  obtain ⟨mm1, q1⟩ := w1.plain
  clear w0 w1
  go_enter Tryd.func24, Tryd.ntmps24
  go_upto_block 0 with fail
  have hB0 : SB ((w.alloc (.cells zCells 45)).alloc (.cells zCells 45)) (w.heap.size + 1) RS.zero none 0 0 := by
    have := heap_alloc_new (w.alloc (.cells zCells 45)) (.cells zCells 45)
    rw [World.size_alloc] at this
    exact this
  have hRz : ((w.alloc (.cells zCells 45)).alloc (.cells zCells 45)).heap[w.heap.size]? = some (.cells zCells 45 (0, 0)) := (Below.heap_alloc _ _ _ (by simp)).trans (heap_alloc_new w _)
  have hb0 : Below w.heap.size w ((w.alloc (.cells zCells 45)).alloc (.cells zCells 45)) := ((Below.refl _ w).alloc (Nat.le_refl _) _).alloc (by simp) _
  have hsz0 : ((w.alloc (.cells zCells 45)).alloc (.cells zCells 45)).heap.size = w.heap.size + 2 := by simp
  have hown0 := World.ownsRow_nil ((w.alloc (.cells zCells 45)).alloc (.cells zCells 45)) (w.heap.size + 2) 32 4
  generalize (w.alloc (.cells zCells 45)).alloc (.cells zCells 45) = W at *
  go_cut [8] (fun _ wr => ∃ (aS : Option Addr) (cap : Nat) (l : List Ins), l.length ≤ 12 ∧ SB wr (w.heap.size + 1) RS.zero aS l.length cap ∧ IsF wr (w.heap.size + 1) aS l ∧ (∀ g, aS = some ⟨g, 0, none⟩ → g ≠ w.heap.size) ∧ wr.heap[w.heap.size]? = some (.cells zCells 45 (0, 0)) ∧ Below w.heap.size w wr)
  case first =>
    go_wp2_with fail
    obtain ⟨K', hK'⟩ : ∃ K : Nat, K = min (len0 / 5) 12 := ⟨_, rfl⟩
    go_loopg [8] K' (fun g i wr => ∃ (k I : Nat) (aS : Option Addr) (cap : Nat) (acc : List Ins), g + k = K' ∧ i = .int .i64 (I : Int) ∧ Hid (I = 5 * k) ∧ Hid (acc.length = k) ∧ SB wr (w.heap.size + 1) RS.zero aS acc.length cap ∧ wr.ownsRow (w.heap.size + 2) 32 4 (.slice aS acc.length cap) acc.length (flatI acc) ∧ wr.heap[w.heap.size]? = some (.cells zCells 45 (0, 0)) ∧ Below w.heap.size w wr)
    case atStart => exact ⟨0, 0, none, 0, [], by omega, rfl, rfl, rfl, hB0, hown0, hRz, hb0⟩
    case round =>
      obtain ⟨k, I, aS, cap, acc, hg, rfl, hI, hacc, hSB, hown, hRz, hB⟩ := hrel
      by_cases hk : k < K'
      · have hkk : I + 4 < len0 := by have := hI.out; omega
        have k1 : (I : Int) + 4 < (len0 : Int) := by omega
        have k2 : (I : Int) < 60 := by have := hI.out; omega
        rcases q0 with q0 | ⟨b0, o0, rfl, hb0', hc0⟩
        · omega
        obtain ⟨y0, hy0⟩ : ∃ y, y = z0.getD I 0 := ⟨_, rfl⟩
        obtain ⟨y1, hy1⟩ : ∃ y, y = z0.getD (I + 1) 0 := ⟨_, rfl⟩
        obtain ⟨y2, hy2⟩ : ∃ y, y = z0.getD (I + 2) 0 := ⟨_, rfl⟩
        obtain ⟨y3, hy3⟩ : ∃ y, y = z0.getD (I + 3) 0 := ⟨_, rfl⟩
        obtain ⟨y4, hy4⟩ : ∃ y, y = z0.getD (I + 4) 0 := ⟨_, rfl⟩
        have HS : ∀ wx, Below w.heap.size w wx → wx.cell? ⟨b0, o0 + I, none⟩ = some (.int .i64 y0) ∧ wx.cell? ⟨b0, o0 + (I + 1), none⟩ = some (.int .i64 y1) ∧ wx.cell? ⟨b0, o0 + ((I : Int) + 2).toNat, none⟩ = some (.int .i64 y2) ∧ wx.cell? ⟨b0, o0 + ((I : Int) + 3).toNat, none⟩ = some (.int .i64 y3) ∧ wx.cell? ⟨b0, o0 + ((I : Int) + 4).toNat, none⟩ = some (.int .i64 y4) := fun wx bx => by
          refine ⟨?_, ?_, ?_, ?_, ?_⟩
          · rw [hy0]; exact Plain.cell hc0 hb0' bx I (by omega)
          · rw [hy1]; exact Plain.cell hc0 hb0' bx (I + 1) (by omega)
          · rw [hy2, show ((I : Int) + 2).toNat = I + 2 by omega]; exact Plain.cell hc0 hb0' bx (I + 2) (by omega)
          · rw [hy3, show ((I : Int) + 3).toNat = I + 3 by omega]; exact Plain.cell hc0 hb0' bx (I + 3) (by omega)
          · rw [hy4, show ((I : Int) + 4).toNat = I + 4 by omega]; exact Plain.cell hc0 hb0' bx (I + 4) (by omega)
        clear hy0 hy1 hy2 hy3 hy4
        have l0 : (I : Int) < (len0 : Int) := by omega
        have l1 : (I : Int) + 1 < (len0 : Int) := by omega
        have l2 : (I : Int) + 2 < (len0 : Int) := by omega
        have l3 : (I : Int) + 3 < (len0 : Int) := by omega
        have p1 : (0 : Int) ≤ (I : Int) + 1 := by omega
        have v1 : IntKind.i64.wrap ((I : Int) + 1) = (I : Int) + 1 := by rw [IntKind.wrap_i64]; omega
        have p2 : (0 : Int) ≤ (I : Int) + 2 := by omega
        have v2 : IntKind.i64.wrap ((I : Int) + 2) = (I : Int) + 2 := by rw [IntKind.wrap_i64]; omega
        have p3 : (0 : Int) ≤ (I : Int) + 3 := by omega
        have v3 : IntKind.i64.wrap ((I : Int) + 3) = (I : Int) + 3 := by rw [IntKind.wrap_i64]; omega
        have p4 : (0 : Int) ≤ (I : Int) + 4 := by omega
        have v4 : IntKind.i64.wrap ((I : Int) + 4) = (I : Int) + 4 := by rw [IntKind.wrap_i64]; omega
        have hd : Below w.heap.size w wr.drew := hB.drew
        have c8 : wr.drew.cell? ⟨w.heap.size + 1, 8, none⟩ = some (.slice aS acc.length cap) := (SCells.of hSB).c8
        have hlt := hSB.lt
        have hpl : Calls Tryd.prog 32 #[.int .i64 y0, .int .i64 y1, .int .i64 y2, .int .i64 y3, .int .i64 y4] wr.drew fun e w2 => e = .returned (.agg #[.int .i64 (playP y0 y1 y2 y3 y4).op, .int .i64 (playP y0 y1 y2 y3 y4).a, .int .i64 (playP y0 y1 y2 y3 y4).b, .int .i64 (playP y0 y1 y2 y3 y4).n]) ∧ Below wr.heap.size wr w2 := (play_any y0 y1 y2 y3 y4 _).mono fun e w2 h => ⟨h.1, undrew h.2⟩
        generalize playP y0 y1 y2 y3 y4 = x at *
        go_upto_region 5 with fail
        refine wp_region_held_drew (S := fun wx => wx.cell? ⟨b0, o0 + I, none⟩ = some (.int .i64 y0) ∧ wx.cell? ⟨b0, o0 + (I + 1), none⟩ = some (.int .i64 y1) ∧ wx.cell? ⟨b0, o0 + ((I : Int) + 2).toNat, none⟩ = some (.int .i64 y2) ∧ wx.cell? ⟨b0, o0 + ((I : Int) + 3).toNat, none⟩ = some (.int .i64 y3) ∧ wx.cell? ⟨b0, o0 + ((I : Int) + 4).toNat, none⟩ = some (.int .i64 y4)) (by kernel_rfl) (HS _ hd) (fun hHeld => ?_)
        refine wpAnyH_take (i := 0) (v := ?_) rfl (by kernel_rfl) (by kernel_rfl) (by kernel_rfl) (fun _ _ _ h => h) (Or.inl ⟨by rfl, ?_⟩) (by assumption) ?_
        rotate_left
        · intro wz hSw; (try dsimp only at hSw); go_simp; try with_reducible rfl
        (try simp only [Act.put]); (try simp only [List.setIfInBounds_toArray]); (try simp only [List.set_cons_succ]); (try simp only [List.set_cons_zero])
        refine wpAnyH_take (i := 2) (v := ?_) rfl (by kernel_rfl) (by kernel_rfl) (by kernel_rfl) (fun _ _ _ h => h) (Or.inl ⟨by rfl, ?_⟩) (by assumption) ?_
        rotate_left
        · intro wz hSw; (try dsimp only at hSw); go_simp; try with_reducible rfl
        (try simp only [Act.put]); (try simp only [List.setIfInBounds_toArray]); (try simp only [List.set_cons_succ]); (try simp only [List.set_cons_zero])
        refine wpAnyH_take (i := 3) (v := ?_) rfl (by kernel_rfl) (by kernel_rfl) (by kernel_rfl) (fun _ _ _ h => h) (Or.inl ⟨by rfl, ?_⟩) (by assumption) ?_
        rotate_left
        · intro wz hSw; (try dsimp only at hSw); go_simp; try with_reducible rfl
        (try simp only [Act.put]); (try simp only [List.setIfInBounds_toArray]); (try simp only [List.set_cons_succ]); (try simp only [List.set_cons_zero])
        refine wpAnyH_take (i := 4) (v := ?_) rfl (by kernel_rfl) (by kernel_rfl) (by kernel_rfl) (fun _ _ _ h => h) (Or.inl ⟨by rfl, ?_⟩) (by assumption) ?_
        rotate_left
        · intro wz hSw; (try dsimp only at hSw); go_simp; try with_reducible rfl
        (try simp only [Act.put]); (try simp only [List.setIfInBounds_toArray]); (try simp only [List.set_cons_succ]); (try simp only [List.set_cons_zero])
        refine wpAnyH_take (i := 5) (v := ?_) rfl (by kernel_rfl) (by kernel_rfl) (by kernel_rfl) (fun _ _ _ h => h) (Or.inl ⟨by rfl, ?_⟩) (by assumption) ?_
        rotate_left
        · intro wz hSw; (try dsimp only at hSw); go_simp; try with_reducible rfl
        (try simp only [Act.put]); (try simp only [List.setIfInBounds_toArray]); (try simp only [List.set_cons_succ]); (try simp only [List.set_cons_zero])
        refine wpAnyH_take (i := 6) (v := ?_) rfl (by kernel_rfl) (by kernel_rfl) (by kernel_rfl) (fun _ _ _ h => h) (Or.inl ⟨by rfl, ?_⟩) (by assumption) ?_
        rotate_left
        · intro wz hSw; (try dsimp only at hSw); go_simp; try with_reducible rfl
        (try simp only [Act.put]); (try simp only [List.setIfInBounds_toArray]); (try simp only [List.set_cons_succ]); (try simp only [List.set_cons_zero])
        refine wpAnyH_take (i := 7) (v := ?_) rfl (by kernel_rfl) (by kernel_rfl) (by kernel_rfl) (fun _ _ _ h => h) (Or.inl ⟨by rfl, ?_⟩) (by assumption) ?_
        rotate_left
        · intro wz hSw; (try dsimp only at hSw); go_simp; try with_reducible rfl
        (try simp only [Act.put]); (try simp only [List.setIfInBounds_toArray]); (try simp only [List.set_cons_succ]); (try simp only [List.set_cons_zero])
        refine wpAnyH_take (i := 8) (v := ?_) rfl (by kernel_rfl) (by kernel_rfl) (by kernel_rfl) (fun _ _ _ h => h) (Or.inl ⟨by rfl, ?_⟩) (by assumption) ?_
        rotate_left
        · intro wz hSw; (try dsimp only at hSw); go_simp; try with_reducible rfl
        (try simp only [Act.put]); (try simp only [List.setIfInBounds_toArray]); (try simp only [List.set_cons_succ]); (try simp only [List.set_cons_zero])
        refine wpAnyH_take (i := 9) (v := ?_) rfl (by kernel_rfl) (by kernel_rfl) (by kernel_rfl) (fun _ _ _ h => h) (Or.inl ⟨by rfl, ?_⟩) (by assumption) ?_
        rotate_left
        · intro wz hSw; (try dsimp only at hSw); go_simp; try with_reducible rfl
        (try simp only [Act.put]); (try simp only [List.setIfInBounds_toArray]); (try simp only [List.set_cons_succ]); (try simp only [List.set_cons_zero])
        refine wpAnyH_take (i := 10) (v := ?_) rfl (by kernel_rfl) (by kernel_rfl) (by kernel_rfl) (fun _ _ _ h => h) (Or.inl ⟨by rfl, ?_⟩) (by assumption) ?_
        rotate_left
        · intro wz hSw; (try dsimp only at hSw); go_simp; try with_reducible rfl
        (try simp only [Act.put]); (try simp only [List.setIfInBounds_toArray]); (try simp only [List.set_cons_succ]); (try simp only [List.set_cons_zero])
        refine wpAnyH_take (i := 11) (v := ?_) rfl (by kernel_rfl) (by kernel_rfl) (by kernel_rfl) (fun _ _ _ h => h) (Or.inl ⟨by rfl, ?_⟩) (by assumption) ?_
        rotate_left
        · intro wz hSw; (try dsimp only at hSw); go_simp; try with_reducible rfl
        (try simp only [Act.put]); (try simp only [List.setIfInBounds_toArray]); (try simp only [List.set_cons_succ]); (try simp only [List.set_cons_zero])
        refine wpAnyH_take (i := 12) (v := ?_) rfl (by kernel_rfl) (by kernel_rfl) (by kernel_rfl) (fun _ _ _ h => h) (Or.inl ⟨by rfl, ?_⟩) (by assumption) ?_
        rotate_left
        · intro wz hSw; (try dsimp only at hSw); go_simp; try with_reducible rfl
        (try simp only [Act.put]); (try simp only [List.setIfInBounds_toArray]); (try simp only [List.set_cons_succ]); (try simp only [List.set_cons_zero])
        refine wpAnyH_take (i := 13) (v := ?_) rfl (by kernel_rfl) (by kernel_rfl) (by kernel_rfl) (fun _ _ _ h => h) (Or.inl ⟨by rfl, ?_⟩) (by assumption) ?_
        rotate_left
        · intro wz hSw; (try dsimp only at hSw); go_simp; try with_reducible rfl
        (try simp only [Act.put]); (try simp only [List.setIfInBounds_toArray]); (try simp only [List.set_cons_succ]); (try simp only [List.set_cons_zero])
        refine wpAnyH_take (i := 14) (v := ?_) rfl (by kernel_rfl) (by kernel_rfl) (by kernel_rfl) (fun _ _ _ h => h) (Or.inl ⟨by rfl, ?_⟩) (by assumption) ?_
        rotate_left
        · intro wz hSw; (try dsimp only at hSw); go_simp; try with_reducible rfl
        (try simp only [Act.put]); (try simp only [List.setIfInBounds_toArray]); (try simp only [List.set_cons_succ]); (try simp only [List.set_cons_zero])
        refine wpAnyH_take (i := 15) (v := ?_) rfl (by kernel_rfl) (by kernel_rfl) (by kernel_rfl) (fun _ _ _ h => h) (Or.inl ⟨by rfl, ?_⟩) (by assumption) ?_
        rotate_left
        · intro wz hSw; (try dsimp only at hSw); go_simp; try with_reducible rfl
        (try simp only [Act.put]); (try simp only [List.setIfInBounds_toArray]); (try simp only [List.set_cons_succ]); (try simp only [List.set_cons_zero])
        refine wpAnyH_take (i := 16) (v := ?_) rfl (by kernel_rfl) (by kernel_rfl) (by kernel_rfl) (fun _ _ _ h => h) (Or.inl ⟨by rfl, ?_⟩) (by assumption) ?_
        rotate_left
        · intro wz hSw; (try dsimp only at hSw); go_simp; try with_reducible rfl
        (try simp only [Act.put]); (try simp only [List.setIfInBounds_toArray]); (try simp only [List.set_cons_succ]); (try simp only [List.set_cons_zero])
        refine wpAnyH_take (i := 17) (v := ?_) rfl (by kernel_rfl) (by kernel_rfl) (by kernel_rfl) (fun _ _ _ h => h) (Or.inl ⟨by rfl, ?_⟩) (by assumption) ?_
        rotate_left
        · intro wz hSw; (try dsimp only at hSw); go_simp; try with_reducible rfl
        (try simp only [Act.put]); (try simp only [List.setIfInBounds_toArray]); (try simp only [List.set_cons_succ]); (try simp only [List.set_cons_zero])
        refine wpAnyH_take (i := 18) (v := ?_) rfl (by kernel_rfl) (by kernel_rfl) (by kernel_rfl) (fun _ _ _ h => h) (Or.inl ⟨by rfl, ?_⟩) (by assumption) ?_
        rotate_left
        · intro wz hSw; (try dsimp only at hSw); go_simp; try with_reducible rfl
        (try simp only [Act.put]); (try simp only [List.setIfInBounds_toArray]); (try simp only [List.set_cons_succ]); (try simp only [List.set_cons_zero])
        refine wpAnyH_take (i := 19) (v := ?_) rfl (by kernel_rfl) (by kernel_rfl) (by kernel_rfl) (fun _ _ _ h => h) (Or.inl ⟨by rfl, ?_⟩) (by assumption) ?_
        rotate_left
        · intro wz hSw; (try dsimp only at hSw); go_simp; try with_reducible rfl
        (try simp only [Act.put]); (try simp only [List.setIfInBounds_toArray]); (try simp only [List.set_cons_succ]); (try simp only [List.set_cons_zero])
        refine wpAnyH_take (i := 20) (v := ?_) rfl (by kernel_rfl) (by kernel_rfl) (by kernel_rfl) (fun _ _ _ h => h) (Or.inl ⟨by rfl, ?_⟩) (by assumption) ?_
        rotate_left
        · intro wz hSw; (try dsimp only at hSw); go_simp; try with_reducible rfl
        (try simp only [Act.put]); (try simp only [List.setIfInBounds_toArray]); (try simp only [List.set_cons_succ]); (try simp only [List.set_cons_zero])
        refine wpAnyH_take (i := 21) (v := ?_) rfl (by kernel_rfl) (by kernel_rfl) (by kernel_rfl) (fun _ _ _ h => h) (Or.inl ⟨by rfl, ?_⟩) (by assumption) ?_
        rotate_left
        · intro wz hSw; (try dsimp only at hSw); go_simp; try with_reducible rfl
        (try simp only [Act.put]); (try simp only [List.setIfInBounds_toArray]); (try simp only [List.set_cons_succ]); (try simp only [List.set_cons_zero])
        refine wpAnyH_take (i := 22) (v := ?_) rfl (by kernel_rfl) (by kernel_rfl) (by kernel_rfl) (fun _ _ _ h => h) (Or.inl ⟨by rfl, ?_⟩) (by assumption) ?_
        rotate_left
        · intro wz hSw; (try dsimp only at hSw); go_simp; try with_reducible rfl
        (try simp only [Act.put]); (try simp only [List.setIfInBounds_toArray]); (try simp only [List.set_cons_succ]); (try simp only [List.set_cons_zero])
        refine wpAnyH_take (i := 23) (v := ?_) rfl (by kernel_rfl) (by kernel_rfl) (by kernel_rfl) (fun _ _ _ h => h) (Or.inl ⟨by rfl, ?_⟩) (by assumption) ?_
        rotate_left
        · intro wz hSw; (try dsimp only at hSw); go_simp; try with_reducible rfl
        (try simp only [Act.put]); (try simp only [List.setIfInBounds_toArray]); (try simp only [List.set_cons_succ]); (try simp only [List.set_cons_zero])
        refine wpAnyH_take (i := 24) (v := ?_) rfl (by kernel_rfl) (by kernel_rfl) (by kernel_rfl) (fun _ _ _ h => h) (Or.inl ⟨by rfl, ?_⟩) (by assumption) ?_
        rotate_left
        · intro wz hSw; (try dsimp only at hSw); go_simp; try with_reducible rfl
        (try simp only [Act.put]); (try simp only [List.setIfInBounds_toArray]); (try simp only [List.set_cons_succ]); (try simp only [List.set_cons_zero])
        refine wpAnyH_take (i := 25) (v := ?_) rfl (by kernel_rfl) (by kernel_rfl) (by kernel_rfl) (fun _ _ _ h => h) (Or.inl ⟨by rfl, ?_⟩) (by assumption) ?_
        rotate_left
        · intro wz hSw; (try dsimp only at hSw); go_simp; try with_reducible rfl
        (try simp only [Act.put]); (try simp only [List.setIfInBounds_toArray]); (try simp only [List.set_cons_succ]); (try simp only [List.set_cons_zero])
        refine wpAnyH_ready (rs := [1, 26]) (by kernel_rfl) (by simp) ?_
        refine AllReadyH.cons rfl (fun K hK => ?_) (AllReadyH.cons rfl (fun K hK => ?_) AllReadyH.nil)
        · go_simp
          refine hK.out _ _ (HS _ hd) (fun hHeld => ?_)
          clear hK K
          (try simp only [Act.put]); (try simp only [List.setIfInBounds_toArray]); (try simp only [List.set_cons_succ]); (try simp only [List.set_cons_zero])
          refine wpAnyH_ready (rs := [26]) (by kernel_rfl) (by simp) ?_
          refine AllReadyH.cons rfl (fun K hK => ?_) AllReadyH.nil
          go_simp
          with_reducible refine hpl.mono ?_
          rintro e w2 ⟨rfl, b2⟩
          try dsimp only
          have hB2 := past hB b2
          have hb2a := fun o => hB2.alloc hB2.size o
          have c8b := (SCells.of (hSB.later b2)).c8
          have c8c := fun o => (SCells.of (hSB.later (b2.alloc b2.size o))).c8
          obtain ⟨g', c', wN, hrun, hownN, bN⟩ := app_one (own_later hown b2) (by have := b2.size; omega) (by have := hacc.out; omega) x
          have hSN : SB wN (w.heap.size + 1) RS.zero aS acc.length cap := (bN.block _ (by omega)).trans (hSB.later b2)
          have hRN := (bN.block w.heap.size (by omega)).trans (cells_of hRz b2)
          have hBN : Below w.heap.size w wN := hB2.trans (bN.mono (by omega))
          have d8 := (SCells.of hSN).c8
          have df := cells_frozen hSN 8
          refine hK.out _ _ (HS _ hB2) (fun hHeld => ?_)
          clear hK K
          (try simp only [Act.put]); (try simp only [List.setIfInBounds_toArray]); (try simp only [List.set_cons_succ]); (try simp only [List.set_cons_zero])
          refine wpAnyH_ready (rs := [27]) (by kernel_rfl) (by simp) ?_
          refine AllReadyH.cons rfl (fun K hK => ?_) AllReadyH.nil
          go_simp
          refine hK.out _ _ (HS _ (hb2a _)) (fun hHeld => ?_)
          clear hK K
          (try simp only [Act.put]); (try simp only [List.setIfInBounds_toArray]); (try simp only [List.set_cons_succ]); (try simp only [List.set_cons_zero])
          refine wpAnyH_ready (rs := [28]) (by kernel_rfl) (by simp) ?_
          refine AllReadyH.cons rfl (fun K hK => ?_) AllReadyH.nil
          refine stepAppend (P := Tryd.prog) rfl (.tmp 23) (.tmp 49) 24 rfl (.slice aS acc.length cap) (.slice (some ⟨w2.heap.size, 0, none⟩) 1 1) (by simp [Act.eval]) (by simp [Act.eval]) 24 rfl hrun ?_
          refine hK.out _ _ (HS _ hBN) (fun hHeld => ?_)
          clear hK K
          (try simp only [Act.put]); (try simp only [List.setIfInBounds_toArray]); (try simp only [List.set_cons_succ]); (try simp only [List.set_cons_zero])
          refine wpAnyH_take (i := 29) (v := ?_) rfl (by kernel_rfl) (by kernel_rfl) (by kernel_rfl) (fun _ _ _ h => h) (Or.inl ⟨by rfl, ?_⟩) (by assumption) ?_
          rotate_left
          · intro wz hSw; (try dsimp only at hSw); go_simp; try with_reducible rfl
          (try simp only [Act.put]); (try simp only [List.setIfInBounds_toArray]); (try simp only [List.set_cons_succ]); (try simp only [List.set_cons_zero])
          refine wpAnyH_ready (rs := [30]) (by kernel_rfl) (by simp) ?_
          refine AllReadyH.cons rfl (fun K hK => ?_) AllReadyH.nil
          go_simp
          refine hK.out _ _ (HS _ (hBN.setCell (p := ⟨w.heap.size + 1, 8, none⟩) (Nat.le_succ _) _)) (fun hHeld => ?_)
          clear hK K
          (try simp only [Act.put]); (try simp only [List.setIfInBounds_toArray]); (try simp only [List.set_cons_succ]); (try simp only [List.set_cons_zero])
          refine wpAnyH_done (by kernel_rfl) ?_ _
          go_wp2_with fail
          go_roundg (K' - (k + 1))
          case measure => omega
          case rel => exact ⟨k + 1, I + 5, _, c', acc ++ [x], by omega, by go_num, by show _ = _; have := hI.out; omega, by show _ = _; have := hacc.out; simp; omega, by rw [List.length_append]; exact hSN.setC _ _ _, own_set hownN (by show w.heap.size + 1 < _; omega) _, (Below.heap_setCell _ _ _ _ (by show w.heap.size ≠ w.heap.size + 1; omega)).trans hRN, hBN.setCell (Nat.le_succ _) _⟩
        · skip
          go_simp
          with_reducible refine hpl.mono ?_
          rintro e w2 ⟨rfl, b2⟩
          try dsimp only
          have hB2 := past hB b2
          have hb2a := fun o => hB2.alloc hB2.size o
          have c8b := (SCells.of (hSB.later b2)).c8
          have c8c := fun o => (SCells.of (hSB.later (b2.alloc b2.size o))).c8
          obtain ⟨g', c', wN, hrun, hownN, bN⟩ := app_one (own_later hown b2) (by have := b2.size; omega) (by have := hacc.out; omega) x
          have hSN : SB wN (w.heap.size + 1) RS.zero aS acc.length cap := (bN.block _ (by omega)).trans (hSB.later b2)
          have hRN := (bN.block w.heap.size (by omega)).trans (cells_of hRz b2)
          have hBN : Below w.heap.size w wN := hB2.trans (bN.mono (by omega))
          have d8 := (SCells.of hSN).c8
          have df := cells_frozen hSN 8
          refine hK.out _ _ (HS _ hB2) (fun hHeld => ?_)
          clear hK K
          (try simp only [Act.put]); (try simp only [List.setIfInBounds_toArray]); (try simp only [List.set_cons_succ]); (try simp only [List.set_cons_zero])
          refine wpAnyH_ready (rs := [1, 27]) (by kernel_rfl) (by simp) ?_
          refine AllReadyH.cons rfl (fun K hK => ?_) (AllReadyH.cons rfl (fun K hK => ?_) AllReadyH.nil)
          · go_simp
            refine hK.out _ _ (HS _ hB2) (fun hHeld => ?_)
            clear hK K
            (try simp only [Act.put]); (try simp only [List.setIfInBounds_toArray]); (try simp only [List.set_cons_succ]); (try simp only [List.set_cons_zero])
            refine wpAnyH_ready (rs := [27]) (by kernel_rfl) (by simp) ?_
            refine AllReadyH.cons rfl (fun K hK => ?_) AllReadyH.nil
            go_simp
            refine hK.out _ _ (HS _ (hb2a _)) (fun hHeld => ?_)
            clear hK K
            (try simp only [Act.put]); (try simp only [List.setIfInBounds_toArray]); (try simp only [List.set_cons_succ]); (try simp only [List.set_cons_zero])
            refine wpAnyH_ready (rs := [28]) (by kernel_rfl) (by simp) ?_
            refine AllReadyH.cons rfl (fun K hK => ?_) AllReadyH.nil
            refine stepAppend (P := Tryd.prog) rfl (.tmp 23) (.tmp 49) 24 rfl (.slice aS acc.length cap) (.slice (some ⟨w2.heap.size, 0, none⟩) 1 1) (by simp [Act.eval]) (by simp [Act.eval]) 24 rfl hrun ?_
            refine hK.out _ _ (HS _ hBN) (fun hHeld => ?_)
            clear hK K
            (try simp only [Act.put]); (try simp only [List.setIfInBounds_toArray]); (try simp only [List.set_cons_succ]); (try simp only [List.set_cons_zero])
            refine wpAnyH_take (i := 29) (v := ?_) rfl (by kernel_rfl) (by kernel_rfl) (by kernel_rfl) (fun _ _ _ h => h) (Or.inl ⟨by rfl, ?_⟩) (by assumption) ?_
            rotate_left
            · intro wz hSw; (try dsimp only at hSw); go_simp; try with_reducible rfl
            (try simp only [Act.put]); (try simp only [List.setIfInBounds_toArray]); (try simp only [List.set_cons_succ]); (try simp only [List.set_cons_zero])
            refine wpAnyH_ready (rs := [30]) (by kernel_rfl) (by simp) ?_
            refine AllReadyH.cons rfl (fun K hK => ?_) AllReadyH.nil
            go_simp
            refine hK.out _ _ (HS _ (hBN.setCell (p := ⟨w.heap.size + 1, 8, none⟩) (Nat.le_succ _) _)) (fun hHeld => ?_)
            clear hK K
            (try simp only [Act.put]); (try simp only [List.setIfInBounds_toArray]); (try simp only [List.set_cons_succ]); (try simp only [List.set_cons_zero])
            refine wpAnyH_done (by kernel_rfl) ?_ _
            go_wp2_with fail
            go_roundg (K' - (k + 1))
            case measure => omega
            case rel => exact ⟨k + 1, I + 5, _, c', acc ++ [x], by omega, by go_num, by show _ = _; have := hI.out; omega, by show _ = _; have := hacc.out; simp; omega, by rw [List.length_append]; exact hSN.setC _ _ _, own_set hownN (by show w.heap.size + 1 < _; omega) _, (Below.heap_setCell _ _ _ _ (by show w.heap.size ≠ w.heap.size + 1; omega)).trans hRN, hBN.setCell (Nat.le_succ _) _⟩
          · go_simp
            refine hK.out _ _ (HS _ (hb2a _)) (fun hHeld => ?_)
            clear hK K
            (try simp only [Act.put]); (try simp only [List.setIfInBounds_toArray]); (try simp only [List.set_cons_succ]); (try simp only [List.set_cons_zero])
            refine wpAnyH_ready (rs := [1]) (by kernel_rfl) (by simp) ?_
            refine AllReadyH.cons rfl (fun K hK => ?_) AllReadyH.nil
            go_simp
            refine hK.out _ _ (HS _ (hb2a _)) (fun hHeld => ?_)
            clear hK K
            (try simp only [Act.put]); (try simp only [List.setIfInBounds_toArray]); (try simp only [List.set_cons_succ]); (try simp only [List.set_cons_zero])
            refine wpAnyH_ready (rs := [28]) (by kernel_rfl) (by simp) ?_
            refine AllReadyH.cons rfl (fun K hK => ?_) AllReadyH.nil
            refine stepAppend (P := Tryd.prog) rfl (.tmp 23) (.tmp 49) 24 rfl (.slice aS acc.length cap) (.slice (some ⟨w2.heap.size, 0, none⟩) 1 1) (by simp [Act.eval]) (by simp [Act.eval]) 24 rfl hrun ?_
            refine hK.out _ _ (HS _ hBN) (fun hHeld => ?_)
            clear hK K
            (try simp only [Act.put]); (try simp only [List.setIfInBounds_toArray]); (try simp only [List.set_cons_succ]); (try simp only [List.set_cons_zero])
            refine wpAnyH_take (i := 29) (v := ?_) rfl (by kernel_rfl) (by kernel_rfl) (by kernel_rfl) (fun _ _ _ h => h) (Or.inl ⟨by rfl, ?_⟩) (by assumption) ?_
            rotate_left
            · intro wz hSw; (try dsimp only at hSw); go_simp; try with_reducible rfl
            (try simp only [Act.put]); (try simp only [List.setIfInBounds_toArray]); (try simp only [List.set_cons_succ]); (try simp only [List.set_cons_zero])
            refine wpAnyH_ready (rs := [30]) (by kernel_rfl) (by simp) ?_
            refine AllReadyH.cons rfl (fun K hK => ?_) AllReadyH.nil
            go_simp
            refine hK.out _ _ (HS _ (hBN.setCell (p := ⟨w.heap.size + 1, 8, none⟩) (Nat.le_succ _) _)) (fun hHeld => ?_)
            clear hK K
            (try simp only [Act.put]); (try simp only [List.setIfInBounds_toArray]); (try simp only [List.set_cons_succ]); (try simp only [List.set_cons_zero])
            refine wpAnyH_done (by kernel_rfl) ?_ _
            go_wp2_with fail
            go_roundg (K' - (k + 1))
            case measure => omega
            case rel => exact ⟨k + 1, I + 5, _, c', acc ++ [x], by omega, by go_num, by show _ = _; have := hI.out; omega, by show _ = _; have := hacc.out; simp; omega, by rw [List.length_append]; exact hSN.setC _ _ _, own_set hownN (by show w.heap.size + 1 < _; omega) _, (Below.heap_setCell _ _ _ _ (by show w.heap.size ≠ w.heap.size + 1; omega)).trans hRN, hBN.setCell (Nat.le_succ _) _⟩
      · have hx : ¬ ((I : Int) + 4 < (len0 : Int)) ∨ ((I : Int) + 4 < (len0 : Int)) ∧ ¬ ((I : Int) < 60) := by have := hI.out; omega
        have hI60 : (I : Int) ≤ 60 := by have := hI.out; omega
        have hfin : ∃ (aS' : Option Addr) (cap' : Nat) (l : List Ins), l.length ≤ 12 ∧ SB wr (w.heap.size + 1) RS.zero aS' l.length cap' ∧ IsF wr (w.heap.size + 1) aS' l ∧ (∀ g, aS' = some ⟨g, 0, none⟩ → g ≠ w.heap.size) ∧ wr.heap[w.heap.size]? = some (.cells zCells 45 (0, 0)) ∧ Below w.heap.size w wr :=
          ⟨aS, cap, acc, by have := hacc.out; omega, hSB, IsF.own hown (by omega), fun g hg => by subst hg; have := (hown.lt g rfl).1; omega, hRz, hB⟩
        clear hSB hown hRz hB
        rcases hx with k1 | ⟨k1, k2⟩
        all_goals
          go_wp2_with fail
          go_meet
          exact hfin
  case rest =>
    obtain ⟨aS, cap, l, hl12, hSB, hIF, hag, hRz, hB⟩ := hcut
    go_upto_block 2 with fail
    go_cut [9] (fun _ wr => ∃ rr : Nat → Int, SB wr (w.heap.size + 1) ⟨rr, 0⟩ aS l.length cap ∧ IsF wr (w.heap.size + 1) aS l ∧ (∀ j, 0 ≤ rr j ∧ rr j < 18446744073709551616) ∧ wr.heap[w.heap.size]? = some (.cells zCells 45 (0, 0)) ∧ Below w.heap.size w wr)
    case first =>
      obtain ⟨K, hK⟩ : ∃ K : Nat, K = min len1 8 := ⟨_, rfl⟩
      go_wp2_with fail
      go_loopg [9] K (fun g i wr => ∃ (k : Nat) (rr : Nat → Int), g + k = K ∧ i = .int .i64 k ∧ SB wr (w.heap.size + 1) ⟨rr, 0⟩ aS l.length cap ∧ IsF wr (w.heap.size + 1) aS l ∧ Hid (∀ j, 0 ≤ rr j ∧ rr j < 18446744073709551616) ∧ wr.heap[w.heap.size]? = some (.cells zCells 45 (0, 0)) ∧ Below w.heap.size w wr)
      case atStart => exact ⟨0, fun _ => 0, by omega, rfl, hSB, hIF, (by intro j; exact ⟨Int.le_refl 0, show (0 : Int) < 18446744073709551616 by decide⟩), hRz, hB⟩
      case round =>
        obtain ⟨k, rr, hg, rfl, hSB, hI, hrr, hRz, hB⟩ := hrel
        by_cases hk : k < K
        · have k1 : (k : Int) < (len1 : Int) := by omega
          have k2 : (k : Int) < 8 := by omega
          rcases q1 with q1 | ⟨b2, o2, rfl, hb2, hc2⟩
          · omega
          have cc := Plain.cell hc2 hb2 hB k (by omega)
          have cw := (hc2 k (by omega)).2
          have cs := hSB.cell (k := k) (by omega)
          have cf := cells_frozen hSB k
          have cr : Hid (0 ≤ z1.getD k 0 ∧ z1.getD k 0 < 18446744073709551616) := by
            show _ ∧ _
            have e1 : IntKind.u64.min = 0 := by decide
            have e2 : IntKind.u64.max = 18446744073709551615 := by decide
            simp only [Lit.wf, decide_eq_true_eq, Bool.and_eq_true, e1, e2] at cw
            omega
          generalize z1.getD k 0 = y at *
          clear cw hc2
          go_wp2_with fail
          go_roundg (K - (k + 1))
          case measure => omega
          case rel => exact ⟨k + 1, _, by omega, by go_num, hSB.setR (by omega) _, hI.set _ _, upd_words hrr.out cr.out, (Below.heap_setCell _ _ _ _ (by show w.heap.size ≠ w.heap.size + 1; omega)).trans hRz, hB.setCell (Nat.le_succ _) _⟩
        · have hx : ¬ ((k : Int) < (len1 : Int)) ∨ ((k : Int) < (len1 : Int)) ∧ ¬ ((k : Int) < 8) := by omega
          have hfin : ∃ rr : Nat → Int, SB wr (w.heap.size + 1) ⟨rr, 0⟩ aS l.length cap ∧ IsF wr (w.heap.size + 1) aS l ∧ (∀ j, 0 ≤ rr j ∧ rr j < 18446744073709551616) ∧ wr.heap[w.heap.size]? = some (.cells zCells 45 (0, 0)) ∧ Below w.heap.size w wr := ⟨rr, hSB, hI, hrr.out, hRz, hB⟩
          clear hSB hI hrr hRz hB
          rcases hx with k1 | ⟨k1, k2⟩
          all_goals
            go_wp2_with fail
            go_meet
            exact hfin
    case rest =>
      clear hSB hIF hRz hB
      obtain ⟨rr, hSB, hIF, hrr, hRz, hB⟩ := hcut
      have hrr' : Hid (∀ j, 0 ≤ rr j ∧ rr j < 18446744073709551616) := hrr
      clear hrr
      have P0 := Int.emod_nonneg pc (b := (l.length : Int) + 2) (by omega)
      have P1 := Int.emod_lt_of_pos pc (b := (l.length : Int) + 2) (by omega)
      have hWn : ∀ wx, Calls Tryd.prog 17 #[.int .i64 pc, .int .i64 ((l.length : Int) + 2)] wx fun e w' => e = .returned (.int .i64 (pc % ((l.length : Int) + 2))) ∧ wx = w' := fun wx => within_any pc _ wx (by omega) (by omega)
      generalize pc % ((l.length : Int) + 2) = P at *
      have y8 := (SCells.of hSB).c8
      have y9 := (SCells.of hSB).c9
      have yf := cells_frozen hSB 9
      go_upto_region 11 with (go_at_call 17; refine (hWn _).mono ?_; rintro e wq ⟨rfl, rfl⟩)
      have hSB1 := hSB.setPC P
      have hI1 := hIF.set 9 (.int .i64 P)
      have hR1 := (Below.heap_setCell wc ⟨w.heap.size + 1, 9, none⟩ (.int .i64 P) w.heap.size (by show w.heap.size ≠ w.heap.size + 1; omega)).trans hRz
      have hB1 := hB.setCell (p := ⟨w.heap.size + 1, 9, none⟩) (Nat.le_succ _) (.int .i64 P)
      clear hSB hIF hRz hB y8 y9 yf hWn
      generalize wc.setCell ⟨w.heap.size + 1, 9, none⟩ (.int .i64 P) = W1 at *
      by_cases h12 : pc.tmod 13 = 12
      · have y9 := (SCells.of hSB1).c9
        have yf := cells_frozen hSB1 9
        go_upto_region 13 with fail
        have hSB2 := hSB1.setPC pc
        have hI2 := hI1.set 9 (.int .i64 pc)
        have hR2 := (Below.heap_setCell W1 ⟨w.heap.size + 1, 9, none⟩ (.int .i64 pc) w.heap.size (by show w.heap.size ≠ w.heap.size + 1; omega)).trans hR1
        have hB2 := hB1.setCell (p := ⟨w.heap.size + 1, 9, none⟩) (Nat.le_succ _) (.int .i64 pc)
        clear y9 yf hSB1 hI1 hR1 hB1
        generalize W1.setCell ⟨w.heap.size + 1, 9, none⟩ (.int .i64 pc) = W2 at *
        obtain ⟨m0, m1, m2, m3, m4, m5, m6, m7, m8, m9⟩ := SCells.of (r := fun _ => 0) hR2
        have mf := cells_frozen hR2
        obtain ⟨y0, y1, y2, y3, y4, y5, y6, y7, y8, y9⟩ := SCells.of hSB2
        go_wp2_with fail
        refine bodyPost_ret (v := stV ⟨rr, pc⟩ aS l.length cap) (by simp [results, Tryd.results24, go_sem, stV, m0, m1, m2, m3, m4, m5, m6, m7, m8, m9]) rfl ⟨⟨rr, pc⟩, aS, l, ⟨cap, rfl⟩, ?_, hl12, hrr'.out, by show _ ≤ (pc : Int); omega, by show (pc : Int) ≤ _; omega, ?_⟩
        · exact (IsF.put (IsF.of hI2.toL hag) ⟨rr, pc⟩ aS l.length cap).toL
        · exact put10_below (s := ⟨rr, pc⟩) hB2 (Nat.le_refl _)
      · have h12' : (pc.tmod 13 == 12) = false := by simpa using h12
        obtain ⟨m0, m1, m2, m3, m4, m5, m6, m7, m8, m9⟩ := SCells.of (r := fun _ => 0) hR1
        have mf := cells_frozen hR1
        obtain ⟨y0, y1, y2, y3, y4, y5, y6, y7, y8, y9⟩ := SCells.of hSB1
        go_wp2_with fail
        refine bodyPost_ret (v := stV ⟨rr, P⟩ aS l.length cap) (by simp [results, Tryd.results24, go_sem, stV, m0, m1, m2, m3, m4, m5, m6, m7, m8, m9]) rfl ⟨⟨rr, P⟩, aS, l, ⟨cap, rfl⟩, ?_, hl12, hrr'.out, by show _ ≤ (P : Int); omega, by show (P : Int) ≤ _; omega, ?_⟩
        · exact (IsF.put (IsF.of hI1.toL hag) ⟨rr, P⟩ aS l.length cap).toL
        · exact put10_below (s := ⟨rr, P⟩) hB1 (Nat.le_refl _)
end Go.Proofs.YtdhamejgdapdjaaDoor

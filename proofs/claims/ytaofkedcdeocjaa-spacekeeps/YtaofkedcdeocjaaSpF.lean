/-
  A process's tables: Boot, New, Roots.
-/
import Derived.Test.YtaofkedcdeocjaaSpE
namespace Go.Proofs.Ytaofkedcdeocjaa
open Go.ChangeShapes Go.WideShapes Go.ChangeAt Go.RowKit

set_option maxHeartbeats 1000000 in
theorem fits_yes {w : World} {b c : Nat} {s : MS} (m : MemAt w b c s) (P : Int) (kpti inv : Bool) (h24 : 24 ≤ s.n) (hP : 1 ≤ P ∧ P ≤ 2) :
    Calls Try.prog 47 #[cfV s.n P kpti inv, .pointer (some ⟨b, 0, none⟩)] w fun e w' => e = .returned (.bool true) ∧ Touch Nil w w' := by
  have hle := m.le
  have g1 : (24 : Int) ≤ (s.n : Int) := by omega
  have g2 : (s.n : Int) ≤ 64 := by omega
  have g3 := hP.1
  have g4 := hP.2
  have t0 := (Touch.refl Nil w).alloc (.cells #[.int .i64 s.n, .int .i64 P, .bool kpti, .bool inv] 25)
  have m0 := m.touch t0 (fun h => h) (fun h => h)
  have hF : ∀ n, Calls Try.prog 51 #[.pointer (some ⟨b, 0, none⟩)] ((w.alloc (.cells #[.int .i64 s.n, .int .i64 P, .bool kpti, .bool inv] 25)).drewN n) fun e w' => e = .returned (.int .i64 s.n) ∧ w' = (w.alloc (.cells #[.int .i64 s.n, .int .i64 P, .bool kpti, .bool inv] 25)).drewN n := fun n => by
    refine (frames_any (m0.touch ((Touch.refl Nil _).drews n) (fun h => h) (fun h => h))).mono ?_
    rintro e w' ⟨rfl, rfl⟩
    exact ⟨rfl, rfl⟩
  have hc0 : (w.alloc (.cells #[.int .i64 s.n, .int .i64 P, .bool kpti, .bool inv] 25)).cell? ⟨w.heap.size, 0, none⟩ = some (.int .i64 s.n) := by simp [go_sem]
  have hc1 : (w.alloc (.cells #[.int .i64 s.n, .int .i64 P, .bool kpti, .bool inv] 25)).cell? ⟨w.heap.size, 1, none⟩ = some (.int .i64 P) := by simp [go_sem]
  unfold cfV
  go_enter Try.func47, Try.ntmps47
  go_upto_region 1 with fail
  generalize w.alloc (.cells #[.int .i64 s.n, .int .i64 P, .bool kpti, .bool inv] 25) = W at *
  generalize w.heap.size = G at *
  generalize (s.n : Int) = F at *
  have hFF : (F == F) = true := by simp
  go_quiet ((go_at_call 51; with_reducible exact Calls.quiet_of_same (hF _)))
  go_wp2
  go_ret
  exact ⟨rfl, t0.drews _⟩

set_option maxHeartbeats 1000000 in
theorem boot_yes {w : World} {b c : Nat} {s : MS} (m : MemAt w b c s) (P : Int) (kpti inv : Bool) (h24 : 24 ≤ s.n) (hP : 1 ≤ P ∧ P ≤ 2) :
    Calls Try.prog 10 #[cfV s.n P kpti inv, .pointer (some ⟨b, 0, none⟩)] w fun e w' => e = .returned (.tuple #[.agg #[.int .i64 3, .int .i64 13], .bool true]) ∧ MemAt w' b c (s.boot kpti) ∧ Touch (· = c) w w' := by
  have hle := m.le
  have hcl : c < w.heap.size := m.row.lt
  have hf := fun wx (tx : Touch Nil w wx) => fits_yes (m.touch tx (fun h => h) (fun h => h)) P kpti inv h24 hP
  have t0 := ((Touch.refl Nil w).alloc (.cells #[.int .i64 s.n, .int .i64 P, .bool kpti, .bool inv] 25)).alloc (.cells #[.int .i64 0, .int .i64 0] 29)
  have hg : ((w.alloc (.cells #[.int .i64 s.n, .int .i64 P, .bool kpti, .bool inv] 25)).alloc (.cells #[.int .i64 0, .int .i64 0] 29)).heap[w.heap.size]? = some (.cells #[.int .i64 s.n, .int .i64 P, .bool kpti, .bool inv] 25 (0, 0)) := (Below.heap_alloc _ _ _ (by simp)).trans (heap_alloc_new w _)
  have hk : ((w.alloc (.cells #[.int .i64 s.n, .int .i64 P, .bool kpti, .bool inv] 25)).alloc (.cells #[.int .i64 0, .int .i64 0] 29)).heap[w.heap.size + 1]? = some (.cells #[.int .i64 0, .int .i64 0] 29 (0, 0)) := by
    have := heap_alloc_new (w.alloc (.cells #[.int .i64 s.n, .int .i64 P, .bool kpti, .bool inv] 25)) (.cells #[.int .i64 0, .int .i64 0] 29)
    rw [World.size_alloc] at this
    exact this
  unfold cfV at *
  go_enter Try.func10, Try.ntmps10
  go_upto_region 1 with fail
  generalize (w.alloc (.cells #[.int .i64 s.n, .int .i64 P, .bool kpti, .bool inv] 25)).alloc (.cells #[.int .i64 0, .int .i64 0] 29) = W at *
  have hlt : w.heap.size + 1 < W.heap.size := lt_of_block' hk
  have HG : ∀ wx, Touch (· = c) W wx → (wx.cell? ⟨w.heap.size, 0, none⟩ = some (.int .i64 s.n) ∧ wx.cell? ⟨w.heap.size, 1, none⟩ = some (.int .i64 P) ∧ wx.cell? ⟨w.heap.size, 2, none⟩ = some (.bool kpti) ∧ wx.cell? ⟨w.heap.size, 3, none⟩ = some (.bool inv)) ∧ wx.cell? ⟨w.heap.size + 1, 0, none⟩ = some (.int .i64 0) ∧ wx.cell? ⟨w.heap.size + 1, 1, none⟩ = some (.int .i64 0) ∧ ∀ i, wx.frozen? ⟨w.heap.size + 1, i, none⟩ = false := fun wx tx => by
    have h1 := (tx.block w.heap.size (by omega) (by omega)).trans hg
    have h2 := (tx.block (w.heap.size + 1) (by omega) (by omega)).trans hk
    simp [World.cell?, World.frozen?, h1, h2]
  obtain ⟨⟨a0, a1, a2, a3⟩, _⟩ := HG _ (Touch.refl _ W)
  go_wp2_with fail
  refine (hf _ t0).mono ?_
  rintro e w1 ⟨rfl, t1⟩
  have t1c : Touch (· = c) W w1 := t1.mono (fun _ _ h => h.elim)
  have m1 := (m.touch t0 (fun h => h) (fun h => h)).touch t1 (fun h => h) (fun h => h)
  clear a0 a1 a2 a3
  go_wp2_with fail
  refine (markAll_any m1).mono ?_
  rintro e w2 ⟨rfl, m2, t2⟩
  have t2c := t1c.trans t2
  obtain ⟨⟨a0, a1, a2, a3⟩, _⟩ := HG _ t2c
  have hL := layMap_any m2 s.n hle P kpti inv
  unfold cfV at hL
  go_wp2_with fail
  refine hL.mono ?_
  rintro e w3 ⟨rfl, m3, t3⟩
  have t3c := t2c.trans t3
  clear a0 a1 a2 a3 hL
  go_wp2_with fail
  refine (layGate_any m3).mono ?_
  rintro e w4 ⟨rfl, m4, t4⟩
  have t4c := t3c.trans t4
  obtain ⟨_, b0, b1, bf⟩ := HG _ t4c
  have hc1 : c ≠ w.heap.size + 1 := by omega
  have ts : Touch (fun x => x = w.heap.size + 1) w4 ((w4.setCell ⟨w.heap.size + 1, 0, none⟩ (.int .i64 3)).setCell ⟨w.heap.size + 1, 1, none⟩ (.int .i64 13)) := ((Touch.refl (fun x => x = w.heap.size + 1) w4).setCell (p := ⟨w.heap.size + 1, 0, none⟩) rfl _).setCell (p := ⟨w.heap.size + 1, 1, none⟩) rfl _
  have mb : b < w.heap.size := by obtain ⟨_, ht⟩ := m.top; exact ht.lt
  go_wp2_with fail
  refine bodyPost_ret (v := .tuple #[.agg #[.int .i64 3, .int .i64 13], .bool true]) (by simp [results, Try.results10, go_sem, b0, b1]) rfl ⟨rfl, m4.touch ts (by omega) hc1, ?_⟩
  exact ((t0.mono (fun _ _ h => h.elim)).trans t4c).transNew ts (fun i hi e => by omega)

set_option maxHeartbeats 400000 in
theorem sroots_any {w : World} {q b p : Nat} {S : SS} (h : SpAt w q b p S) :
    Calls Try.prog 29 #[.pointer (some ⟨q, 0, none⟩)] w fun e w' => e = .returned (.tuple #[.int .i64 S.kern, .int .i64 S.user]) ∧ Touch Nil w w' := by
  have h3 := h.kernC
  have h4 := h.userC
  go_enter Try.func29, Try.ntmps29
  go_upto_region 1 with fail
  go_quiet (fail)
  go_wp2
  go_ret2
  exact ⟨rfl, (Touch.refl Nil w).drews _⟩
end Go.Proofs.Ytaofkedcdeocjaa

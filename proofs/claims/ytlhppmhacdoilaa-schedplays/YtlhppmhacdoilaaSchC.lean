/-
  Package sched: a new one; the document's example.
-/
import Derived.Test.YtlhppmhacdoilaaSchB
import Derived.Test.YtlhppmhacdoilaaRows2
namespace Go.Proofs.Ytlhppmhacdoilaa
open Go.ChangeShapes Go.WideShapes Go.ChangeAt Go.RowKit

theorem sdFresh_seats (w : World) (t : Bool) : ∀ {a : Array Value}, a = Array.ofFn (n := (Sd.fresh t).c * 2) (fun i => (Sd.fresh t).seat i.1) → (w.alloc (.cells a 45)).rowIs w.heap.size 45 ((Sd.fresh t).c * 2) (Sd.fresh t).seat := by
  rintro a rfl
  have := World.rowIs_alloc w (Array.ofFn (n := (Sd.fresh t).c * 2) (fun i => (Sd.fresh t).seat i.1)) 45 (Sd.fresh t).seat (fun i hi => by
    have hi' : i < (Sd.fresh t).c * 2 := by simpa using hi
    rw [Array.getElem?_ofFn]; simp [hi'])
  rw [Array.size_ofFn] at this
  exact this
theorem sdFresh_row (w : World) (t : Bool) (g : Nat) : ∀ {a : Array Value}, a = Array.ofFn (n := 5) (fun i => (Sd.fresh t).cell g i.1) → (w.alloc (.cells a 43)).rowIs w.heap.size 43 5 ((Sd.fresh t).cell g) := by
  rintro a rfl
  have := World.rowIs_alloc w (Array.ofFn (n := 5) (fun i => (Sd.fresh t).cell g i.1)) 43 ((Sd.fresh t).cell g) (fun i hi => by
    have hi' : i < 5 := by simpa using hi
    rw [Array.getElem?_ofFn]; simp [hi'])
  rw [Array.size_ofFn] at this
  exact this
set_option maxHeartbeats 1000000 in
theorem sdNew_any (c : Int) (w : World) :
    Calls Try.prog 7 #[.int .i64 c] w fun e w' => e = .returned (.pointer (some ⟨w.heap.size + 1, 0, none⟩)) ∧ SdAt w' (w.heap.size + 1) w.heap.size (Sd.fresh (decide (2 ≤ c))) ∧ Touch Nil w w' ∧ w'.heap.size = w.heap.size + 2 := by
  have hm1 : ∀ w, (Instr.makeSlice 41 (.int .i64 1) (.int .i64 1)).run Try.prog w = .ok (.slice (some ⟨w.heap.size, 0, none⟩) 1 1) (w.alloc (.cells #[.int .i64 0, .bool false] 45)) := fun w => by
    have := run_make_rows (P := Try.prog) 41 45 (.agg #[.int .i64 0, .bool false]) 2 16 Try.underlying41 (by kernel_rfl) 1 1 rfl (by decide) (by decide) w
    exact this.trans (by kernel_rfl)
  have hm2 : ∀ w, (Instr.makeSlice 41 (.int .i64 2) (.int .i64 2)).run Try.prog w = .ok (.slice (some ⟨w.heap.size, 0, none⟩) 2 2) (w.alloc (.cells #[.int .i64 0, .bool false, .int .i64 0, .bool false] 45)) := fun w => by
    have := run_make_rows (P := Try.prog) 41 45 (.agg #[.int .i64 0, .bool false]) 2 16 Try.underlying41 (by kernel_rfl) 2 2 rfl (by decide) (by decide) w
    exact this.trans (by kernel_rfl)
  rcases (by omega : c ≤ 0 ∨ c = 1 ∨ c = 2 ∨ 3 ≤ c) with h | h | h | h
  · rw [show decide (2 ≤ c) = false by simp; omega]
    go_enter Try.func7, Try.ntmps7
    go_wp2_with fail
    refine wp_loop_rounds 2 ?_
    rw [rounds_succ]
    go_wp2_with fail
    rw [rounds_succ]
    go_wp2_with fail
    go_ret
    have hs := sdFresh_seats w false (a := #[.int .i64 3, .bool false]) rfl
    have hr := sdFresh_row (w.alloc (.cells #[.int .i64 3, .bool false] 45)) false w.heap.size (a := #[.bool false, .bool false, .bool false, .bool false, .slice (some ⟨w.heap.size, 0, none⟩) 1 1]) rfl
    rw [show (w.alloc (.cells #[.int .i64 3, .bool false] 45)).heap.size = w.heap.size + 1 by simp] at hr
    exact ⟨rfl, ⟨hr, hs.alloc _⟩, ((Touch.refl Nil w).alloc _).alloc _, by simp⟩
  · subst h
    rw [show decide ((2 : Int) ≤ 1) = false from rfl]
    go_enter Try.func7, Try.ntmps7
    go_wp2_with fail
    refine wp_loop_rounds 2 ?_
    rw [rounds_succ]
    go_wp2_with fail
    rw [rounds_succ]
    go_wp2_with fail
    go_ret
    have hs := sdFresh_seats w false (a := #[.int .i64 3, .bool false]) rfl
    have hr := sdFresh_row (w.alloc (.cells #[.int .i64 3, .bool false] 45)) false w.heap.size (a := #[.bool false, .bool false, .bool false, .bool false, .slice (some ⟨w.heap.size, 0, none⟩) 1 1]) rfl
    rw [show (w.alloc (.cells #[.int .i64 3, .bool false] 45)).heap.size = w.heap.size + 1 by simp] at hr
    exact ⟨rfl, ⟨hr, hs.alloc _⟩, ((Touch.refl Nil w).alloc _).alloc _, by simp⟩
  · subst h
    rw [show decide ((2 : Int) ≤ 2) = true from rfl]
    go_enter Try.func7, Try.ntmps7
    go_wp2_with fail
    refine wp_loop_rounds 3 ?_
    rw [rounds_succ]
    go_wp2_with fail
    rw [rounds_succ]
    go_wp2_with fail
    rw [rounds_succ]
    go_wp2_with fail
    go_ret
    have hs := sdFresh_seats w true (a := #[.int .i64 3, .bool false, .int .i64 3, .bool false]) rfl
    have hr := sdFresh_row (w.alloc (.cells #[.int .i64 3, .bool false, .int .i64 3, .bool false] 45)) true w.heap.size (a := #[.bool false, .bool false, .bool false, .bool false, .slice (some ⟨w.heap.size, 0, none⟩) 2 2]) rfl
    rw [show (w.alloc (.cells #[.int .i64 3, .bool false, .int .i64 3, .bool false] 45)).heap.size = w.heap.size + 1 by simp] at hr
    exact ⟨rfl, ⟨hr, hs.alloc _⟩, ((Touch.refl Nil w).alloc _).alloc _, by simp⟩
  · rw [show decide (2 ≤ c) = true by simp; omega]
    go_enter Try.func7, Try.ntmps7
    go_wp2_with fail
    refine wp_loop_rounds 3 ?_
    rw [rounds_succ]
    go_wp2_with fail
    rw [rounds_succ]
    go_wp2_with fail
    rw [rounds_succ]
    go_wp2_with fail
    go_ret
    have hs := sdFresh_seats w true (a := #[.int .i64 3, .bool false, .int .i64 3, .bool false]) rfl
    have hr := sdFresh_row (w.alloc (.cells #[.int .i64 3, .bool false, .int .i64 3, .bool false] 45)) true w.heap.size (a := #[.bool false, .bool false, .bool false, .bool false, .slice (some ⟨w.heap.size, 0, none⟩) 2 2]) rfl
    rw [show (w.alloc (.cells #[.int .i64 3, .bool false, .int .i64 3, .bool false] 45)).heap.size = w.heap.size + 1 by simp] at hr
    exact ⟨rfl, ⟨hr, hs.alloc _⟩, ((Touch.refl Nil w).alloc _).alloc _, by simp⟩
theorem sdB_new {i b g n : Nat} (hi : i < n) (hb : n ≤ b) (hg : n ≤ g) : SdB b g i → False := by rintro (h | h) <;> omega
theorem sdWakes_any (w : World) : Calls Try.prog 16 #[] w fun e w' => e = .returned (.bool true) ∧ Touch Nil w w' := by
  go_enter Try.func16, Try.ntmps16
  go_wp2_with fail
  with_reducible refine (sdNew_any 1 w).mono ?_
  rintro e w1 ⟨rfl, h1, t1, s1⟩
  rw [show decide ((2 : Int) ≤ 1) = false from rfl] at h1
  have p1 := sdPick_any h1 0
  rw [show (Sd.fresh false).pick 0 = -1 by decide, show (Sd.fresh false).picked 0 = Sd.fresh false by decide] at p1
  go_wp2_with fail
  with_reducible refine p1.mono ?_
  rintro e w2 ⟨rfl, h2, t2⟩
  have T2 := t1.transNew t2 (fun i hi e => sdB_new hi (by omega) (by omega) e)
  have p2 := sdWake_any h2 2
  rw [show (Sd.fresh false).wakes 2 = true by decide] at p2
  go_wp2_with fail
  with_reducible refine p2.mono ?_
  rintro e w3 ⟨rfl, h3, t3⟩
  have T3 := T2.transNew t3 (fun i hi e => sdB_new hi (by omega) (by omega) e)
  have p3 := sdPick_any h3 0
  rw [show ((Sd.fresh false).wake 2).pick 0 = 2 by decide] at p3
  clear h1 h2 p1 p2 t1 t2 t3 T2
  go_wp2_with fail
  with_reducible refine p3.mono ?_
  rintro e w4 ⟨rfl, h4, t4⟩
  have T4 := T3.transNew t4 (fun i hi e => sdB_new hi (by omega) (by omega) e)
  have p4 := sdOn_any h4 0
  rw [show (((Sd.fresh false).wake 2).picked 0).on 0 = 2 by decide] at p4
  clear h3 p3 T3 t4
  go_wp2_with fail
  with_reducible refine p4.mono ?_
  rintro e w5 ⟨rfl, rfl⟩
  go_wp2_with fail
  go_ret
  exact ⟨rfl, T4⟩
end Go.Proofs.Ytlhppmhacdoilaa

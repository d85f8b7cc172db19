/-
  regs: at.
-/
import Derived.Test.YtfbmjagchjhddaaDoorRegA
import Derived.Deep.CutBlock
import Derived.Deep.DeepCutAuto
import Derived.Deep.RegionWith
import Derived.Deep.RegionHeld3
namespace Go.Proofs.YtfbmjagchjhddaaDoor
open Go.ChangeShapes Go.WideShapes Go.ChangeAt Go.RowKit

/-- A new state with a code of its own. -/
def StEnd (w : World) (s : RS) (l : List Ins) (e : Ending) (w' : World) : Prop := ∃ a c, e = .returned (stV s a l.length c) ∧ IsN w' w.heap.size a l ∧ Below w.heap.size w w'

theorem past {w w1 w2 : World} (b1 : Below w.heap.size w w1) (b2 : Below w1.heap.size w1 w2) : Below w.heap.size w w2 := b1.trans (b2.mono b1.size)

/-- Cells of a block that is there behind a call. -/
theorem cells_of {w w' : World} {g : Nat} {cs : Array Value} {t : TypeId} (h : w.heap[g]? = some (.cells cs t (0, 0))) (b : Below w.heap.size w w') : w'.heap[g]? = some (.cells cs t (0, 0)) := (b.block g (lt_of_block h)).trans h
theorem cells_at {w : World} {g : Nat} {cs : Array Value} {t : TypeId} (h : w.heap[g]? = some (.cells cs t (0, 0))) (i : Nat) : w.cell? ⟨g, i, none⟩ = cs[i]? := by simp [World.cell?, h]
theorem cells_frozen {w : World} {g : Nat} {cs : Array Value} {t : TypeId} (h : w.heap[g]? = some (.cells cs t (0, 0))) (i : Nat) : w.frozen? ⟨g, i, none⟩ = false := by simp [World.frozen?, h]
/-- Ten cells of a state. -/
def sCells (s : RS) (a : Option Addr) (n c : Nat) : Array Value := #[.int .u64 (s.r 0), .int .u64 (s.r 1), .int .u64 (s.r 2), .int .u64 (s.r 3), .int .u64 (s.r 4), .int .u64 (s.r 5), .int .u64 (s.r 6), .int .u64 (s.r 7), .slice a n c, .int .i64 s.pc]
/-- The cells of a state in memory. -/
structure SCells (w : World) (g : Nat) (r : Nat → Int) (v : Value) (p : Value) : Prop where
  c0 : w.cell? ⟨g, 0, none⟩ = some (.int .u64 (r 0))
  c1 : w.cell? ⟨g, 1, none⟩ = some (.int .u64 (r 1))
  c2 : w.cell? ⟨g, 2, none⟩ = some (.int .u64 (r 2))
  c3 : w.cell? ⟨g, 3, none⟩ = some (.int .u64 (r 3))
  c4 : w.cell? ⟨g, 4, none⟩ = some (.int .u64 (r 4))
  c5 : w.cell? ⟨g, 5, none⟩ = some (.int .u64 (r 5))
  c6 : w.cell? ⟨g, 6, none⟩ = some (.int .u64 (r 6))
  c7 : w.cell? ⟨g, 7, none⟩ = some (.int .u64 (r 7))
  c8 : w.cell? ⟨g, 8, none⟩ = some v
  c9 : w.cell? ⟨g, 9, none⟩ = some p
theorem SCells.of {w : World} {g : Nat} {r : Nat → Int} {v p : Value} {t : TypeId} (h : w.heap[g]? = some (.cells #[.int .u64 (r 0), .int .u64 (r 1), .int .u64 (r 2), .int .u64 (r 3), .int .u64 (r 4), .int .u64 (r 5), .int .u64 (r 6), .int .u64 (r 7), v, p] t (0, 0))) : SCells w g r v p := by
  have := cells_at h
  exact ⟨this 0, this 1, this 2, this 3, this 4, this 5, this 6, this 7, this 8, this 9⟩

theorem undrew {w w' : World} (b : Below w.drew.heap.size w.drew w') : Below w.heap.size w w' := ⟨b.os, b.tape, b.output, b.size, b.block⟩

theorem IsN.mono {w : World} {B B' : Nat} {a : Option Addr} {l : List Ins} (h : IsN w B a l) (hb : B' ≤ B) : IsN w B' a l := by
  rcases h with h | ⟨g, hg, h1⟩
  · exact Or.inl h
  · exact Or.inr ⟨g, Nat.le_trans hb hg, h1⟩
abbrev zCells : Array Value := #[.int .u64 0, .int .u64 0, .int .u64 0, .int .u64 0, .int .u64 0, .int .u64 0, .int .u64 0, .int .u64 0, .slice none 0 0, .int .i64 0]
/-- A state that is told, the caller's ten cells beside it. -/
def StEndB (W : World) (B : Nat) (s : RS) (l : List Ins) (e : Ending) (w' : World) : Prop :=
  ∃ a' c', e = .returned (stV s a' l.length c') ∧ IsN w' W.heap.size a' l ∧ Below W.heap.size W w' ∧ SCells w' B (fun _ => 0) (.slice none 0 0) (.int .i64 0) ∧ (∀ i, w'.frozen? ⟨B, i, none⟩ = false)
theorem StEnd.with {W : World} {f : Nat} {args : Array Value} {s : RS} {l : List Ins} (h : Calls Tryd.prog f args W (StEnd W s l)) {B : Nat} {t : TypeId} (hB : W.heap[B]? = some (.cells zCells t (0, 0))) : Calls Tryd.prog f args W (StEndB W B s l) := by
  refine h.mono ?_
  rintro e w1 ⟨a', c', rfl, hI1, b1⟩
  exact ⟨a', c', rfl, hI1, b1, SCells.of (r := fun _ => 0) (cells_of hB b1), cells_frozen (cells_of hB b1)⟩
/-- A state put into ten cells. -/
abbrev put10 (w : World) (B : Nat) (s : RS) (a : Option Addr) (n c : Nat) : World :=
  ((((((((((w.setCell ⟨B, 0, none⟩ (.int .u64 (s.r 0))).setCell ⟨B, 1, none⟩ (.int .u64 (s.r 1))).setCell ⟨B, 2, none⟩ (.int .u64 (s.r 2))).setCell ⟨B, 3, none⟩ (.int .u64 (s.r 3))).setCell ⟨B, 4, none⟩ (.int .u64 (s.r 4))).setCell ⟨B, 5, none⟩ (.int .u64 (s.r 5))).setCell ⟨B, 6, none⟩ (.int .u64 (s.r 6))).setCell ⟨B, 7, none⟩ (.int .u64 (s.r 7))).setCell ⟨B, 8, none⟩ (.slice a n c)).setCell ⟨B, 9, none⟩ (.int .i64 s.pc))
theorem put10_isn {w1 : World} {W B : Nat} {s : RS} {a : Option Addr} {n c : Nat} {l : List Ins} {a' : Option Addr} (h : IsN w1 W a' l) (hB : B < W) : IsN (put10 w1 B s a n c) W a' l := by
  unfold put10
  repeat (with_reducible refine IsN.set ?_ hB _)
  exact h
theorem put10_below {w w1 : World} {K B : Nat} {s : RS} {a : Option Addr} {n c : Nat} (h : Below K w w1) (hB : K ≤ B) : Below K w (put10 w1 B s a n c) := by
  unfold put10
  repeat (with_reducible refine Below.setCell ?_ hB _)
  exact h
theorem ten {w W w1 : World} {B : Nat} {s : RS} {a : Option Addr} {c : Nat} {l : List Ins} (hI : IsN w1 W.heap.size a l) (b1 : Below W.heap.size W w1) (hw : Below w.heap.size w W) (h1 : w.heap.size ≤ B) (h2 : B < W.heap.size) :
    StEnd w s l (.returned (stV s a l.length c)) (put10 w1 B s a l.length c) :=
  ⟨a, c, rfl, (put10_isn hI h2).mono hw.size, put10_below (past hw b1) h1⟩
/-- A state's ten cells, and ten new ones behind them. -/
abbrev sBox (w : World) (s : RS) (a : Option Addr) (n c : Nat) : World := (w.alloc (.cells #[.int .u64 (s.r 0), .int .u64 (s.r 1), .int .u64 (s.r 2), .int .u64 (s.r 3), .int .u64 (s.r 4), .int .u64 (s.r 5), .int .u64 (s.r 6), .int .u64 (s.r 7), .slice a n c, .int .i64 s.pc] 45)).alloc (.cells zCells 45)
theorem sBox_new (w : World) (s : RS) (a : Option Addr) (n c : Nat) : (sBox w s a n c).heap[w.heap.size + 1]? = some (.cells zCells 45 (0, 0)) := by
  have := heap_alloc_new (w.alloc (.cells #[.int .u64 (s.r 0), .int .u64 (s.r 1), .int .u64 (s.r 2), .int .u64 (s.r 3), .int .u64 (s.r 4), .int .u64 (s.r 5), .int .u64 (s.r 6), .int .u64 (s.r 7), .slice a n c, .int .i64 s.pc] 45)) (.cells zCells 45)
  simpa using this
theorem sBox_below (w : World) (s : RS) (a : Option Addr) (n c : Nat) : Below w.heap.size w (sBox w s a n c) := ((Below.refl _ w).alloc (Nat.le_refl _) _).alloc (by simp) _
theorem sBox_size (w : World) (s : RS) (a : Option Addr) (n c : Nat) : (sBox w s a n c).heap.size = w.heap.size + 2 := by simp

set_option maxRecDepth 20000 in
set_option maxHeartbeats 1000000 in
theorem at_any {w : World} (s : RS) {a : Option Addr} {c : Nat} {l : List Ins} (pc : Int) (h : IsL w a l) (hl : l.length ≤ 1000) :
    Calls Tryd.prog 33 #[stV s a l.length c, .int .i64 pc] w (StEnd w (s.go l.length pc) l) := by
  unfold StEnd RS.go
  have hA := (Below.heap_alloc (w.alloc (.cells #[.int .u64 (s.r 0), .int .u64 (s.r 1), .int .u64 (s.r 2), .int .u64 (s.r 3), .int .u64 (s.r 4), .int .u64 (s.r 5), .int .u64 (s.r 6), .int .u64 (s.r 7), .slice a l.length c, .int .i64 s.pc] 45)) (.cells #[.int .u64 0, .int .u64 0, .int .u64 0, .int .u64 0, .int .u64 0, .int .u64 0, .int .u64 0, .int .u64 0, .slice none 0 0, .int .i64 0] 45) w.heap.size (by simp)).trans (heap_alloc_new w _)
  have hB := heap_alloc_new (w.alloc (.cells #[.int .u64 (s.r 0), .int .u64 (s.r 1), .int .u64 (s.r 2), .int .u64 (s.r 3), .int .u64 (s.r 4), .int .u64 (s.r 5), .int .u64 (s.r 6), .int .u64 (s.r 7), .slice a l.length c, .int .i64 s.pc] 45)) (.cells #[.int .u64 0, .int .u64 0, .int .u64 0, .int .u64 0, .int .u64 0, .int .u64 0, .int .u64 0, .int .u64 0, .slice none 0 0, .int .i64 0] 45)
  have hw : Below w.heap.size w ((w.alloc (.cells #[.int .u64 (s.r 0), .int .u64 (s.r 1), .int .u64 (s.r 2), .int .u64 (s.r 3), .int .u64 (s.r 4), .int .u64 (s.r 5), .int .u64 (s.r 6), .int .u64 (s.r 7), .slice a l.length c, .int .i64 s.pc] 45)).alloc (.cells #[.int .u64 0, .int .u64 0, .int .u64 0, .int .u64 0, .int .u64 0, .int .u64 0, .int .u64 0, .int .u64 0, .slice none 0 0, .int .i64 0] 45)) := ((Below.refl _ w).alloc (Nat.le_refl _) _).alloc (by simp) _
  rw [show (w.alloc (.cells #[.int .u64 (s.r 0), .int .u64 (s.r 1), .int .u64 (s.r 2), .int .u64 (s.r 3), .int .u64 (s.r 4), .int .u64 (s.r 5), .int .u64 (s.r 6), .int .u64 (s.r 7), .slice a l.length c, .int .i64 s.pc] 45)).heap.size = w.heap.size + 1 by simp] at hB
  have hI := h.later hw
  have hWs := lt_of_block hB
  by_cases hp : (l.length : Int) ≤ pc
  case pos =>
    rw [if_pos hp]
    unfold stV
    go_enter Tryd.func33, Tryd.ntmps33
    go_upto_region 3 with fail
    generalize (w.alloc (.cells #[.int .u64 (s.r 0), .int .u64 (s.r 1), .int .u64 (s.r 2), .int .u64 (s.r 3), .int .u64 (s.r 4), .int .u64 (s.r 5), .int .u64 (s.r 6), .int .u64 (s.r 7), .slice a l.length c, .int .i64 s.pc] 45)).alloc (.cells #[.int .u64 0, .int .u64 0, .int .u64 0, .int .u64 0, .int .u64 0, .int .u64 0, .int .u64 0, .int .u64 0, .slice none 0 0, .int .i64 0] 45) = W at *
    obtain ⟨x0, x1, x2, x3, x4, x5, x6, x7, x8, x9⟩ := SCells.of hA
    have hC : Calls Tryd.prog 44 #[.slice a l.length c] W.drew fun e w' => ∃ a' c', e = .returned (.slice a' l.length c') ∧ IsN w' W.heap.size a' l ∧ Below w.heap.size w w' ∧ SCells w' w.heap.size s.r (.slice a l.length c) (.int .i64 s.pc) ∧ SCells w' (w.heap.size + 1) (fun _ => 0) (.slice none 0 0) (.int .i64 0) ∧ (∀ i, w'.frozen? ⟨w.heap.size + 1, i, none⟩ = false) := by
      refine (iclone_any (w := W.drew) hI hl).mono ?_
      rintro e w1 ⟨a', c', rfl, hI1, b1⟩
      have b1 := undrew b1
      exact ⟨a', c', rfl, hI1, past hw b1, SCells.of (cells_of hA b1), SCells.of (r := fun _ => 0) (cells_of hB b1), cells_frozen (cells_of hB b1)⟩
    go_region_with (go_at_call 44; with_reducible refine hC.mono ?_; rintro e w1 ⟨a', c', rfl, hI1, b1, ⟨k0, k1, k2, k3, k4, k5, k6, k7, k8, k9⟩, ⟨m0, m1, m2, m3, m4, m5, m6, m7, m8, m9⟩, hf⟩)
    all_goals go_wp2
    all_goals
      refine bodyPost_ret (v := stV ⟨s.r, 0⟩ a' l.length c') (by simp [results, Tryd.results33, go_sem, stV, m0, m1, m2, m3, m4, m5, m6, m7, m8, m9]) rfl ⟨a', c', rfl, ?_, ?_⟩
      · refine IsN.mono (B := W.heap.size) ?_ hw.size
        repeat (with_reducible refine IsN.set ?_ hWs _)
        exact hI1
      · repeat (with_reducible refine Below.setCell ?_ (Nat.le_succ _) _)
        exact b1
  case neg =>
    rw [if_neg hp]
    unfold stV
    go_enter Tryd.func33, Tryd.ntmps33
    go_upto_region 3 with fail
    generalize (w.alloc (.cells #[.int .u64 (s.r 0), .int .u64 (s.r 1), .int .u64 (s.r 2), .int .u64 (s.r 3), .int .u64 (s.r 4), .int .u64 (s.r 5), .int .u64 (s.r 6), .int .u64 (s.r 7), .slice a l.length c, .int .i64 s.pc] 45)).alloc (.cells #[.int .u64 0, .int .u64 0, .int .u64 0, .int .u64 0, .int .u64 0, .int .u64 0, .int .u64 0, .int .u64 0, .slice none 0 0, .int .i64 0] 45) = W at *
    obtain ⟨x0, x1, x2, x3, x4, x5, x6, x7, x8, x9⟩ := SCells.of hA
    have hC : Calls Tryd.prog 44 #[.slice a l.length c] W.drew fun e w' => ∃ a' c', e = .returned (.slice a' l.length c') ∧ IsN w' W.heap.size a' l ∧ Below w.heap.size w w' ∧ SCells w' w.heap.size s.r (.slice a l.length c) (.int .i64 s.pc) ∧ SCells w' (w.heap.size + 1) (fun _ => 0) (.slice none 0 0) (.int .i64 0) ∧ (∀ i, w'.frozen? ⟨w.heap.size + 1, i, none⟩ = false) := by
      refine (iclone_any (w := W.drew) hI hl).mono ?_
      rintro e w1 ⟨a', c', rfl, hI1, b1⟩
      have b1 := undrew b1
      exact ⟨a', c', rfl, hI1, past hw b1, SCells.of (cells_of hA b1), SCells.of (r := fun _ => 0) (cells_of hB b1), cells_frozen (cells_of hB b1)⟩
    go_region_with (go_at_call 44; with_reducible refine hC.mono ?_; rintro e w1 ⟨a', c', rfl, hI1, b1, ⟨k0, k1, k2, k3, k4, k5, k6, k7, k8, k9⟩, ⟨m0, m1, m2, m3, m4, m5, m6, m7, m8, m9⟩, hf⟩)
    all_goals go_wp2
    all_goals
      refine bodyPost_ret (v := stV ⟨s.r, pc⟩ a' l.length c') (by simp [results, Tryd.results33, go_sem, stV, m0, m1, m2, m3, m4, m5, m6, m7, m8, m9]) rfl ⟨a', c', rfl, ?_, ?_⟩
      · refine IsN.mono (B := W.heap.size) ?_ hw.size
        repeat (with_reducible refine IsN.set ?_ hWs _)
        exact hI1
      · repeat (with_reducible refine Below.setCell ?_ (Nat.le_succ _) _)
        exact b1

end Go.Proofs.YtfbmjagchjhddaaDoor

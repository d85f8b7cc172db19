/-
  What making a memory, and cloning one, comes to.
-/
import Derived.Test.YtoododpeoffieaaMemB
import Derived.Test.YtoododpeoffieaaRows2
import Derived.Laws.MakeOwn
import Derived.LoopTactic
namespace Go.Proofs.Ytoododpeoffieaa
open Go.ChangeShapes Go.WideShapes Go.ChangeAt Go.RowKit

/-- A memory that is being made: of k frames the owner is told. -/
def MS.mk' (n k : Nat) : MS := ⟨n, fun _ => 0, fun _ => 0, fun i => if i < k then -1 else 0⟩
theorem MS.mk'_step (n k : Nat) (h : k < n) : (MS.mk' n k).mark k 0 (-1) = MS.mk' n (k + 1) := by
  have hm : (MS.mk' n k).mayM k 0 = true := by simp [MS.mayM, MS.hasF, MS.mk', h]
  simp only [MS.mark, hm, if_true]
  unfold MS.mk'
  simp only [MS.mk.injEq, true_and]
  refine ⟨by funext i; simp, ?_⟩
  funext i
  simp only [Int.toNat_natCast]
  by_cases e : i = k
  · subst e; simp
  · by_cases e2 : i < k
    · simp [e, e2, show i < k + 1 by omega]
    · simp [e, e2, show ¬ i < k + 1 by omega]
theorem MS.mk'_end (n : Nat) {w : World} {b c : Nat} (h : MemAt w b c (MS.mk' n n)) : MemAt w b c (MS.fresh n) :=
  ⟨h.ne, h.le, h.top, h.row.congr fun i hi => by
    unfold MS.cell MS.mk' MS.fresh
    have hi' : i < n * 10 := hi
    simp only []
    by_cases h1 : i % 10 < 8
    · rw [if_pos h1, if_pos h1]
    · rw [if_neg h1, if_neg h1]
      by_cases h2 : i % 10 = 8
      · rw [if_pos h2, if_pos h2]
      · rw [if_neg h2, if_neg h2, if_pos (show i / 10 < n by omega)]⟩

/-- A frame's ten cells, at first. -/
abbrev cellZ : Value := .agg #[.int .u64 0, .int .u64 0, .int .u64 0, .int .u64 0, .int .u64 0, .int .u64 0, .int .u64 0, .int .u64 0, .int .i64 0, .int .i64 0]
theorem cellZ_get (n i : Nat) (h : i < n * 10) : (madeCells cellZ.cells (n * 10))[i]? = some ((MS.mk' n 0).cell i) := by
  rw [madeCells_get _ _ _ h]
  unfold MS.cell MS.mk'
  simp only [Nat.not_lt_zero, if_false]
  have hs : cellZ.cells.size = 10 := rfl
  rw [hs]
  have hj : i % 10 < 10 := Nat.mod_lt _ (by omega)
  generalize i % 10 = j at hj
  have : j = 0 ∨ j = 1 ∨ j = 2 ∨ j = 3 ∨ j = 4 ∨ j = 5 ∨ j = 6 ∨ j = 7 ∨ j = 8 ∨ j = 9 := by omega
  rcases this with rfl | rfl | rfl | rfl | rfl | rfl | rfl | rfl | rfl | rfl <;> rfl

theorem mem_new (w : World) (n : Nat) (h : n ≤ 64) :
    MemAt ((w.alloc (.cells (madeCells cellZ.cells (n * 10)) 69)).alloc (.cells #[.slice (some ⟨w.heap.size, 0, none⟩) n n] 66)) (w.heap.size + 1) w.heap.size (MS.mk' n 0) := by
  refine ⟨by omega, h, ?_, ?_⟩
  · have := World.rowIs_alloc (w.alloc (.cells (madeCells cellZ.cells (n * 10)) 69)) #[.slice (some ⟨w.heap.size, 0, none⟩) n n] 66 (fun _ => .slice (some ⟨w.heap.size, 0, none⟩) n n) (fun i hi => by
      have : i = 0 := by simpa using hi
      subst this; rfl)
    exact ⟨n, by simpa [MS.mk'] using this⟩
  · have h1 := World.rowIs_alloc w (madeCells cellZ.cells (n * 10)) 69 (MS.mk' n 0).cell (fun i hi => cellZ_get n i (by simpa [size_madeCells] using hi))
    rw [size_madeCells] at h1
    exact rowHas.of (h1.alloc _)

/-- The world while frames' owners are told. -/
def NewInv (w : World) (n k : Nat) (wr : World) : Prop := MemAt wr (w.heap.size + 1) w.heap.size (MS.mk' n k) ∧ Touch Nil w wr ∧ wr.heap.size = w.heap.size + 2

set_option maxHeartbeats 1000000 in
theorem new_any (n : Int) (w : World) :
    Calls Try.prog 6 #[.int .i64 n] w fun e w' => e = .returned (.pointer (some ⟨w.heap.size + 1, 0, none⟩)) ∧ MemAt w' (w.heap.size + 1) w.heap.size (MS.fresh (MS.many n)) ∧ Touch Nil w w' ∧ w'.heap.size = w.heap.size + 2 := by
  have hle := MS.many_le n
  have h3 : (n < 0 ∧ 0 = (MS.many n : Int)) ∨ (0 ≤ n ∧ n ≤ 64 ∧ n = (MS.many n : Int)) ∨ (64 < n ∧ 64 = (MS.many n : Int)) := by unfold MS.many; omega
  have HI := mem_new w (MS.many n) hle
  rcases h3 with ⟨h1, hv⟩ | ⟨h1, h1', hv⟩ | ⟨h1, hv⟩
  all_goals
    have hmk := run_make_rows (P := Try.prog) 64 69 cellZ 10 80 (by kernel_rfl) (by kernel_rfl) _ _ hv (by omega) (by omega)
    clear hv
    generalize hN : MS.many n = N at *
    clear hN
    go_enter Try.func6, Try.ntmps6
    go_wp2
    go_loopw [18] (fun i wr => ∃ k : Nat, k ≤ N ∧ i = .int .i64 k ∧ NewInv w N k wr) (fun i _ => N - (intOf i).toNat)
    case atStart => exact ⟨0, by omega, rfl, HI, ((Touch.refl Nil w).alloc _).alloc _, by simp⟩
    case round =>
      obtain ⟨k, hk, rfl, hM, hT, hS⟩ := hrel
      clear HI hmk
      by_cases hlt : k < N
      · obtain ⟨cap, htop⟩ := hM.top
        have h0 := htop.cell (i := 0) (by omega)
        have q8 := hM.row.cell (i := k * 10 + 8) (by show _ < N * 10; omega)
        have q9 := hM.row.cell (i := k * 10 + 9) (by show _ < N * 10; omega)
        have hfr : ∀ o, wr.frozen? ⟨w.heap.size, o, none⟩ = false := hM.row.frozen
        have h0' := (htop.setOther (a := ⟨w.heap.size, k * 10 + 8, none⟩) hM.ne (.int .i64 0)).cell (i := 0) (by omega)
        have hm : (MS.mk' N k).mayM k 0 = true := by simp [MS.mayM, MS.hasF, MS.mk', hlt]
        have hM' := hM.mark k 0 (-1) hm
        rw [MS.mk'_step N k hlt] at hM'
        simp only [Int.toNat_natCast] at hM'
        simp only [MS.mk'] at h0 h0'
        go_wp2
        go_roundw
        case rel => exact ⟨k + 1, by omega, by go_num, hM', (hT.setNew (by simp) _).setNew (by simp) _, by simpa using hS⟩
        case measure => simp [intOf]; omega
      · have : k = N := by omega
        subst this
        go_wp2
        go_ret
        exact ⟨rfl, MS.mk'_end _ hM, hT, hS⟩
end Go.Proofs.Ytoododpeoffieaa

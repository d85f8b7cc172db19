/-
  The walk of WalkIndex.
-/
import Derived.Test.YtbdgpncdilphhaaWalkA
namespace Go.Proofs.Ytbdgpncdilphhaa
open Go.ChangeShapes Go.WideShapes Go.ChangeAt Go.RowKit

set_option maxHeartbeats 400000 in
theorem wakes5_any (w : World) :
    Calls Try.prog 6 #[] w fun e w' => e = .returned (.bool true) ∧ w = w' := by
  have e1 : pidx 8 1 = 1 := by decide
  have e2 : pidx 8 0 = 0 := by decide
  have e3 : pidx 512 0 = -1 := by decide
  go_enter Try.func6, Try.ntmps6
  go_wp2_with (go_at_call 5; refine (windex_any _ _ _).mono ?_; rintro e wq ⟨rfl, rfl⟩)
  all_goals go_ret
  all_goals exact ⟨rfl, rfl⟩

set_option maxHeartbeats 1000000 in
theorem walkIndex_walk (a0 a1 : Int) (w : World) :
    Calls Try.prog 3 #[.int .i64 a0, .int .i64 a1] w fun e w' => e = .returned (.bool true) ∧ Below w.heap.size w w' := by
  have p0 := Int.emod_nonneg a0 (b := 512) (by omega)
  have p1 := Int.emod_lt_of_pos a0 (b := 512) (by omega)
  have n0 := Int.emod_nonneg a1 (b := 1000) (by omega)
  have n1 := Int.emod_lt_of_pos a1 (b := 1000) (by omega)
  have d0 : pidx (a0 % 512) 0 = a0 % 512 / 64 := by unfold pidx; rw [if_pos ⟨p0, p1, by omega, by omega⟩]; rfl
  have d1 : pidx (a0 % 512) 1 = a0 % 512 / 8 % 8 := by unfold pidx; rw [if_pos ⟨p0, p1, by omega, by omega⟩]; rfl
  have d2 : pidx (a0 % 512) 2 = a0 % 512 % 8 := by unfold pidx; rw [if_pos ⟨p0, p1, by omega, by omega⟩]; rfl
  have q0 : 0 ≤ pidx (a0 % 512) 0 ∧ pidx (a0 % 512) 0 < 8 := by rw [d0]; omega
  have q1 : 0 ≤ pidx (a0 % 512) 1 ∧ pidx (a0 % 512) 1 < 8 := by rw [d1]; omega
  have q2 : 0 ≤ pidx (a0 % 512) 2 ∧ pidx (a0 % 512) 2 < 8 := by rw [d2]; omega
  have qs : 64 * pidx (a0 % 512) 0 + 8 * pidx (a0 % 512) 1 + pidx (a0 % 512) 2 = a0 % 512 := by rw [d0, d1, d2]; omega
  have f1 : ∀ x l : Int, ¬ (0 ≤ x ∧ x < 512 ∧ 0 ≤ l ∧ l < 3) → pidx x l = -1 := fun x l h => by unfold pidx; rw [if_neg h]
  have g1 : pidx (-(1 + a1 % 1000)) 0 = -1 := f1 _ _ (by omega)
  have g2 : pidx (511 + (1 + a1 % 1000)) 0 = -1 := f1 _ _ (by omega)
  have g3 : pidx (a0 % 512) (-(1 + a1 % 1000)) = -1 := f1 _ _ (by omega)
  have g4 : pidx (a0 % 512) (2 + (1 + a1 % 1000)) = -1 := f1 _ _ (by omega)
  clear d0 d1 d2 f1
  obtain ⟨q00, q01⟩ := q0
  obtain ⟨q10, q11⟩ := q1
  obtain ⟨q20, q21⟩ := q2
  go_enter Try.func3, Try.ntmps3
  go_wp2_with first
    | (go_at_call 4; refine (within_any _ _ _ (by omega) (by omega)).mono ?_; rintro e wq ⟨rfl, rfl⟩)
    | (go_at_call 5; refine (windex_any _ _ _).mono ?_; rintro e wq ⟨rfl, rfl⟩)
    | (go_at_call 6; refine (wakes5_any _).mono ?_; rintro e wq ⟨rfl, rfl⟩)
  all_goals go_ret
  all_goals exact ⟨rfl, Below.refl _ _⟩
end Go.Proofs.Ytbdgpncdilphhaa

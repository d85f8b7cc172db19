/-
  The law InsnChecks, walked.
-/
import Derived.Test.YteeggcbnfppncaaDoorInsnQ
namespace Go.Proofs.YteeggcbnfppncaaDoor
open Go.ChangeShapes Go.WideShapes Go.ChangeAt Go.RowKit

/-- The instructions that may not be. -/
def wrongs (n : Int) : List Ins := [⟨0, 0, 0, 0⟩, ⟨7 + n, 0, 0, 0⟩, ⟨-n, 0, 0, 0⟩, ⟨1, 7 + n, 0, 0⟩, ⟨1, -n, 0, 0⟩, ⟨1, 0, 1, 0⟩, ⟨1, 0, 0, 65535 + n⟩, ⟨1, 0, 0, -n⟩, ⟨2, 0, 0, n⟩, ⟨2, 0, 7 + n, 0⟩, ⟨3, 0, -n, 0⟩, ⟨4, 0, 0, -n⟩, ⟨5, 1, 0, 0⟩, ⟨6, 0, 2, 0⟩, ⟨6, 0, 0, 23 + n⟩, ⟨7, 0, 0, 0⟩, ⟨7, 0, 0, 9 + n⟩, ⟨7, 1, 0, 1⟩]
theorem wrongs_no (n : Int) (h : 1 ≤ n) : ∀ x ∈ wrongs n, okP x = false := by
  intro x hx
  simp only [wrongs, List.mem_cons, List.not_mem_nil, or_false] at hx
  rcases hx with rfl | rfl | rfl | rfl | rfl | rfl | rfl | rfl | rfl | rfl | rfl | rfl | rfl | rfl | rfl | rfl | rfl | rfl <;> simp [okP, fitP, shape] <;> omega

set_option maxHeartbeats 1000000 in
theorem insnChecks_walk (a0 : Int) (_w0 : (Lit.int .i64 a0).wf = true) (w : World) (hV : Vs w) :
    Calls Tryd.prog 4 #[.int .i64 a0] w fun e w' => e = .returned (.bool true) ∧ Below w.heap.size w w' := by
  have m0 := Int.emod_nonneg a0 (b := 1000) (by omega)
  have m1 := Int.emod_lt_of_pos a0 (b := 1000) (by omega)
  have ok1 : okP ⟨6, 0, 0, 23⟩ = true := by decide
  have ok2 : okP ⟨7, 0, 0, 9⟩ = true := by decide
  go_enter Tryd.func4, Tryd.ntmps4
  go_wp2_with fail
  refine (within_any a0 1000 _ (by omega) (by omega)).mono ?_
  rintro e w1 ⟨rfl, rfl⟩
  generalize a0 % 1000 = m at m0 m1
  have hw := wrongs_no (1 + m) (by omega)
  go_upto_block 0 with fail
  go_cut [4, 5, 6] (fun _ _ _ wx => Vs wx ∧ Below w.heap.size w wx)
  case first =>
    go_wp2_with fail
    go_loopg [53] 18 (fun g i wr => ∃ k : Nat, g + k = 18 ∧ i = .int .i64 k ∧ IRow wr w.heap.size (wrongs (1 + m)) ∧ Vs wr ∧ Below w.heap.size w wr)
    case atStart => exact ⟨0, by omega, rfl, IRow.lit w _ _ _ rfl, hV.alloc _, (Below.refl _ w).alloc (Nat.le_refl _) _⟩
    case round =>
      obtain ⟨k, hg, rfl, hI, hVr, hB⟩ := hrel
      by_cases hk : k < 18
      · have hk' : (k : Int) < 18 := by omega
        have hx : (wrongs (1 + m))[k]? = some ((wrongs (1 + m))[k]'(by simpa [wrongs] using hk)) := List.getElem?_eq_getElem _
        generalize (wrongs (1 + m))[k]'(by simpa [wrongs] using hk) = x at hx
        have hno := hw x (List.mem_of_getElem? hx)
        obtain ⟨c0, c1, c2, c3⟩ := hI.four hx
        have hlt := hI.lt
        go_wp2_with fail
        refine (print_no x _ (hVr.alloc _) hno).mono ?_
        rintro e w2 ⟨rfl, b2⟩
        have V2 := (hVr.alloc _).later b2
        obtain ⟨x0, x1, x2, x3, hl⟩ := copy_cells b2
        clear c0 c1 c2 c3
        go_wp2_with fail
        refine (check_any x _ V2).mono ?_
        rintro e w3 ⟨rfl, b3⟩
        rw [hno]
        go_wp2_with fail
        go_roundg (18 - (k + 1))
        case measure => omega
        case rel => exact ⟨k + 1, by omega, by go_num, ((hI.later ((Below.refl _ wr).alloc (Nat.le_refl _) _)).later b2).later b3, V2.later b3, (past_alloc hB hB.size b2).trans (b3.mono (past_alloc hB hB.size b2).size)⟩
      · have hk' : ¬ ((k : Int) < 18) := by omega
        go_wp2_with fail
        go_meet
        exact ⟨hVr, hB⟩
  case rest =>
  obtain ⟨V1, B1⟩ := hcut
  go_wp2_with fail
  refine (check_any ⟨6, 0, 0, 23⟩ _ V1).mono ?_
  rintro e w4 ⟨rfl, b4⟩
  rw [ok1]
  go_wp2_with fail
  refine (check_any ⟨7, 0, 0, 9⟩ _ (V1.later b4)).mono ?_
  rintro e w5 ⟨rfl, b5⟩
  rw [ok2]
  go_wp2_with fail
  refine (wakes7 _ ((V1.later b4).later b5)).mono ?_
  rintro e w6 ⟨rfl, b6⟩
  go_wp2_with fail
  go_ret
  have B4 := B1.trans (b4.mono B1.size)
  have B5 := B4.trans (b5.mono B4.size)
  exact ⟨rfl, B5.trans (b6.mono B5.size)⟩
end Go.Proofs.YteeggcbnfppncaaDoor

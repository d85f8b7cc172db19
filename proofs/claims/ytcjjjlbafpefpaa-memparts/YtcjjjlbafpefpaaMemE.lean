/-
  The document's example of chapter 2, and words on what calls leave.
-/
import Derived.Test.YtcjjjlbafpefpaaMemD
import Derived.Sort.AtCall
namespace Go.Proofs.Ytcjjjlbafpefpaa
open Go.ChangeShapes Go.WideShapes Go.ChangeAt Go.RowKit

theorem MS.hasF_fresh (n : Nat) (f : Int) : (MS.fresh n).hasF f = (decide (0 ≤ f) && decide (f < n)) := rfl
theorem many_two : MS.many 2 = 2 := rfl

set_option maxHeartbeats 1000000 in
theorem wakes2_any (w : World) :
    Calls Try.prog 18 #[] w fun e w' => e = .returned (.bool true) ∧ Touch Nil w w' := by
  have e1 : (MS.fresh (MS.many 2)).hasW 0 = true := rfl
  have e2 : (MS.fresh (MS.many 2)).rd 0 = 0 := rfl
  have e3 : (MS.fresh (MS.many 2)).own 1 = -1 := rfl
  have e4 : (MS.fresh (MS.many 2)).n = 2 := rfl
  go_enter Try.func18, Try.ntmps18
  go_wp2_with (first
    | (go_at_call 9; refine (new_any _ _).mono ?_; rintro e w1 ⟨rfl, hM, hT, hS⟩)
    | (go_at_call 16; refine (read_any hM _ (by omega)).mono ?_; rintro e w2 ⟨rfl, hw⟩; subst hw)
    | (go_at_call 10; refine (frames_any hM).mono ?_; rintro e w2 ⟨rfl, hw⟩; subst hw)
    | (go_at_call 15; refine (owner_any hM _).mono ?_; rintro e w2 ⟨rfl, hw⟩; subst hw))
  go_ret
  exact ⟨rfl, hT⟩
end Go.Proofs.Ytcjjjlbafpefpaa

/-
  The document's example of chapter 3.
-/
import Derived.Test.YtbnojbccaalnaaaPoolB
namespace Go.Proofs.Ytbnojbccaalnaaa
open Go.ChangeShapes Go.WideShapes Go.ChangeAt Go.RowKit

theorem least_fresh (n : Nat) (h : 15 < n) : Least (MS.fresh n) 15 := ⟨by omega, h, rfl, fun g h1 h2 => by omega⟩

theorem left_24 : ((MS.fresh (MS.many 24)).mark 15 2 0).left = 8 := by kernel_rfl
theorem least_24 : Least (MS.fresh (MS.many 24)) 15 := least_fresh _ (by decide)

set_option maxHeartbeats 1000000 in
theorem wakes3_any (w : World) :
    Calls Try.prog 19 #[] w fun e w' => e = .returned (.bool true) ∧ Touch Nil w w' := by
  obtain ⟨s0, hs0⟩ : ∃ s, Hid (MS.fresh (MS.many 24) = s) := ⟨_, rfl⟩
  have e1 := left_24
  have hL := least_24
  rw [hs0.out] at e1 hL
  have e2 : rf (rset (fun _ => 0) 15 1) 15 = 1 := rfl
  go_enter Try.func19, Try.ntmps19
  go_wp2_with (first
    | (go_at_call 8; refine (new_any _ _).mono ?_; rintro e w1 ⟨rfl, hM, hT, hS⟩; rw [hs0.out] at hM)
    | (go_at_call 11; refine (pnew_any _).mono ?_; rintro e w2 ⟨hx, hP, hT2, hS2⟩; rw [hS] at hx hP; subst hx; have hM2 := hM.touch hT2 id id)
    | (go_at_call 13; refine (ptake_at hP hM2 _ _ (Or.inr rfl) hL 15 rfl).mono ?_; rintro e w3 ⟨hx, hP3, hM3, hT3⟩; subst hx)
    | (go_at_call 12; refine (pleft_any hP3 hM3).mono ?_; rintro e wq ⟨rfl, rfl⟩)
    | (go_at_call 18; refine (prefs_any hP3 _).mono ?_; rintro e wq ⟨rfl, rfl⟩))
  go_ret
  exact ⟨rfl, (hT.transNew hT2 (fun _ _ e => e)).transNew hT3 (fun i h e => by omega)⟩
end Go.Proofs.Ytbnojbccaalnaaa

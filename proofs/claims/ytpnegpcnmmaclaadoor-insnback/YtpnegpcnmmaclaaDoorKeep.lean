/-
  What 'Within' comes to: any number as one from 0 to n - 1.
-/
import Derived.Test.YtpnegpcnmmaclaaDoorRows
import Derived.WalkKit
import Derived.ProofKit
import Derived.OpenShut
import Derived.Outline
import Derived.Below
import Derived.WalkLawsBesides
namespace Go.Proofs.YtpnegpcnmmaclaaDoor
open Go.ChangeShapes Go.WideShapes Go.ChangeAt Go.RowKit

theorem ret_int {k : IntKind} {a b : Int} (h : a = b) : Ending.returned (.int k a) = .returned (.int k b) := by rw [h]
theorem ret_bool {a b : Bool} (h : a = b) : Ending.returned (.bool a) = .returned (.bool b) := by rw [h]

theorem tmod_two (v n : Int) (h1 : 1 ≤ n) : v.tmod n = v % n ∨ (v.tmod n = v % n - n ∧ v % n ≠ 0) := by
  have e := Int.tmod_eq_emod (a := v) (b := n)
  by_cases h : 0 ≤ v ∨ n ∣ v
  · rw [if_pos h] at e; left; simpa using e
  · rw [if_neg h] at e; right
    refine ⟨by rw [e]; omega, fun hz => h (Or.inr (Int.dvd_of_emod_eq_zero hz))⟩

set_option maxHeartbeats 400000 in
theorem within_any (v n : Int) (w : World) (h1 : 1 ≤ n) (h2 : n ≤ 1099511627776) :
    Calls Tryd.prog 16 #[.int .i64 v, .int .i64 n] w fun e w' => e = .returned (.int .i64 (v % n)) ∧ w = w' := by
  have hl := Int.emod_nonneg v (b := n) (by omega)
  have hh := Int.emod_lt_of_pos v (b := n) (by omega)
  have H : Hid (v.tmod n = v % n ∨ (v.tmod n = v % n - n ∧ v % n ≠ 0)) := tmod_two v n h1
  go_enter Tryd.func16, Tryd.ntmps16
  go_wp2
  all_goals go_ret
  · refine ⟨ret_int ?_, rfl⟩
    have ht : v.tmod n < 0 := by assumption
    rcases H.out with e | ⟨e, _⟩
    · omega
    · rw [e]; have : v % n - n + n = v % n := by omega
      rw [this]; unfold wrap64; omega
  · refine ⟨ret_int ?_, rfl⟩
    have ht : 0 ≤ v.tmod n := by assumption
    rcases H.out with e | ⟨e, _⟩
    · exact e
    · omega

theorem within_q' (v n : Int) (w : World) (h1 : 1 ≤ n) (h2 : n ≤ 1099511627776) :
    Calls Tryd.prog 16 #[.int .i64 v, .int .i64 n] w fun e w' => e = .returned (.int .i64 (v % n)) ∧ w' = w :=
  (within_any v n w h1 h2).mono fun _ _ ⟨he, hw⟩ => ⟨he, hw.symm⟩

end Go.Proofs.YtpnegpcnmmaclaaDoor

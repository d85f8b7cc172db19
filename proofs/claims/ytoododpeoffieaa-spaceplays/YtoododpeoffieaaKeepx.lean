/-
  What 'Within' comes to: any number as one from 0 to n - 1.
-/
import Derived.Test.YtoododpeoffieaaRows
import Derived.WalkKit
import Derived.ProofKit
import Derived.OpenShut
import Derived.Outline
import Derived.Below
import Derived.WalkLawsBesides
namespace Go.Proofs.Ytoododpeoffieaa
open Go.ChangeShapes Go.WideShapes Go.ChangeAt Go.RowKit

theorem ret_int {k : IntKind} {a b : Int} (h : a = b) : Ending.returned (.int k a) = .returned (.int k b) := by rw [h]
theorem ret_bool {a b : Bool} (h : a = b) : Ending.returned (.bool a) = .returned (.bool b) := by rw [h]

theorem tmod_two (v n : Int) (h1 : 1 ≤ n) : v.tmod n = v % n ∨ (v.tmod n = v % n - n ∧ v % n ≠ 0) := by
  have e := Int.tmod_eq_emod (a := v) (b := n)
  by_cases h : 0 ≤ v ∨ n ∣ v
  · rw [if_pos h] at e; left; simpa using e
  · rw [if_neg h] at e; right
    refine ⟨by rw [e]; omega, fun hz => h (Or.inr (Int.dvd_of_emod_eq_zero hz))⟩

set_option maxHeartbeats 400000 in
theorem within_any (v n : Int) (w : World) (h1 : 1 ≤ n) (h2 : n ≤ 1099511627776) :
    Calls Try.prog 5 #[.int .i64 v, .int .i64 n] w fun e w' => e = .returned (.int .i64 (v % n)) ∧ w = w' := by
  have hl := Int.emod_nonneg v (b := n) (by omega)
  have hh := Int.emod_lt_of_pos v (b := n) (by omega)
  have H : Hid (v.tmod n = v % n ∨ (v.tmod n = v % n - n ∧ v % n ≠ 0)) := tmod_two v n h1
  go_enter Try.func5, Try.ntmps5
  go_wp2
  all_goals go_ret
  · refine ⟨ret_int ?_, rfl⟩
    have ht : v.tmod n < 0 := by assumption
    rcases H.out with e | ⟨e, _⟩
    · omega
    · rw [e]; have : v % n - n + n = v % n := by omega
      rw [this]; unfold wrap64; omega
  · refine ⟨ret_int ?_, rfl⟩
    have ht : 0 ≤ v.tmod n := by assumption
    rcases H.out with e | ⟨e, _⟩
    · exact e
    · omega

theorem within_q' (v n : Int) (w : World) (h1 : 1 ≤ n) (h2 : n ≤ 1099511627776) :
    Calls Try.prog 5 #[.int .i64 v, .int .i64 n] w fun e w' => e = .returned (.int .i64 (v % n)) ∧ w' = w :=
  (within_any v n w h1 h2).mono fun _ _ ⟨he, hw⟩ => ⟨he, hw.symm⟩

end Go.Proofs.Ytoododpeoffieaa
/-
  Package walk: a page's digits.
-/
namespace Go.Proofs.Ytoododpeoffieaa
open Go.ChangeShapes Go.WideShapes Go.ChangeAt Go.RowKit

/-- A page's digit of a level, or -1. -/
def pidx (p l : Int) : Int := if 0 ≤ p ∧ p < 512 ∧ 0 ≤ l ∧ l < 3 then (if l = 0 then p / 64 else if l = 1 then p / 8 % 8 else p % 8) else -1
def pdown (p : Int) (k : Nat) : Int := if k = 0 then p else if k = 1 then p / 8 else p / 64
theorem pdown_lt (p : Int) (k : Nat) (h0 : 0 ≤ p) (h1 : p < 512) : 0 ≤ pdown p k ∧ pdown p k < 512 := by
  unfold pdown; split
  · omega
  · split <;> omega
theorem pdown_succ (p : Int) (k : Nat) (h1 : k < 2) : pdown p (k + 1) = pdown p k / 8 := by
  have : k = 0 ∨ k = 1 := by omega
  rcases this with rfl | rfl <;> simp [pdown] <;> omega

set_option maxHeartbeats 400000 in
theorem wispage_any (p : Int) (w : World) :
    Calls Try.prog 66 #[.int .i64 p] w fun e w' => e = .returned (.bool (decide (0 ≤ p ∧ p < 512))) ∧ w = w' := by
  go_enter Try.func66, Try.ntmps66
  go_wp2
  all_goals go_ret
  all_goals exact ⟨ret_bool (by simp; try omega), rfl⟩

set_option maxHeartbeats 400000 in
theorem windex_any (p l : Int) (w : World) :
    Calls Try.prog 41 #[.int .i64 p, .int .i64 l] w fun e w' => e = .returned (.int .i64 (pidx p l)) ∧ w = w' := by
  by_cases hg : 0 ≤ p ∧ p < 512 ∧ 0 ≤ l ∧ l < 3
  · have hp : 0 ≤ p ∧ p < 512 := ⟨hg.1, hg.2.1⟩
    have h0 := hg.1
    have h1 := hg.2.1
    have l0 : ¬ (l < 0) := by omega
    have l3 : ¬ (3 ≤ l) := by omega
    go_enter Try.func41, Try.ntmps41
    go_wp2_with (go_at_call 66; refine (wispage_any _ _).mono ?_; rintro e wq ⟨rfl, rfl⟩)
    go_loop [0, 18] (fun a v => ∃ k : Nat, (k : Int) ≤ 2 - l ∧ v = .int .i64 k ∧ a = .int .i64 (pdown p k)) (fun _ v => 2 - (intOf v).toNat)
    case atStart => exact ⟨0, by omega, rfl, rfl⟩
    case round =>
      obtain ⟨k, hk, rfl, rfl⟩ := hrel
      obtain ⟨d0, d1⟩ := pdown_lt p k h0 h1
      by_cases hlt : (k : Int) < 2 - l
      · have hs := pdown_succ p k (by omega)
        go_wp2
        go_round
        case rel => exact ⟨k + 1, by omega, by go_num, by rw [hs]⟩
        case measure => simp [intOf]; omega
      · have hkl : (k : Int) = 2 - l := by omega
        go_wp2
        go_ret
        refine ⟨ret_int ?_, rfl⟩
        unfold pidx; rw [if_pos hg]
        have : l = 0 ∨ l = 1 ∨ l = 2 := by omega
        have hk : (l = 0 ∧ k = 2) ∨ (l = 1 ∧ k = 1) ∨ (l = 2 ∧ k = 0) := by omega
        rcases hk with ⟨rfl, rfl⟩ | ⟨rfl, rfl⟩ | ⟨rfl, rfl⟩ <;> simp [pdown] <;> omega
  · have e : pidx p l = -1 := by unfold pidx; rw [if_neg hg]
    rw [e]
    by_cases hp : 0 ≤ p ∧ p < 512
    · by_cases l0 : l < 0
      · go_enter Try.func41, Try.ntmps41
        go_wp2_with (go_at_call 66; refine (wispage_any _ _).mono ?_; rintro e wq ⟨rfl, rfl⟩)
        go_ret
        exact ⟨rfl, rfl⟩
      · have l3 : 3 ≤ l := by omega
        go_enter Try.func41, Try.ntmps41
        go_wp2_with (go_at_call 66; refine (wispage_any _ _).mono ?_; rintro e wq ⟨rfl, rfl⟩)
        go_ret
        exact ⟨rfl, rfl⟩
    · go_enter Try.func41, Try.ntmps41
      go_wp2_with (go_at_call 66; refine (wispage_any _ _).mono ?_; rintro e wq ⟨rfl, rfl⟩)
      go_ret
      exact ⟨rfl, rfl⟩
end Go.Proofs.Ytoododpeoffieaa

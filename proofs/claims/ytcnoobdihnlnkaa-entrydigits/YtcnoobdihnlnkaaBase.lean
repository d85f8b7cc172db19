/-
  What each call of package entry, and of the document's own answers, comes to: one contract a function.
-/
import Derived.Test.YtcnoobdihnlnkaaRows
import Derived.Test.YtcnoobdihnlnkaaMath
import Derived.WalkKit
import Derived.ProofKit
import Derived.OpenShut
import Derived.Outline
namespace Go.Proofs.Ytcnoobdihnlnkaa
open Go.ChangeShapes Go.WideShapes Go.ChangeAt Go.RowKit

theorem ret_int {k : IntKind} {a b : Int} (h : a = b) : Ending.returned (.int k a) = .returned (.int k b) := by rw [h]

theorem tmod_two (v n : Int) (h1 : 1 ≤ n) : v.tmod n = v % n ∨ (v.tmod n = v % n - n ∧ v % n ≠ 0) := by
  have e := Int.tmod_eq_emod (a := v) (b := n)
  by_cases h : 0 ≤ v ∨ n ∣ v
  · rw [if_pos h] at e; left; simpa using e
  · rw [if_neg h] at e; right
    refine ⟨by rw [e]; omega, fun hz => h (Or.inr (Int.dvd_of_emod_eq_zero hz))⟩

set_option maxHeartbeats 400000 in
theorem within_any (v n : Int) (w : World) (h1 : 1 ≤ n) (h2 : n ≤ 1099511627776) :
    Calls Try.prog 11 #[.int .i64 v, .int .i64 n] w fun e w' => e = .returned (.int .i64 (v % n)) ∧ w' = w := by
  have hl := Int.emod_nonneg v (b := n) (by omega)
  have hh := Int.emod_lt_of_pos v (b := n) (by omega)
  have H : Hid (v.tmod n = v % n ∨ (v.tmod n = v % n - n ∧ v % n ≠ 0)) := tmod_two v n h1
  go_enter Try.func11, Try.ntmps11
  go_wp2
  all_goals go_ret
  · refine ⟨ret_int ?_, rfl⟩
    have ht : v.tmod n < 0 := by assumption
    rcases H.out with e | ⟨e, _⟩
    · omega
    · rw [e]; have : v % n - n + n = v % n := by omega
      rw [this]; unfold wrap64; omega
  · refine ⟨ret_int ?_, rfl⟩
    have ht : 0 ≤ v.tmod n := by assumption
    rcases H.out with e | ⟨e, _⟩
    · exact e
    · omega

set_option maxHeartbeats 400000 in
theorem raw_any (x : Int) (w : World) (h1 : 0 ≤ x) (h2 : x < 18446744073709551616) :
    Calls Try.prog 14 #[.int .u64 x] w fun e w' => e = .returned (.int .i64 (x / 4096 % 1099511627776)) ∧ w' = w := by
  have hm := int_mask40 (x / 4096) (by omega) (by omega)
  go_enter Try.func14, Try.ntmps14
  go_wp2
  go_ret
  exact ⟨rfl, rfl⟩

set_option maxHeartbeats 400000 in
theorem refraw_any (x : Int) (w : World) (h1 : 0 ≤ x) (h2 : x < 18446744073709551616) :
    Calls Try.prog 18 #[.int .u64 x] w fun e w' => e = .returned (.int .i64 (x / 4096 % 1099511627776)) ∧ w' = w := by
  have hm := int_mask40 (x / 4096) (by omega) (by omega)
  go_enter Try.func18, Try.ntmps18
  go_wp2
  go_ret
  exact ⟨rfl, rfl⟩

/-- What is turned. -/
def turnV (x : Int) (inv : Bool) : Int := if inv then 1099511627775 - x else x

set_option maxHeartbeats 400000 in
theorem turned_any (x : Int) (inv : Bool) (w : World) (h1 : 0 ≤ x) (h2 : x < 1099511627776) :
    Calls Try.prog 21 #[.int .u64 x, .bool inv] w fun e w' => e = .returned (.int .u64 (turnV x inv)) ∧ w' = w := by
  have hm := int_turn40 x h1 h2
  cases inv
  all_goals
    go_enter Try.func21, Try.ntmps21
    go_wp2
    go_ret
    exact ⟨rfl, rfl⟩

/-- An entry that is not present, and what it knows. -/
def absV (f : Int) (inv : Bool) : Int := turnV (f % 1099511627776) inv * 4096
def ofV (x : Int) (inv : Bool) : Int := turnV (x / 4096 % 1099511627776) inv

theorem turnV_bd (x : Int) (inv : Bool) (h1 : 0 ≤ x) (h2 : x < 1099511627776) : 0 ≤ turnV x inv ∧ turnV x inv < 1099511627776 := by
  unfold turnV; split <;> omega
theorem wrapMask (f : Int) : bits .and .u64 (IntKind.u64.wrap f) 1099511627775 = f % 1099511627776 := by
  rw [IntKind.wrap_u64, int_mask40 _ (by omega) (by omega)]; omega

set_option maxHeartbeats 400000 in
theorem absent_any (f : Int) (inv : Bool) (w : World) :
    Calls Try.prog 12 #[.int .i64 f, .bool inv] w fun e w' => e = .returned (.int .u64 (absV f inv)) ∧ w' = w := by
  have hm := wrapMask f
  have hb := turnV_bd (f % 1099511627776) inv (by omega) (by omega)
  go_enter Try.func12, Try.ntmps12
  go_wp2_with (go_at_call 21; refine (turned_any _ _ _ (by omega) (by omega)).mono ?_; rintro e w' ⟨rfl, rfl⟩)
  go_ret
  exact ⟨rfl, rfl⟩

set_option maxHeartbeats 400000 in
theorem refabsent_any (f : Int) (inv : Bool) (w : World) :
    Calls Try.prog 19 #[.int .i64 f, .bool inv] w fun e w' => e = .returned (.int .u64 (absV f inv)) ∧ w' = w := by
  have hm := wrapMask f
  have hm2 := int_turn40 (f % 1099511627776) (by omega) (by omega)
  cases inv
  all_goals
    go_enter Try.func19, Try.ntmps19
    go_wp2
    go_ret
    exact ⟨rfl, rfl⟩

set_option maxHeartbeats 400000 in
theorem of_any (x : Int) (inv : Bool) (w : World) (h1 : 0 ≤ x) (h2 : x < 18446744073709551616) :
    Calls Try.prog 13 #[.int .u64 x, .bool inv] w fun e w' => e = .returned (.int .i64 (ofV x inv)) ∧ w' = w := by
  have hb := turnV_bd (x / 4096 % 1099511627776) inv (by omega) (by omega)
  go_enter Try.func13, Try.ntmps13
  go_wp2_with (first
    | (go_at_call 14; refine (raw_any _ _ (by omega) (by omega)).mono ?_; rintro e w' ⟨rfl, rfl⟩)
    | (go_at_call 21; refine (turned_any _ _ _ (by omega) (by omega)).mono ?_; rintro e w' ⟨rfl, rfl⟩))
  go_ret
  exact ⟨rfl, rfl⟩

set_option maxHeartbeats 400000 in
theorem refof_any (x : Int) (inv : Bool) (w : World) (h1 : 0 ≤ x) (h2 : x < 18446744073709551616) :
    Calls Try.prog 20 #[.int .u64 x, .bool inv] w fun e w' => e = .returned (.int .i64 (ofV x inv)) ∧ w' = w := by
  have hm2 := int_turn40_i64 (x / 4096 % 1099511627776) (by omega) (by omega)
  cases inv
  all_goals
    go_enter Try.func20, Try.ntmps20
    go_wp2_with (go_at_call 18; refine (refraw_any _ _ (by omega) (by omega)).mono ?_; rintro e w' ⟨rfl, rfl⟩)
    go_ret
    exact ⟨rfl, rfl⟩

theorem packV_bits (a u g : Bool) (f : Int) (h1 : 0 ≤ f) (h2 : f < 1099511627776) :
    let x0 := bits .or .u64 1 (f * 4096)
    let x1 := if a then bits .or .u64 x0 2 else x0
    let x2 := if u then bits .or .u64 x1 4 else x1
    (if g then bits .or .u64 x2 256 else x2) = packV a u g f := by
  have e0 : bits .or .u64 1 (f * 4096) = f * 4096 + 1 := by
    obtain ⟨n, rfl⟩ := Int.eq_ofNat_of_zero_le h1
    have e := bits_or_u64_nat 1 (n * 4096) (by omega) (by omega)
    have e1 : 1 ||| n * 4096 = n * 4096 + 1 := by
      rw [Nat.or_comm, show (1 : Nat) = 2 ^ 0 from rfl, or_pow _ _ (by simp; omega)]
    rw [e1] at e
    rw [show (n : Int) * 4096 = ((n * 4096 : Nat) : Int) by omega, show (1 : Int) = ((1 : Nat) : Int) from rfl, e]
    omega
  cases a <;> cases u <;> cases g <;> simp only [e0, packV, one, if_true, if_false, Bool.false_eq_true]
  all_goals
    try rw [int_or_pow (f * 4096 + 1) 1 2 rfl (by omega) (by omega) (by omega) (by omega)]
    try rw [int_or_pow (f * 4096 + 1) 2 4 rfl (by omega) (by omega) (by omega) (by omega)]
    try rw [int_or_pow (f * 4096 + 1) 8 256 rfl (by omega) (by omega) (by omega) (by omega)]
    try rw [int_or_pow (f * 4096 + 1 + 2) 2 4 rfl (by omega) (by omega) (by omega) (by omega)]
    try rw [int_or_pow (f * 4096 + 1 + 2) 8 256 rfl (by omega) (by omega) (by omega) (by omega)]
    try rw [int_or_pow (f * 4096 + 1 + 4) 8 256 rfl (by omega) (by omega) (by omega) (by omega)]
    try rw [int_or_pow (f * 4096 + 1 + 2 + 4) 8 256 rfl (by omega) (by omega) (by omega) (by omega)]
    omega

theorem ret_pair {k j : IntKind} {a b c : Int} (h : a = b) : Ending.returned (.tuple #[.int k a, .int j c]) = .returned (.tuple #[.int k b, .int j c]) := by rw [h]

set_option maxHeartbeats 400000 in
theorem pack_ok (a u g : Bool) (f : Int) (w : World) (h1 : 0 ≤ f) (h2 : f < 1099511627776) :
    Calls Try.prog 9 #[.agg #[.bool true, .bool a, .bool u, .bool g, .int .i64 f]] w fun e w' => e = .returned (.tuple #[.int .u64 (packV a u g f), .int .i64 0]) ∧ w' = w.alloc (.cells #[.bool true, .bool a, .bool u, .bool g, .int .i64 f] 23) := by
  have H : Hid _ := packV_bits a u g f h1 h2
  cases a <;> cases u <;> cases g
  all_goals
    go_enter Try.func9, Try.ntmps9
    go_wp2
    go_ret2
    refine ⟨ret_pair ?_, rfl⟩
    simpa only [if_true, if_false, Bool.false_eq_true] using H.out

set_option maxHeartbeats 400000 in
theorem pack_no (p a u g : Bool) (f : Int) (w : World) (h : p = false ∨ f < 0 ∨ 1099511627775 < f) :
    Calls Try.prog 9 #[.agg #[.bool p, .bool a, .bool u, .bool g, .int .i64 f]] w fun e w' => e = .returned (.tuple #[.int .u64 0, .int .i64 1]) ∧ w' = w.alloc (.cells #[.bool p, .bool a, .bool u, .bool g, .int .i64 f] 23) := by
  cases p
  · clear h
    go_enter Try.func9, Try.ntmps9
    go_wp2
    go_ret2
    exact ⟨rfl, rfl⟩
  · by_cases hf : f < 0
    · clear h
      go_enter Try.func9, Try.ntmps9
      go_wp2
      go_ret2
      exact ⟨rfl, rfl⟩
    · have hf2 : 1099511627775 < f := by rcases h with h | h | h; cases h; omega; exact h
      clear h
      go_enter Try.func9, Try.ntmps9
      go_wp2
      go_ret2
      exact ⟨rfl, rfl⟩

end Go.Proofs.Ytcnoobdihnlnkaa

/-
  What Unpack, the document's own Pack and Unpack, and the document's example come to: one contract a function.
-/
import Derived.Test.YtcnoobdihnlnkaaBase
import Derived.Laws.ResultCell
namespace Go.Proofs.Ytcnoobdihnlnkaa
open Go.ChangeShapes Go.WideShapes Go.ChangeAt Go.RowKit

theorem ret_pairb {k : IntKind} {a b : Int} {c : Bool} (h : a = b) : Ending.returned (.tuple #[.int k a, .bool c]) = .returned (.tuple #[.int k b, .bool c]) := by rw [h]

set_option maxHeartbeats 400000 in
theorem refpack_ok (a u g : Bool) (f : Int) (w : World) (h1 : 0 ≤ f) (h2 : f < 1099511627776) :
    Calls Try.prog 16 #[.agg #[.bool true, .bool a, .bool u, .bool g, .int .i64 f]] w fun e w' => e = .returned (.tuple #[.int .u64 (packV a u g f), .bool true]) ∧ w' = w.alloc (.cells #[.bool true, .bool a, .bool u, .bool g, .int .i64 f] 43) := by
  have H : Hid _ := packV_bits a u g f h1 h2
  cases a <;> cases u <;> cases g
  all_goals
    go_enter Try.func16, Try.ntmps16
    go_wp2
    go_ret2
    refine ⟨ret_pairb ?_, rfl⟩
    simpa only [if_true, if_false, Bool.false_eq_true] using H.out

set_option maxHeartbeats 400000 in
theorem refpack_no (p a u g : Bool) (f : Int) (w : World) (h : p = false ∨ f < 0 ∨ 1099511627775 < f) :
    Calls Try.prog 16 #[.agg #[.bool p, .bool a, .bool u, .bool g, .int .i64 f]] w fun e w' => e = .returned (.tuple #[.int .u64 0, .bool false]) ∧ w' = w.alloc (.cells #[.bool p, .bool a, .bool u, .bool g, .int .i64 f] 43) := by
  cases p
  · clear h
    go_enter Try.func16, Try.ntmps16
    go_wp2
    go_ret2
    exact ⟨rfl, rfl⟩
  · by_cases hf : f < 0
    · clear h
      go_enter Try.func16, Try.ntmps16
      go_wp2
      go_ret2
      exact ⟨rfl, rfl⟩
    · have hf2 : 1099511627775 < f := by rcases h with h | h | h; cases h; omega; exact h
      clear h
      go_enter Try.func16, Try.ntmps16
      go_wp2
      go_ret2
      exact ⟨rfl, rfl⟩

/-- No digit that must be 0 is 1. -/
def okX (x : Int) : Bool := bits .andNot .u64 x 4503599627366663 == 0
/-- A digit, by its weight. -/
def bitV (x K : Int) : Bool := x / K % 2 != 0

theorem and_one (x : Int) (h1 : 0 ≤ x) (h2 : x < 18446744073709551616) : bits .and .u64 x 1 = x % 2 := by
  have := int_and_pow x 0 1 rfl (by omega) h1 h2
  rw [this]; simp
theorem and_bit (x : Int) (k : Nat) (K : Int) (hK : K = ((2 ^ k : Nat) : Int)) (hk : k < 64) (h1 : 0 ≤ x) (h2 : x < 18446744073709551616) : (bits .and .u64 x K != 0) = bitV x K := by
  rw [int_and_pow x k K hK hk h1 h2]
  have hp : 0 < K := by rw [hK]; exact_mod_cast Nat.two_pow_pos k
  unfold bitV
  have hz : x / K % 2 = 0 ∨ x / K % 2 = 1 := by omega
  rcases hz with h | h <;> rw [h]
  · simp
  · simp; omega

/-- Why bits are no entry (0: they are one), and what the entry says. -/
def unN (x : Int) : Int := if x % 2 = 0 then 3 else if okX x = true then 0 else 2
def unP (x : Int) : Bool := unN x == 0
def unB (x K : Int) : Bool := unN x == 0 && bitV x K
def unF (x : Int) : Int := if unN x = 0 then x / 4096 % 1099511627776 else 0

set_option maxHeartbeats 400000 in
theorem unpack_none (x : Int) (w : World) (h1 : 0 ≤ x) (h2 : x < 18446744073709551616) (h : x % 2 = 0) :
    Calls Try.prog 10 #[.int .u64 x] w fun e w' => e = .returned (.tuple #[.agg #[.bool false, .bool false, .bool false, .bool false, .int .i64 0], .int .i64 3]) ∧ w' = w.alloc (.cells #[.bool false, .bool false, .bool false, .bool false, .int .i64 0] 23) := by
  have hm : bits .and .u64 x 1 = 0 := by rw [and_one x h1 h2, h]
  clear h
  go_enter Try.func10, Try.ntmps10
  go_wp2
  exact bodyPost_ret (v := .tuple #[.agg #[.bool false, .bool false, .bool false, .bool false, .int .i64 0], .int .i64 3]) (by simp [results, Try.results10, go_sem]) rfl ⟨rfl, rfl⟩

set_option maxHeartbeats 400000 in
theorem unpack_form (x : Int) (w : World) (h1 : 0 ≤ x) (h2 : x < 18446744073709551616) (h : x % 2 = 1) (ho : okX x = false) :
    Calls Try.prog 10 #[.int .u64 x] w fun e w' => e = .returned (.tuple #[.agg #[.bool false, .bool false, .bool false, .bool false, .int .i64 0], .int .i64 2]) ∧ w' = w.alloc (.cells #[.bool false, .bool false, .bool false, .bool false, .int .i64 0] 23) := by
  have hm : bits .and .u64 x 1 = 1 := by rw [and_one x h1 h2, h]
  clear h
  unfold okX at ho
  go_enter Try.func10, Try.ntmps10
  go_wp2
  exact bodyPost_ret (v := .tuple #[.agg #[.bool false, .bool false, .bool false, .bool false, .int .i64 0], .int .i64 2]) (by simp [results, Try.results10, go_sem]) rfl ⟨rfl, rfl⟩

set_option maxHeartbeats 400000 in
theorem unpack_ok (x : Int) (w : World) (h1 : 0 ≤ x) (h2 : x < 18446744073709551616) (h : x % 2 = 1) (ho : okX x = true) :
    Calls Try.prog 10 #[.int .u64 x] w fun e w' => e = .returned (.tuple #[.agg #[.bool true, .bool (bitV x 2), .bool (bitV x 4), .bool (bitV x 256), .int .i64 (x / 4096 % 1099511627776)], .int .i64 0]) ∧ w' = w.alloc (.cells #[.bool true, .bool (bitV x 2), .bool (bitV x 4), .bool (bitV x 256), .int .i64 (x / 4096 % 1099511627776)] 23) := by
  have hm : bits .and .u64 x 1 = 1 := by rw [and_one x h1 h2, h]
  clear h
  have hb1 := and_bit x 1 2 rfl (by omega) h1 h2
  have hb2 := and_bit x 2 4 rfl (by omega) h1 h2
  have hb3 := and_bit x 8 256 rfl (by omega) h1 h2
  unfold okX at ho
  go_enter Try.func10, Try.ntmps10
  go_wp2_with (go_at_call 14; refine (raw_any _ _ (by omega) (by omega)).mono ?_; rintro e w' ⟨rfl, rfl⟩)
  exact bodyPost_ret (v := .tuple #[.agg #[.bool true, .bool (bitV x 2), .bool (bitV x 4), .bool (bitV x 256), .int .i64 (x / 4096 % 1099511627776)], .int .i64 0]) (by simp [results, Try.results10, go_sem]) rfl ⟨rfl, rfl⟩

theorem unpack_any (x : Int) (w : World) (h1 : 0 ≤ x) (h2 : x < 18446744073709551616) :
    Calls Try.prog 10 #[.int .u64 x] w fun e w' => e = .returned (.tuple #[.agg #[.bool (unP x), .bool (unB x 2), .bool (unB x 4), .bool (unB x 256), .int .i64 (unF x)], .int .i64 (unN x)]) ∧ w' = w.alloc (.cells #[.bool (unP x), .bool (unB x 2), .bool (unB x 4), .bool (unB x 256), .int .i64 (unF x)] 23) := by
  by_cases h : x % 2 = 0
  · have e0 : unN x = 3 := by unfold unN; rw [if_pos h]
    simp only [unP, unB, unF, e0]
    exact unpack_none x w h1 h2 h
  · cases ho : okX x
    · have e0 : unN x = 2 := by unfold unN; rw [if_neg h, ho]; rfl
      simp only [unP, unB, unF, e0]
      exact unpack_form x w h1 h2 (by omega) ho
    · have e0 : unN x = 0 := by unfold unN; rw [if_neg h, ho]; rfl
      simp only [unP, unB, unF, e0]
      exact unpack_ok x w h1 h2 (by omega) ho

set_option maxHeartbeats 400000 in
theorem refunpack_none (x : Int) (w : World) (h1 : 0 ≤ x) (h2 : x < 18446744073709551616) (h : x % 2 = 0) :
    Calls Try.prog 17 #[.int .u64 x] w fun e w' => e = .returned (.tuple #[.agg #[.bool false, .bool false, .bool false, .bool false, .int .i64 0], .int .i64 3]) ∧ w' = w.alloc (.cells #[.bool false, .bool false, .bool false, .bool false, .int .i64 0] 43) := by
  have hm : bits .and .u64 x 1 = 0 := by rw [and_one x h1 h2, h]
  clear h
  go_enter Try.func17, Try.ntmps17
  go_wp2
  exact bodyPost_ret (v := .tuple #[.agg #[.bool false, .bool false, .bool false, .bool false, .int .i64 0], .int .i64 3]) (by simp [results, Try.results17, go_sem]) rfl ⟨rfl, rfl⟩

set_option maxHeartbeats 400000 in
theorem refunpack_form (x : Int) (w : World) (h1 : 0 ≤ x) (h2 : x < 18446744073709551616) (h : x % 2 = 1) (ho : okX x = false) :
    Calls Try.prog 17 #[.int .u64 x] w fun e w' => e = .returned (.tuple #[.agg #[.bool false, .bool false, .bool false, .bool false, .int .i64 0], .int .i64 2]) ∧ w' = w.alloc (.cells #[.bool false, .bool false, .bool false, .bool false, .int .i64 0] 43) := by
  have hm : bits .and .u64 x 1 = 1 := by rw [and_one x h1 h2, h]
  clear h
  unfold okX at ho
  go_enter Try.func17, Try.ntmps17
  go_wp2
  exact bodyPost_ret (v := .tuple #[.agg #[.bool false, .bool false, .bool false, .bool false, .int .i64 0], .int .i64 2]) (by simp [results, Try.results17, go_sem]) rfl ⟨rfl, rfl⟩

set_option maxHeartbeats 400000 in
theorem refunpack_ok (x : Int) (w : World) (h1 : 0 ≤ x) (h2 : x < 18446744073709551616) (h : x % 2 = 1) (ho : okX x = true) :
    Calls Try.prog 17 #[.int .u64 x] w fun e w' => e = .returned (.tuple #[.agg #[.bool true, .bool (bitV x 2), .bool (bitV x 4), .bool (bitV x 256), .int .i64 (x / 4096 % 1099511627776)], .int .i64 0]) ∧ w' = w.alloc (.cells #[.bool true, .bool (bitV x 2), .bool (bitV x 4), .bool (bitV x 256), .int .i64 (x / 4096 % 1099511627776)] 43) := by
  have hm : bits .and .u64 x 1 = 1 := by rw [and_one x h1 h2, h]
  clear h
  have hb1 := and_bit x 1 2 rfl (by omega) h1 h2
  have hb2 := and_bit x 2 4 rfl (by omega) h1 h2
  have hb3 := and_bit x 8 256 rfl (by omega) h1 h2
  unfold okX at ho
  go_enter Try.func17, Try.ntmps17
  go_wp2_with (go_at_call 18; refine (refraw_any _ _ (by omega) (by omega)).mono ?_; rintro e w' ⟨rfl, rfl⟩)
  exact bodyPost_ret (v := .tuple #[.agg #[.bool true, .bool (bitV x 2), .bool (bitV x 4), .bool (bitV x 256), .int .i64 (x / 4096 % 1099511627776)], .int .i64 0]) (by simp [results, Try.results17, go_sem]) rfl ⟨rfl, rfl⟩

theorem refunpack_any (x : Int) (w : World) (h1 : 0 ≤ x) (h2 : x < 18446744073709551616) :
    Calls Try.prog 17 #[.int .u64 x] w fun e w' => e = .returned (.tuple #[.agg #[.bool (unP x), .bool (unB x 2), .bool (unB x 4), .bool (unB x 256), .int .i64 (unF x)], .int .i64 (unN x)]) ∧ w' = w.alloc (.cells #[.bool (unP x), .bool (unB x 2), .bool (unB x 4), .bool (unB x 256), .int .i64 (unF x)] 43) := by
  by_cases h : x % 2 = 0
  · have e0 : unN x = 3 := by unfold unN; rw [if_pos h]
    simp only [unP, unB, unF, e0]
    exact refunpack_none x w h1 h2 h
  · cases ho : okX x
    · have e0 : unN x = 2 := by unfold unN; rw [if_neg h, ho]; rfl
      simp only [unP, unB, unF, e0]
      exact refunpack_form x w h1 h2 (by omega) ho
    · have e0 : unN x = 0 := by unfold unN; rw [if_neg h, ho]; rfl
      simp only [unP, unB, unF, e0]
      exact refunpack_ok x w h1 h2 (by omega) ho

set_option maxHeartbeats 400000 in
theorem wakes_any (w : World) : Calls Try.prog 15 #[] w fun e w' => e = .returned (.bool true) ∧ w' = w.alloc (.cells #[.bool true, .bool false, .bool false, .bool false, .int .i64 1] 23) := by
  have hv : packV false false false 1 = 4097 := rfl
  have hc : ∀ w : World, Calls Try.prog 9 #[.agg #[.bool true, .bool false, .bool false, .bool false, .int .i64 1]] w fun e w' => e = .returned (.tuple #[.int .u64 4097, .int .i64 0]) ∧ w' = w.alloc (.cells #[.bool true, .bool false, .bool false, .bool false, .int .i64 1] 23) := fun w => pack_ok false false false 1 w (by omega) (by omega)
  go_enter Try.func15, Try.ntmps15
  go_wp2_with (go_at_call 9; refine (hc _).mono ?_; rintro e w' ⟨rfl, rfl⟩)
  go_ret
  exact ⟨rfl, rfl⟩

end Go.Proofs.Ytcnoobdihnlnkaa

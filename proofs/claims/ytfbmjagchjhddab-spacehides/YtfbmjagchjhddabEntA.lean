/-
  Package entry: Pack, Unpack, Raw.
-/
import Derived.Test.YtfbmjagchjhddabRows
import Derived.Test.YtfbmjagchjhddabEntM
import Derived.WalkKit
import Derived.ProofKit
import Derived.OpenShut
import Derived.Outline
namespace Go.Proofs.Ytfbmjagchjhddab
open Go.ChangeShapes Go.WideShapes Go.ChangeAt Go.RowKit

set_option maxHeartbeats 400000 in
theorem raw_any (x : Int) (w : World) (h1 : 0 ≤ x) (h2 : x < 18446744073709551616) :
    Calls Try.prog 36 #[.int .u64 x] w fun e w' => e = .returned (.int .i64 (x / 4096 % 1099511627776)) ∧ w' = w := by
  have hm := int_mask40 (x / 4096) (by omega) (by omega)
  go_enter Try.func36, Try.ntmps36
  go_wp2
  go_ret
  exact ⟨rfl, rfl⟩

theorem packV_bits (a u g : Bool) (f : Int) (h1 : 0 ≤ f) (h2 : f < 1099511627776) :
    let x0 := bits .or .u64 1 (f * 4096)
    let x1 := if a then bits .or .u64 x0 2 else x0
    let x2 := if u then bits .or .u64 x1 4 else x1
    (if g then bits .or .u64 x2 256 else x2) = packV a u g f := by
  have e0 : bits .or .u64 1 (f * 4096) = f * 4096 + 1 := by
    obtain ⟨n, rfl⟩ := Int.eq_ofNat_of_zero_le h1
    have e := bits_or_u64_nat 1 (n * 4096) (by omega) (by omega)
    have e1 : 1 ||| n * 4096 = n * 4096 + 1 := by
      rw [Nat.or_comm, show (1 : Nat) = 2 ^ 0 from rfl, or_pow _ _ (by simp; omega)]
    rw [e1] at e
    rw [show (n : Int) * 4096 = ((n * 4096 : Nat) : Int) by omega, show (1 : Int) = ((1 : Nat) : Int) from rfl, e]
    omega
  cases a <;> cases u <;> cases g <;> simp only [e0, packV, one, if_true, if_false, Bool.false_eq_true]
  all_goals
    try rw [int_or_pow (f * 4096 + 1) 1 2 rfl (by omega) (by omega) (by omega) (by omega)]
    try rw [int_or_pow (f * 4096 + 1) 2 4 rfl (by omega) (by omega) (by omega) (by omega)]
    try rw [int_or_pow (f * 4096 + 1) 8 256 rfl (by omega) (by omega) (by omega) (by omega)]
    try rw [int_or_pow (f * 4096 + 1 + 2) 2 4 rfl (by omega) (by omega) (by omega) (by omega)]
    try rw [int_or_pow (f * 4096 + 1 + 2) 8 256 rfl (by omega) (by omega) (by omega) (by omega)]
    try rw [int_or_pow (f * 4096 + 1 + 4) 8 256 rfl (by omega) (by omega) (by omega) (by omega)]
    try rw [int_or_pow (f * 4096 + 1 + 2 + 4) 8 256 rfl (by omega) (by omega) (by omega) (by omega)]
    omega

theorem ret_pair {k j : IntKind} {a b c : Int} (h : a = b) : Ending.returned (.tuple #[.int k a, .int j c]) = .returned (.tuple #[.int k b, .int j c]) := by rw [h]

set_option maxHeartbeats 400000 in
theorem pack_ok (a u g : Bool) (f : Int) (w : World) (h1 : 0 ≤ f) (h2 : f < 1099511627776) :
    Calls Try.prog 7 #[.agg #[.bool true, .bool a, .bool u, .bool g, .int .i64 f]] w fun e w' => e = .returned (.tuple #[.int .u64 (packV a u g f), .int .i64 0]) ∧ w' = w.alloc (.cells #[.bool true, .bool a, .bool u, .bool g, .int .i64 f] 36) := by
  have H : Hid _ := packV_bits a u g f h1 h2
  cases a <;> cases u <;> cases g
  all_goals
    go_enter Try.func7, Try.ntmps7
    go_wp2
    go_ret2
    refine ⟨ret_pair ?_, rfl⟩
    simpa only [if_true, if_false, Bool.false_eq_true] using H.out

set_option maxHeartbeats 400000 in
theorem pack_no (p a u g : Bool) (f : Int) (w : World) (h : p = false ∨ f < 0 ∨ 1099511627775 < f) :
    Calls Try.prog 7 #[.agg #[.bool p, .bool a, .bool u, .bool g, .int .i64 f]] w fun e w' => e = .returned (.tuple #[.int .u64 0, .int .i64 1]) ∧ w' = w.alloc (.cells #[.bool p, .bool a, .bool u, .bool g, .int .i64 f] 36) := by
  cases p
  · clear h
    go_enter Try.func7, Try.ntmps7
    go_wp2
    go_ret2
    exact ⟨rfl, rfl⟩
  · by_cases hf : f < 0
    · clear h
      go_enter Try.func7, Try.ntmps7
      go_wp2
      go_ret2
      exact ⟨rfl, rfl⟩
    · have hf2 : 1099511627775 < f := by rcases h with h | h | h; cases h; omega; exact h
      clear h
      go_enter Try.func7, Try.ntmps7
      go_wp2
      go_ret2
      exact ⟨rfl, rfl⟩


/-- No digit that must be 0 is 1. -/
def okX (x : Int) : Bool := bits .andNot .u64 x 4503599627366663 == 0
/-- A digit, by its weight. -/
def bitV (x K : Int) : Bool := x / K % 2 != 0

theorem and_one (x : Int) (h1 : 0 ≤ x) (h2 : x < 18446744073709551616) : bits .and .u64 x 1 = x % 2 := by
  have := int_and_pow x 0 1 rfl (by omega) h1 h2
  rw [this]; simp
theorem and_bit (x : Int) (k : Nat) (K : Int) (hK : K = ((2 ^ k : Nat) : Int)) (hk : k < 64) (h1 : 0 ≤ x) (h2 : x < 18446744073709551616) : (bits .and .u64 x K != 0) = bitV x K := by
  rw [int_and_pow x k K hK hk h1 h2]
  have hp : 0 < K := by rw [hK]; exact_mod_cast Nat.two_pow_pos k
  unfold bitV
  have hz : x / K % 2 = 0 ∨ x / K % 2 = 1 := by omega
  rcases hz with h | h <;> rw [h]
  · simp
  · simp; omega

/-- Why bits are no entry (0: they are one), and what the entry says. -/
def unN (x : Int) : Int := if x % 2 = 0 then 3 else if okX x = true then 0 else 2
def unP (x : Int) : Bool := unN x == 0
def unB (x K : Int) : Bool := unN x == 0 && bitV x K
def unF (x : Int) : Int := if unN x = 0 then x / 4096 % 1099511627776 else 0

set_option maxHeartbeats 400000 in
theorem unpack_none (x : Int) (w : World) (h1 : 0 ≤ x) (h2 : x < 18446744073709551616) (h : x % 2 = 0) :
    Calls Try.prog 48 #[.int .u64 x] w fun e w' => e = .returned (.tuple #[.agg #[.bool false, .bool false, .bool false, .bool false, .int .i64 0], .int .i64 3]) ∧ w' = w.alloc (.cells #[.bool false, .bool false, .bool false, .bool false, .int .i64 0] 36) := by
  have hm : bits .and .u64 x 1 = 0 := by rw [and_one x h1 h2, h]
  clear h
  go_enter Try.func48, Try.ntmps48
  go_wp2
  exact bodyPost_ret (v := .tuple #[.agg #[.bool false, .bool false, .bool false, .bool false, .int .i64 0], .int .i64 3]) (by simp [results, Try.results48, go_sem]) rfl ⟨rfl, rfl⟩

set_option maxHeartbeats 400000 in
theorem unpack_form (x : Int) (w : World) (h1 : 0 ≤ x) (h2 : x < 18446744073709551616) (h : x % 2 = 1) (ho : okX x = false) :
    Calls Try.prog 48 #[.int .u64 x] w fun e w' => e = .returned (.tuple #[.agg #[.bool false, .bool false, .bool false, .bool false, .int .i64 0], .int .i64 2]) ∧ w' = w.alloc (.cells #[.bool false, .bool false, .bool false, .bool false, .int .i64 0] 36) := by
  have hm : bits .and .u64 x 1 = 1 := by rw [and_one x h1 h2, h]
  clear h
  unfold okX at ho
  go_enter Try.func48, Try.ntmps48
  go_wp2
  exact bodyPost_ret (v := .tuple #[.agg #[.bool false, .bool false, .bool false, .bool false, .int .i64 0], .int .i64 2]) (by simp [results, Try.results48, go_sem]) rfl ⟨rfl, rfl⟩

set_option maxHeartbeats 400000 in
theorem unpack_ok (x : Int) (w : World) (h1 : 0 ≤ x) (h2 : x < 18446744073709551616) (h : x % 2 = 1) (ho : okX x = true) :
    Calls Try.prog 48 #[.int .u64 x] w fun e w' => e = .returned (.tuple #[.agg #[.bool true, .bool (bitV x 2), .bool (bitV x 4), .bool (bitV x 256), .int .i64 (x / 4096 % 1099511627776)], .int .i64 0]) ∧ w' = w.alloc (.cells #[.bool true, .bool (bitV x 2), .bool (bitV x 4), .bool (bitV x 256), .int .i64 (x / 4096 % 1099511627776)] 36) := by
  have hm : bits .and .u64 x 1 = 1 := by rw [and_one x h1 h2, h]
  clear h
  have hb1 := and_bit x 1 2 rfl (by omega) h1 h2
  have hb2 := and_bit x 2 4 rfl (by omega) h1 h2
  have hb3 := and_bit x 8 256 rfl (by omega) h1 h2
  unfold okX at ho
  go_enter Try.func48, Try.ntmps48
  go_wp2_with (go_at_call 36; refine (raw_any _ _ (by omega) (by omega)).mono ?_; rintro e w' ⟨rfl, rfl⟩)
  exact bodyPost_ret (v := .tuple #[.agg #[.bool true, .bool (bitV x 2), .bool (bitV x 4), .bool (bitV x 256), .int .i64 (x / 4096 % 1099511627776)], .int .i64 0]) (by simp [results, Try.results48, go_sem]) rfl ⟨rfl, rfl⟩

theorem unpack_any (x : Int) (w : World) (h1 : 0 ≤ x) (h2 : x < 18446744073709551616) :
    Calls Try.prog 48 #[.int .u64 x] w fun e w' => e = .returned (.tuple #[.agg #[.bool (unP x), .bool (unB x 2), .bool (unB x 4), .bool (unB x 256), .int .i64 (unF x)], .int .i64 (unN x)]) ∧ w' = w.alloc (.cells #[.bool (unP x), .bool (unB x 2), .bool (unB x 4), .bool (unB x 256), .int .i64 (unF x)] 36) := by
  by_cases h : x % 2 = 0
  · have e0 : unN x = 3 := by unfold unN; rw [if_pos h]
    simp only [unP, unB, unF, e0]
    exact unpack_none x w h1 h2 h
  · cases ho : okX x
    · have e0 : unN x = 2 := by unfold unN; rw [if_neg h, ho]; rfl
      simp only [unP, unB, unF, e0]
      exact unpack_form x w h1 h2 (by omega) ho
    · have e0 : unN x = 0 := by unfold unN; rw [if_neg h, ho]; rfl
      simp only [unP, unB, unF, e0]
      exact unpack_ok x w h1 h2 (by omega) ho

end Go.Proofs.Ytfbmjagchjhddab

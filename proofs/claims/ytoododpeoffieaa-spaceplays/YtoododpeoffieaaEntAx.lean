/-
  Package entry: Pack, Unpack, Raw.
-/
import Derived.Test.YtoododpeoffieaaRows
import Derived.Test.YtoododpeoffieaaEntM
import Derived.WalkKit
import Derived.ProofKit
import Derived.OpenShut
import Derived.Outline
namespace Go.Proofs.Ytoododpeoffieaa
open Go.ChangeShapes Go.WideShapes Go.ChangeAt Go.RowKit


theorem packV_bits (a u g : Bool) (f : Int) (h1 : 0 ≤ f) (h2 : f < 1099511627776) :
    let x0 := bits .or .u64 1 (f * 4096)
    let x1 := if a then bits .or .u64 x0 2 else x0
    let x2 := if u then bits .or .u64 x1 4 else x1
    (if g then bits .or .u64 x2 256 else x2) = packV a u g f := by
  have e0 : bits .or .u64 1 (f * 4096) = f * 4096 + 1 := by
    obtain ⟨n, rfl⟩ := Int.eq_ofNat_of_zero_le h1
    have e := bits_or_u64_nat 1 (n * 4096) (by omega) (by omega)
    have e1 : 1 ||| n * 4096 = n * 4096 + 1 := by
      rw [Nat.or_comm, show (1 : Nat) = 2 ^ 0 from rfl, or_pow _ _ (by simp; omega)]
    rw [e1] at e
    rw [show (n : Int) * 4096 = ((n * 4096 : Nat) : Int) by omega, show (1 : Int) = ((1 : Nat) : Int) from rfl, e]
    omega
  cases a <;> cases u <;> cases g <;> simp only [e0, packV, one, if_true, if_false, Bool.false_eq_true]
  all_goals
    try rw [int_or_pow (f * 4096 + 1) 1 2 rfl (by omega) (by omega) (by omega) (by omega)]
    try rw [int_or_pow (f * 4096 + 1) 2 4 rfl (by omega) (by omega) (by omega) (by omega)]
    try rw [int_or_pow (f * 4096 + 1) 8 256 rfl (by omega) (by omega) (by omega) (by omega)]
    try rw [int_or_pow (f * 4096 + 1 + 2) 2 4 rfl (by omega) (by omega) (by omega) (by omega)]
    try rw [int_or_pow (f * 4096 + 1 + 2) 8 256 rfl (by omega) (by omega) (by omega) (by omega)]
    try rw [int_or_pow (f * 4096 + 1 + 4) 8 256 rfl (by omega) (by omega) (by omega) (by omega)]
    try rw [int_or_pow (f * 4096 + 1 + 2 + 4) 8 256 rfl (by omega) (by omega) (by omega) (by omega)]
    omega

theorem ret_pair {k j : IntKind} {a b c : Int} (h : a = b) : Ending.returned (.tuple #[.int k a, .int j c]) = .returned (.tuple #[.int k b, .int j c]) := by rw [h]

set_option maxHeartbeats 400000 in
theorem pack_ok (a u g : Bool) (f : Int) (w : World) (h1 : 0 ≤ f) (h2 : f < 1099511627776) :
    Calls Try.prog 65 #[.agg #[.bool true, .bool a, .bool u, .bool g, .int .i64 f]] w fun e w' => e = .returned (.tuple #[.int .u64 (packV a u g f), .int .i64 0]) ∧ w' = w.alloc (.cells #[.bool true, .bool a, .bool u, .bool g, .int .i64 f] 99) := by
  have H : Hid _ := packV_bits a u g f h1 h2
  cases a <;> cases u <;> cases g
  all_goals
    go_enter Try.func65, Try.ntmps65
    go_wp2
    go_ret2
    refine ⟨ret_pair ?_, rfl⟩
    simpa only [if_true, if_false, Bool.false_eq_true] using H.out

set_option maxHeartbeats 400000 in
theorem pack_no (p a u g : Bool) (f : Int) (w : World) (h : p = false ∨ f < 0 ∨ 1099511627775 < f) :
    Calls Try.prog 65 #[.agg #[.bool p, .bool a, .bool u, .bool g, .int .i64 f]] w fun e w' => e = .returned (.tuple #[.int .u64 0, .int .i64 1]) ∧ w' = w.alloc (.cells #[.bool p, .bool a, .bool u, .bool g, .int .i64 f] 99) := by
  cases p
  · clear h
    go_enter Try.func65, Try.ntmps65
    go_wp2
    go_ret2
    exact ⟨rfl, rfl⟩
  · by_cases hf : f < 0
    · clear h
      go_enter Try.func65, Try.ntmps65
      go_wp2
      go_ret2
      exact ⟨rfl, rfl⟩
    · have hf2 : 1099511627775 < f := by rcases h with h | h | h; cases h; omega; exact h
      clear h
      go_enter Try.func65, Try.ntmps65
      go_wp2
      go_ret2
      exact ⟨rfl, rfl⟩


/-- No digit that must be 0 is 1. -/
def okX (x : Int) : Bool := bits .andNot .u64 x 4503599627366663 == 0
/-- A digit, by its weight. -/
def bitV (x K : Int) : Bool := x / K % 2 != 0

theorem and_one (x : Int) (h1 : 0 ≤ x) (h2 : x < 18446744073709551616) : bits .and .u64 x 1 = x % 2 := by
  have := int_and_pow x 0 1 rfl (by omega) h1 h2
  rw [this]; simp
theorem and_bit (x : Int) (k : Nat) (K : Int) (hK : K = ((2 ^ k : Nat) : Int)) (hk : k < 64) (h1 : 0 ≤ x) (h2 : x < 18446744073709551616) : (bits .and .u64 x K != 0) = bitV x K := by
  rw [int_and_pow x k K hK hk h1 h2]
  have hp : 0 < K := by rw [hK]; exact_mod_cast Nat.two_pow_pos k
  unfold bitV
  have hz : x / K % 2 = 0 ∨ x / K % 2 = 1 := by omega
  rcases hz with h | h <;> rw [h]
  · simp
  · simp; omega

/-- Why bits are no entry (0: they are one), and what the entry says. -/
def unN (x : Int) : Int := if x % 2 = 0 then 3 else if okX x = true then 0 else 2
def unP (x : Int) : Bool := unN x == 0
def unB (x K : Int) : Bool := unN x == 0 && bitV x K
def unF (x : Int) : Int := if unN x = 0 then x / 4096 % 1099511627776 else 0

end Go.Proofs.Ytoododpeoffieaa
/-
  Facts on numbers: what packed bits unpack to.
-/
namespace Go.Proofs.Ytoododpeoffieaa
open Go.ChangeShapes Go.WideShapes Go.ChangeAt Go.RowKit

theorem one_01 (b : Bool) : one b = 0 ∨ one b = 1 := by cases b <;> simp [one]

theorem packV_bd (a u g : Bool) (f : Int) (h1 : 0 ≤ f) (h2 : f < 1099511627776) : 0 ≤ packV a u g f ∧ packV a u g f < 4503599627370496 := by
  have := one_01 a; have := one_01 u; have := one_01 g
  unfold packV; omega

/-- The digits that must be 0, of low digits c and a frame f. -/
theorem nat_known (f c : Nat) (hf : f < 1099511627776) (hc : c < 4096) : (4096 * f + c) &&& 18442240474082184952 = c &&& 3832 := by
  have hm : ((4096 * f + c) &&& 18442240474082184952) % 2 ^ 12 = c &&& 3832 := by
    rw [Nat.and_mod_two_pow]
    have e1 : (4096 * f + c) % 2 ^ 12 = c := by omega
    rw [e1]
  have hd : ((4096 * f + c) &&& 18442240474082184952) / 2 ^ 12 = 0 := by
    rw [Nat.and_div_two_pow]
    have e1 : (4096 * f + c) / 2 ^ 12 = f := by omega
    rw [e1]
    have e2 : (f &&& 18442240474082184952 / 2 ^ 12) % 2 ^ 40 = 0 := by
      rw [Nat.and_mod_two_pow, show 18442240474082184952 / 2 ^ 12 % 2 ^ 40 = 0 by decide, Nat.and_zero]
    have e3 : (f &&& 18442240474082184952 / 2 ^ 12) / 2 ^ 40 = 0 := by
      rw [Nat.and_div_two_pow, Nat.div_eq_of_lt (by omega), Nat.zero_and]
    omega
  have hle : c &&& 3832 < 4096 := Nat.lt_of_le_of_lt Nat.and_le_left hc
  omega

theorem okX_nat (n : Nat) (h : n < 18446744073709551616) : okX (n : Int) = ((n &&& 18442240474082184952) == 0) := by
  unfold okX
  have e := bits_andNot_u64_nat n 4503599627366663 h (by omega)
  rw [show (4503599627366663 : Int) = ((4503599627366663 : Nat) : Int) from rfl, e]
  rw [Bool.eq_iff_iff]; simp

theorem okX_pack (a u g : Bool) (f : Int) (h1 : 0 ≤ f) (h2 : f < 1099511627776) : okX (packV a u g f) = true := by
  obtain ⟨n, rfl⟩ := Int.eq_ofNat_of_zero_le h1
  obtain ⟨c, hc, he, hz⟩ : ∃ c : Nat, c < 4096 ∧ packV a u g n = ((4096 * n + c : Nat) : Int) ∧ c &&& 3832 = 0 := by
    cases a <;> cases u <;> cases g
    · exact ⟨1, by omega, by simp [packV, one]; omega, by decide⟩
    · exact ⟨257, by omega, by simp [packV, one]; omega, by decide⟩
    · exact ⟨5, by omega, by simp [packV, one]; omega, by decide⟩
    · exact ⟨261, by omega, by simp [packV, one]; omega, by decide⟩
    · exact ⟨3, by omega, by simp [packV, one]; omega, by decide⟩
    · exact ⟨259, by omega, by simp [packV, one]; omega, by decide⟩
    · exact ⟨7, by omega, by simp [packV, one]; omega, by decide⟩
    · exact ⟨263, by omega, by simp [packV, one]; omega, by decide⟩
  rw [he, okX_nat _ (by omega), nat_known _ _ (by omega) hc, hz]; rfl

theorem bitV_pack (a u g : Bool) (f : Int) : bitV (packV a u g f) 2 = a ∧ bitV (packV a u g f) 4 = u ∧ bitV (packV a u g f) 256 = g := by
  unfold bitV
  have ea : packV a u g f / 2 % 2 = one a := by
    have := one_01 a; have := one_01 u; have := one_01 g; unfold packV; omega
  have eu : packV a u g f / 4 % 2 = one u := by
    have := one_01 a; have := one_01 u; have := one_01 g; unfold packV; omega
  have eg : packV a u g f / 256 % 2 = one g := by
    have := one_01 a; have := one_01 u; have := one_01 g; unfold packV; omega
  rw [ea, eu, eg]
  refine ⟨?_, ?_, ?_⟩
  · cases a <;> rfl
  · cases u <;> rfl
  · cases g <;> rfl

theorem raw_pack (a u g : Bool) (f : Int) (h1 : 0 ≤ f) (h2 : f < 1099511627776) : packV a u g f / 4096 % 1099511627776 = f := by
  have := one_01 a; have := one_01 u; have := one_01 g; unfold packV; omega

theorem odd_pack (a u g : Bool) (f : Int) : packV a u g f % 2 = 1 := by
  have := one_01 a; have := one_01 u; have := one_01 g; unfold packV; omega
/-- A packed entry, read. -/
theorem un_pack (a u g : Bool) (f : Int) (h1 : 0 ≤ f) (h2 : f < 1099511627776) : unN (packV a u g f) = 0 ∧ unF (packV a u g f) = f ∧ unB (packV a u g f) 2 = a ∧ unB (packV a u g f) 4 = u ∧ unB (packV a u g f) 256 = g := by
  have h0 : unN (packV a u g f) = 0 := by unfold unN; rw [if_neg (by rw [odd_pack]; decide), if_pos (okX_pack a u g f h1 h2)]
  obtain ⟨b1, b2, b3⟩ := bitV_pack a u g f
  refine ⟨h0, ?_, ?_, ?_, ?_⟩
  · unfold unF; rw [if_pos h0]; exact raw_pack a u g f h1 h2
  · unfold unB; rw [h0, b1]; rfl
  · unfold unB; rw [h0, b2]; rfl
  · unfold unB; rw [h0, b3]; rfl
end Go.Proofs.Ytoododpeoffieaa

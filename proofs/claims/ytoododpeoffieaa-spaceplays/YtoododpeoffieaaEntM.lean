/-
  Plain numbers: what the digits of an entry come to, as sums (no program here).
-/
import Derived.WalkKit
import Derived.Laws.Bits64
import Derived.Laws.Bits64b
namespace Go.Proofs.Ytoododpeoffieaa

/-- The other digits of an entry, as Nat. -/
theorem bits_andNot_u64_nat (a b : Nat) (ha : a < 18446744073709551616) (hb : b < 18446744073709551616) :
    bits .andNot .u64 (a : Int) (b : Int) = ((a &&& (18446744073709551615 - b) : Nat) : Int) := by
  have hx : a &&& (18446744073709551615 - b) < 18446744073709551616 := Nat.lt_of_le_of_lt Nat.and_le_left ha
  have h1 : (BitVec.ofInt 64 (a : Int)).toNat = a := by
    rw [BitVec.ofInt_natCast, BitVec.toNat_ofNat]; exact Nat.mod_eq_of_lt (by omega)
  have h2 : (BitVec.ofInt 64 (b : Int)).toNat = b := by
    rw [BitVec.ofInt_natCast, BitVec.toNat_ofNat]; exact Nat.mod_eq_of_lt (by omega)
  show IntKind.u64.wrap ((BitVec.ofInt 64 (a : Int) &&& ~~~ BitVec.ofInt 64 (b : Int)).toNat : Int) = _
  rw [BitVec.toNat_and, BitVec.toNat_not, h1, h2, IntKind.wrap_u64]
  have e : (2 : Nat) ^ 64 - 1 - b = 18446744073709551615 - b := rfl
  rw [e]
  omega

theorem and_pow (n k : Nat) : n &&& 2 ^ k = n / 2 ^ k % 2 * 2 ^ k := by
  apply Nat.eq_of_testBit_eq
  intro i
  rw [Nat.testBit_and, Nat.testBit_two_pow]
  rcases Nat.mod_two_eq_zero_or_one (n / 2 ^ k) with h | h
  · rw [h, Nat.zero_mul, Nat.zero_testBit]
    by_cases hi : k = i
    · subst hi; rw [Nat.testBit_eq_decide_div_mod_eq, h]; rfl
    · simp [hi]
  · rw [h, Nat.one_mul, Nat.testBit_two_pow]
    by_cases hi : k = i
    · subst hi; rw [Nat.testBit_eq_decide_div_mod_eq, h]; rfl
    · simp [hi]

theorem or_pow (n k : Nat) (h : n / 2 ^ k % 2 = 0) : n ||| 2 ^ k = n + 2 ^ k := by
  have hd : n = 2 ^ k * (2 * (n / 2 ^ k / 2)) + n % 2 ^ k := by
    have := Nat.div_add_mod n (2 ^ k)
    have h2 := Nat.div_add_mod (n / 2 ^ k) 2
    rw [h, Nat.add_zero] at h2
    rw [h2]; omega
  have hm : n % 2 ^ k < 2 ^ k := Nat.mod_lt _ (Nat.two_pow_pos k)
  generalize n / 2 ^ k / 2 = q at hd
  generalize n % 2 ^ k = r at hd hm
  subst hd
  have e1 : 2 ^ k * (2 * q) + r + 2 ^ k = 2 ^ k * (2 * q + 1) + r := by rw [Nat.mul_add, Nat.mul_one]; omega
  rw [e1]
  apply Nat.eq_of_testBit_eq
  intro i
  rw [Nat.testBit_or, Nat.testBit_two_pow_mul_add _ hm, Nat.testBit_two_pow_mul_add _ hm, Nat.testBit_two_pow]
  by_cases hi : i < k
  · simp [hi]; intro e; omega
  · simp only [hi, if_false]
    rcases Nat.lt_or_eq_of_le (Nat.le_of_not_lt hi) with hlt | rfl
    · obtain ⟨j, rfl⟩ : ∃ j, i = k + j + 1 := ⟨i - k - 1, by omega⟩
      have e2 : k + j + 1 - k = j + 1 := by omega
      rw [e2, Nat.testBit_succ, Nat.testBit_succ]
      have e3 : 2 * q / 2 = q := by omega
      have e4 : (2 * q + 1) / 2 = q := by omega
      have e5 : ¬ k = k + j + 1 := by omega
      simp [e3, e4, e5]
    · simp

theorem xor_pow (n k : Nat) : n ^^^ 2 ^ k = if n / 2 ^ k % 2 = 0 then n + 2 ^ k else n - 2 ^ k := by
  by_cases h : n / 2 ^ k % 2 = 0
  · rw [if_pos h, ← or_pow n k h]
    apply Nat.eq_of_testBit_eq
    intro i
    rw [Nat.testBit_or, Nat.testBit_xor, Nat.testBit_two_pow]
    by_cases hi : k = i
    · subst hi; rw [Nat.testBit_eq_decide_div_mod_eq]; simp [h]
    · simp [hi]
  · rw [if_neg h]
    have hle : 2 ^ k ≤ n := by
      apply Nat.le_of_not_lt; intro hlt; rw [Nat.div_eq_of_lt hlt] at h; exact h rfl
    obtain ⟨m, rfl⟩ : ∃ m, n = m + 2 ^ k := ⟨n - 2 ^ k, by omega⟩
    have hm : m / 2 ^ k % 2 = 0 := by
      rw [Nat.add_div_right _ (Nat.two_pow_pos k)] at h; omega
    have e : m + 2 ^ k - 2 ^ k = m := by omega
    rw [e, ← or_pow m k hm]
    apply Nat.eq_of_testBit_eq
    intro i
    rw [Nat.testBit_xor, Nat.testBit_or, Nat.testBit_two_pow]
    by_cases hi : k = i
    · subst hi; rw [Nat.testBit_eq_decide_div_mod_eq]; simp [hm]
    · simp [hi]

/-! What the code's digits come to, over Int. -/

def one (b : Bool) : Int := if b then 1 else 0

/-- An entry's bits. -/
def packV (a u g : Bool) (f : Int) : Int := 1 + 2 * one a + 4 * one u + 256 * one g + 4096 * f

theorem int_or_pow (x : Int) (k : Nat) (K : Int) (hK : K = ((2 ^ k : Nat) : Int)) (hk : k < 64) (h0 : 0 ≤ x) (h1 : x < 18446744073709551616) (h : x / K % 2 = 0) :
    bits .or .u64 x K = x + K := by
  obtain ⟨n, rfl⟩ := Int.eq_ofNat_of_zero_le h0
  subst hK
  have hp : 2 ^ k < 18446744073709551616 := Nat.pow_lt_pow_right (a := 2) (by decide) (n := 64) hk
  rw [bits_or_u64_nat _ _ (by omega) hp, or_pow _ _ (by exact_mod_cast h)]
  exact Int.natCast_add _ _

theorem int_and_pow (x : Int) (k : Nat) (K : Int) (hK : K = ((2 ^ k : Nat) : Int)) (hk : k < 64) (h0 : 0 ≤ x) (h1 : x < 18446744073709551616) :
    bits .and .u64 x K = x / K % 2 * K := by
  obtain ⟨n, rfl⟩ := Int.eq_ofNat_of_zero_le h0
  subst hK
  have hp : 2 ^ k < 18446744073709551616 := Nat.pow_lt_pow_right (a := 2) (by decide) (n := 64) hk
  rw [bits_and_u64_nat _ _ (by omega) hp, and_pow]
  simp

theorem int_xor_pow (x : Int) (k : Nat) (K : Int) (hK : K = ((2 ^ k : Nat) : Int)) (hk : k < 64) (h0 : 0 ≤ x) (h1 : x < 18446744073709551616) :
    bits .xor .u64 x K = if x / K % 2 = 0 then x + K else x - K := by
  obtain ⟨n, rfl⟩ := Int.eq_ofNat_of_zero_le h0
  subst hK
  have hp : 2 ^ k < 18446744073709551616 := Nat.pow_lt_pow_right (a := 2) (by decide) (n := 64) hk
  rw [bits_xor_u64_nat _ _ (by omega) hp, xor_pow]
  have e : ((n : Int) / ((2 ^ k : Nat) : Int) % 2 = 0) ↔ (n / 2 ^ k % 2 = 0) := by
    rw [← Int.natCast_ediv]; omega
  by_cases h : n / 2 ^ k % 2 = 0
  · rw [if_pos h, if_pos (e.2 h)]; exact Int.natCast_add _ _
  · have hle : 2 ^ k ≤ n := by
      apply Nat.le_of_not_lt; intro hlt; rw [Nat.div_eq_of_lt hlt] at h; exact h rfl
    rw [if_neg h, if_neg (fun q => h (e.1 q))]; omega

/-- The lowest 40 digits. -/
theorem int_mask40 (x : Int) (h0 : 0 ≤ x) (h1 : x < 18446744073709551616) : bits .and .u64 x 1099511627775 = x % 1099511627776 := by
  obtain ⟨n, rfl⟩ := Int.eq_ofNat_of_zero_le h0
  have e := bits_and_u64_nat n 1099511627775 (by omega) (by omega)
  have e2 : n &&& 1099511627775 = n % 1099511627776 := Nat.and_two_pow_sub_one_eq_mod n 40
  rw [e2] at e
  simpa using e

/-- 40 digits, each turned. -/
theorem nat_turn40 (n : Nat) (h : n < 1099511627776) : n ^^^ 1099511627775 = 1099511627775 - n := by
  have e : (BitVec.ofNat 40 n ^^^ BitVec.allOnes 40).toNat = 1099511627775 - n := by
    rw [BitVec.xor_allOnes, BitVec.toNat_not, BitVec.toNat_ofNat, Nat.mod_eq_of_lt h]
  rw [BitVec.toNat_xor, BitVec.toNat_ofNat, BitVec.toNat_allOnes, Nat.mod_eq_of_lt h] at e
  exact e

theorem int_turn40 (x : Int) (h0 : 0 ≤ x) (h1 : x < 1099511627776) : bits .xor .u64 x 1099511627775 = 1099511627775 - x := by
  obtain ⟨n, rfl⟩ := Int.eq_ofNat_of_zero_le h0
  have e := bits_xor_u64_nat n 1099511627775 (by omega) (by omega)
  rw [nat_turn40 n (by omega)] at e
  rw [show (1099511627775 : Int) = ((1099511627775 : Nat) : Int) from rfl, e]
  omega

theorem int_turn40_i64 (x : Int) (h0 : 0 ≤ x) (h1 : x < 1099511627776) : bits .xor .i64 x 1099511627775 = 1099511627775 - x := by
  obtain ⟨n, rfl⟩ := Int.eq_ofNat_of_zero_le h0
  have e1 : (BitVec.ofInt 64 (n : Int)).toNat = n := by
    rw [BitVec.ofInt_natCast, BitVec.toNat_ofNat]; exact Nat.mod_eq_of_lt (by omega)
  show IntKind.i64.wrap ((BitVec.ofInt 64 (n : Int) ^^^ BitVec.ofInt 64 1099511627775).toNat : Int) = _
  have e2 : (BitVec.ofInt 64 1099511627775).toNat = 1099511627775 := by decide
  rw [BitVec.toNat_xor, e1, e2, nat_turn40 n (by omega), IntKind.wrap_i64]
  omega

end Go.Proofs.Ytoododpeoffieaa

/-
  Facts on numbers: what one turned digit makes of packed bits.
-/
import Derived.Test.YtcnoobdihnlnkaaFacts
namespace Go.Proofs.Ytcnoobdihnlnkaa
open Go.ChangeShapes Go.WideShapes Go.ChangeAt Go.RowKit

theorem bits_xor_i64_nat (a b : Nat) (ha : a < 9223372036854775808) (hb : b < 9223372036854775808) :
    bits .xor .i64 (a : Int) (b : Int) = ((a ^^^ b : Nat) : Int) := by
  have hx : a ^^^ b < 2 ^ 63 := Nat.xor_lt_two_pow (by omega) (by omega)
  have h1 : (BitVec.ofInt 64 (a : Int)).toNat = a := by
    rw [BitVec.ofInt_natCast, BitVec.toNat_ofNat]; exact Nat.mod_eq_of_lt (by omega)
  have h2 : (BitVec.ofInt 64 (b : Int)).toNat = b := by
    rw [BitVec.ofInt_natCast, BitVec.toNat_ofNat]; exact Nat.mod_eq_of_lt (by omega)
  show IntKind.i64.wrap ((BitVec.ofInt 64 (a : Int) ^^^ BitVec.ofInt 64 (b : Int)).toNat : Int) = _
  rw [BitVec.toNat_xor, h1, h2, IntKind.wrap_i64]
  omega

theorem pow_lt (t : Nat) (ht : t < 64) : 2 ^ t < 18446744073709551616 := Nat.pow_lt_pow_right (a := 2) (by decide) (n := 64) ht

/-- The walk's way to say the digit's weight. -/
theorem weight (v : Int) (h0 : 0 ≤ v) (h1 : v < 64) : IntKind.u64.wrap (2 ^ v.toNat) = ((2 ^ v.toNat : Nat) : Int) := by
  have := pow_lt v.toNat (by omega)
  have e : (2 : Int) ^ v.toNat = ((2 ^ v.toNat : Nat) : Int) := by simp
  rw [e, IntKind.wrap_u64]; generalize 2 ^ v.toNat = p at *; omega

theorem nat_bad (x t : Nat) (h : x &&& 18442240474082184952 = 0) (ht : Nat.testBit 18442240474082184952 t = true) : ¬ (x ^^^ 2 ^ t) &&& 18442240474082184952 = 0 := by
  intro hz
  have h1 := congrArg (fun n => Nat.testBit n t) h
  have h2 := congrArg (fun n => Nat.testBit n t) hz
  simp only [Nat.testBit_and, Nat.testBit_xor, Nat.testBit_two_pow, ht, Nat.zero_testBit, Bool.and_true] at h1 h2
  rw [h1] at h2
  simp at h2

theorem known_digit (t : Nat) (h1 : t < 64) (h : t ≠ 0 ∧ t ≠ 1 ∧ t ≠ 2 ∧ t ≠ 8 ∧ ¬ (12 ≤ t ∧ t < 52)) : Nat.testBit 18442240474082184952 t = true := by
  have key : ∀ t : Fin 64, (t.1 ≠ 0 ∧ t.1 ≠ 1 ∧ t.1 ≠ 2 ∧ t.1 ≠ 8 ∧ ¬ (12 ≤ t.1 ∧ t.1 < 52)) → Nat.testBit 18442240474082184952 t.1 = true := by decide
  exact key ⟨t, h1⟩ h

/-- The bits with a digit turned, as Nat. -/
theorem turn_nat (a u g : Bool) (f : Int) (h1 : 0 ≤ f) (h2 : f < 1099511627776) (v : Int) (h3 : 0 ≤ v) (h4 : v < 64) :
    ∃ x : Nat, packV a u g f = (x : Int) ∧ x < 4503599627370496 ∧ bits .xor .u64 (packV a u g f) (IntKind.u64.wrap (2 ^ v.toNat)) = ((x ^^^ 2 ^ v.toNat : Nat) : Int) ∧ x ^^^ 2 ^ v.toNat < 18446744073709551616 := by
  have hb := packV_bd a u g f h1 h2
  obtain ⟨x, hx⟩ := Int.eq_ofNat_of_zero_le hb.1
  have hp := pow_lt v.toNat (by omega)
  refine ⟨x, hx, by omega, ?_, Nat.xor_lt_two_pow (n := 64) (by omega) hp⟩
  rw [weight v h3 h4, hx, bits_xor_u64_nat _ _ (by omega) hp]

theorem odd_turned (x t : Nat) (h : x % 2 = 1) (ht : 1 ≤ t) : (x ^^^ 2 ^ t) % 2 = 1 := by
  have e := @Nat.xor_mod_two_pow x (2 ^ t) 1
  obtain ⟨s, rfl⟩ : ∃ s, t = s + 1 := ⟨t - 1, by omega⟩
  rw [Nat.pow_one, h, Nat.pow_succ, Nat.mul_mod_left] at e
  rw [Nat.pow_succ]; exact e

theorem even_turned (x : Nat) (h : x % 2 = 1) : (x ^^^ 2 ^ 0) % 2 = 0 := by
  have e := @Nat.xor_mod_two_pow x (2 ^ 0) 1
  rw [Nat.pow_one, h] at e
  exact e

theorem turn_none (a u g : Bool) (f : Int) (h1 : 0 ≤ f) (h2 : f < 1099511627776) (v : Int) (w : World) (hv : v = 0) :
    Calls Try.prog 10 #[.int .u64 (bits .xor .u64 (packV a u g f) (IntKind.u64.wrap (2 ^ v.toNat)))] w fun e w' => e = .returned (.tuple #[.agg #[.bool false, .bool false, .bool false, .bool false, .int .i64 0], .int .i64 3]) ∧ w' = w.alloc (.cells #[.bool false, .bool false, .bool false, .bool false, .int .i64 0] 23) := by
  obtain ⟨x, hx, hlt, hz, hzl⟩ := turn_nat a u g f h1 h2 v (by omega) (by omega)
  have ho := odd_pack a u g f
  rw [hz]
  subst hv
  have he := even_turned x (by omega)
  exact unpack_none _ w (by omega) (by omega) (by simp only [Int.toNat_zero] at *; omega)

theorem turn_form (a u g : Bool) (f : Int) (h1 : 0 ≤ f) (h2 : f < 1099511627776) (v : Int) (w : World) (h3 : 0 ≤ v) (h4 : v < 64) (hv : v ≠ 0 ∧ v ≠ 1 ∧ v ≠ 2 ∧ v ≠ 8 ∧ ¬ (12 ≤ v ∧ v < 52)) :
    Calls Try.prog 10 #[.int .u64 (bits .xor .u64 (packV a u g f) (IntKind.u64.wrap (2 ^ v.toNat)))] w fun e w' => e = .returned (.tuple #[.agg #[.bool false, .bool false, .bool false, .bool false, .int .i64 0], .int .i64 2]) ∧ w' = w.alloc (.cells #[.bool false, .bool false, .bool false, .bool false, .int .i64 0] 23) := by
  obtain ⟨x, hx, hlt, hz, hzl⟩ := turn_nat a u g f h1 h2 v h3 h4
  have ho := odd_pack a u g f
  have hk := okX_pack a u g f h1 h2
  rw [hx, okX_nat _ (by omega)] at hk
  rw [hz]
  have hodd := odd_turned x v.toNat (by omega) (by omega)
  refine unpack_form _ w (by omega) (by omega) (by omega) ?_
  rw [okX_nat _ hzl]
  exact beq_eq_false_iff_ne.2 (nat_bad x v.toNat (by simpa using hk) (known_digit v.toNat (by omega) (by omega)))

theorem turn_write (a u g : Bool) (f : Int) (h1 : 0 ≤ f) (h2 : f < 1099511627776) (v : Int) (hv : v = 1) : bits .xor .u64 (packV a u g f) (IntKind.u64.wrap (2 ^ v.toNat)) = packV (!a) u g f := by
  subst hv
  have hb := packV_bd a u g f h1 h2
  rw [show IntKind.u64.wrap (2 ^ (1 : Int).toNat) = 2 from rfl, int_xor_pow _ 1 2 rfl (by omega) hb.1 (by omega)]
  have := one_01 u; have := one_01 g
  unfold packV
  cases a <;> simp only [one, Bool.not_true, Bool.not_false, if_true, if_false, Bool.false_eq_true] <;> split <;> omega

theorem turn_user (a u g : Bool) (f : Int) (h1 : 0 ≤ f) (h2 : f < 1099511627776) (v : Int) (hv : v = 2) : bits .xor .u64 (packV a u g f) (IntKind.u64.wrap (2 ^ v.toNat)) = packV a (!u) g f := by
  subst hv
  have hb := packV_bd a u g f h1 h2
  rw [show IntKind.u64.wrap (2 ^ (2 : Int).toNat) = 4 from rfl, int_xor_pow _ 2 4 rfl (by omega) hb.1 (by omega)]
  have := one_01 a; have := one_01 g
  unfold packV
  cases u <;> simp only [one, Bool.not_true, Bool.not_false, if_true, if_false, Bool.false_eq_true] <;> split <;> omega

theorem turn_global (a u g : Bool) (f : Int) (h1 : 0 ≤ f) (h2 : f < 1099511627776) (v : Int) (hv : v = 8) : bits .xor .u64 (packV a u g f) (IntKind.u64.wrap (2 ^ v.toNat)) = packV a u (!g) f := by
  subst hv
  have hb := packV_bd a u g f h1 h2
  rw [show IntKind.u64.wrap (2 ^ (8 : Int).toNat) = 256 from rfl, int_xor_pow _ 8 256 rfl (by omega) hb.1 (by omega)]
  have := one_01 a; have := one_01 u
  unfold packV
  cases g <;> simp only [one, Bool.not_true, Bool.not_false, if_true, if_false, Bool.false_eq_true] <;> split <;> omega

theorem turn_frame (a u g : Bool) (f : Int) (h1 : 0 ≤ f) (h2 : f < 1099511627776) (v : Int) (h3 : 12 ≤ v) (h4 : v < 52) :
    bits .xor .u64 (packV a u g f) (IntKind.u64.wrap (2 ^ v.toNat)) = packV a u g (bits .xor .i64 f (wrap64 (2 ^ (v - 12).toNat))) ∧
    0 ≤ bits .xor .i64 f (wrap64 (2 ^ (v - 12).toNat)) ∧ bits .xor .i64 f (wrap64 (2 ^ (v - 12).toNat)) < 1099511627776 := by
  obtain ⟨x, hx, hlt, hz, hzl⟩ := turn_nat a u g f h1 h2 v (by omega) (by omega)
  obtain ⟨n, rfl⟩ := Int.eq_ofNat_of_zero_le h1
  obtain ⟨d, hd⟩ : ∃ d : Nat, (v - 12).toNat = d := ⟨_, rfl⟩
  have hv : v.toNat = d + 12 := by omega
  have hd40 : d < 40 := by omega
  have hp : 2 ^ d < 1099511627776 := Nat.pow_lt_pow_right (a := 2) (by decide) (n := 40) hd40
  have e1 : wrap64 (2 ^ (v - 12).toNat) = ((2 ^ d : Nat) : Int) := by
    rw [hd, show (2 : Int) ^ d = ((2 ^ d : Nat) : Int) by simp]
    generalize 2 ^ d = p at *
    unfold wrap64; omega
  have e2 : bits .xor .i64 (n : Int) (wrap64 (2 ^ (v - 12).toNat)) = ((n ^^^ 2 ^ d : Nat) : Int) := by
    rw [e1]; exact bits_xor_i64_nat n (2 ^ d) (Nat.lt_trans (Int.ofNat_lt.1 h2) (by decide)) (Nat.lt_trans hp (by decide))
  have hxl : n ^^^ 2 ^ d < 1099511627776 := Nat.xor_lt_two_pow (n := 40) (by omega) hp
  rw [e2, hz, hv]
  refine ⟨?_, by omega, by omega⟩
  have hdiv : (x ^^^ 2 ^ (d + 12)) / 2 ^ 12 = n ^^^ 2 ^ d := by
    rw [Nat.xor_div_two_pow, Nat.pow_add, Nat.mul_div_cancel _ (by decide)]
    have : x / 2 ^ 12 = n := by
      have := one_01 a; have := one_01 u; have := one_01 g; unfold packV at hx; omega
    rw [this]
  have hmod : (x ^^^ 2 ^ (d + 12)) % 2 ^ 12 = x % 2 ^ 12 := by
    rw [Nat.xor_mod_two_pow, Nat.pow_add, Nat.mul_mod_left, Nat.xor_zero]
  generalize x ^^^ 2 ^ (d + 12) = z at *
  generalize n ^^^ 2 ^ d = m at *
  have := one_01 a; have := one_01 u; have := one_01 g
  unfold packV at *
  omega

theorem turn_is (a u g : Bool) (f : Int) (v : Int) (w : World) (a' u' g' : Bool) (f' : Int) (h1' : 0 ≤ f') (h2' : f' < 1099511627776)
    (hz : bits .xor .u64 (packV a u g f) (IntKind.u64.wrap (2 ^ v.toNat)) = packV a' u' g' f') :
    Calls Try.prog 10 #[.int .u64 (bits .xor .u64 (packV a u g f) (IntKind.u64.wrap (2 ^ v.toNat)))] w fun e w' => e = .returned (.tuple #[.agg #[.bool true, .bool a', .bool u', .bool g', .int .i64 f'], .int .i64 0]) ∧ w' = w.alloc (.cells #[.bool true, .bool a', .bool u', .bool g', .int .i64 f'] 23) := by
  rw [hz]; exact unpack_pack a' u' g' f' w h1' h2'

end Go.Proofs.Ytcnoobdihnlnkaa

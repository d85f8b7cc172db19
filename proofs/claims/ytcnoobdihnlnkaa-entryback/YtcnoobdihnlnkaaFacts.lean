/-
  Facts on numbers: what packed bits unpack to; what absent bits tell.
-/
import Derived.Test.YtcnoobdihnlnkaaBaseB
namespace Go.Proofs.Ytcnoobdihnlnkaa
open Go.ChangeShapes Go.WideShapes Go.ChangeAt Go.RowKit

theorem one_01 (b : Bool) : one b = 0 ∨ one b = 1 := by cases b <;> simp [one]

theorem packV_bd (a u g : Bool) (f : Int) (h1 : 0 ≤ f) (h2 : f < 1099511627776) : 0 ≤ packV a u g f ∧ packV a u g f < 4503599627370496 := by
  have := one_01 a; have := one_01 u; have := one_01 g
  unfold packV; omega

/-- The digits that must be 0, of low digits c and a frame f. -/
theorem nat_known (f c : Nat) (hf : f < 1099511627776) (hc : c < 4096) : (4096 * f + c) &&& 18442240474082184952 = c &&& 3832 := by
  have hm : ((4096 * f + c) &&& 18442240474082184952) % 2 ^ 12 = c &&& 3832 := by
    rw [Nat.and_mod_two_pow]
    have e1 : (4096 * f + c) % 2 ^ 12 = c := by omega
    rw [e1]
  have hd : ((4096 * f + c) &&& 18442240474082184952) / 2 ^ 12 = 0 := by
    rw [Nat.and_div_two_pow]
    have e1 : (4096 * f + c) / 2 ^ 12 = f := by omega
    rw [e1]
    have e2 : (f &&& 18442240474082184952 / 2 ^ 12) % 2 ^ 40 = 0 := by
      rw [Nat.and_mod_two_pow, show 18442240474082184952 / 2 ^ 12 % 2 ^ 40 = 0 by decide, Nat.and_zero]
    have e3 : (f &&& 18442240474082184952 / 2 ^ 12) / 2 ^ 40 = 0 := by
      rw [Nat.and_div_two_pow, Nat.div_eq_of_lt (by omega), Nat.zero_and]
    omega
  have hle : c &&& 3832 < 4096 := Nat.lt_of_le_of_lt Nat.and_le_left hc
  omega

theorem okX_nat (n : Nat) (h : n < 18446744073709551616) : okX (n : Int) = ((n &&& 18442240474082184952) == 0) := by
  unfold okX
  have e := bits_andNot_u64_nat n 4503599627366663 h (by omega)
  rw [show (4503599627366663 : Int) = ((4503599627366663 : Nat) : Int) from rfl, e]
  rw [Bool.eq_iff_iff]; simp

theorem okX_pack (a u g : Bool) (f : Int) (h1 : 0 ≤ f) (h2 : f < 1099511627776) : okX (packV a u g f) = true := by
  obtain ⟨n, rfl⟩ := Int.eq_ofNat_of_zero_le h1
  obtain ⟨c, hc, he, hz⟩ : ∃ c : Nat, c < 4096 ∧ packV a u g n = ((4096 * n + c : Nat) : Int) ∧ c &&& 3832 = 0 := by
    cases a <;> cases u <;> cases g
    · exact ⟨1, by omega, by simp [packV, one]; omega, by decide⟩
    · exact ⟨257, by omega, by simp [packV, one]; omega, by decide⟩
    · exact ⟨5, by omega, by simp [packV, one]; omega, by decide⟩
    · exact ⟨261, by omega, by simp [packV, one]; omega, by decide⟩
    · exact ⟨3, by omega, by simp [packV, one]; omega, by decide⟩
    · exact ⟨259, by omega, by simp [packV, one]; omega, by decide⟩
    · exact ⟨7, by omega, by simp [packV, one]; omega, by decide⟩
    · exact ⟨263, by omega, by simp [packV, one]; omega, by decide⟩
  rw [he, okX_nat _ (by omega), nat_known _ _ (by omega) hc, hz]; rfl

theorem bitV_pack (a u g : Bool) (f : Int) : bitV (packV a u g f) 2 = a ∧ bitV (packV a u g f) 4 = u ∧ bitV (packV a u g f) 256 = g := by
  unfold bitV
  have ea : packV a u g f / 2 % 2 = one a := by
    have := one_01 a; have := one_01 u; have := one_01 g; unfold packV; omega
  have eu : packV a u g f / 4 % 2 = one u := by
    have := one_01 a; have := one_01 u; have := one_01 g; unfold packV; omega
  have eg : packV a u g f / 256 % 2 = one g := by
    have := one_01 a; have := one_01 u; have := one_01 g; unfold packV; omega
  rw [ea, eu, eg]
  refine ⟨?_, ?_, ?_⟩
  · cases a <;> rfl
  · cases u <;> rfl
  · cases g <;> rfl

theorem raw_pack (a u g : Bool) (f : Int) (h1 : 0 ≤ f) (h2 : f < 1099511627776) : packV a u g f / 4096 % 1099511627776 = f := by
  have := one_01 a; have := one_01 u; have := one_01 g; unfold packV; omega

theorem odd_pack (a u g : Bool) (f : Int) : packV a u g f % 2 = 1 := by
  have := one_01 a; have := one_01 u; have := one_01 g; unfold packV; omega

theorem unpack_pack (a u g : Bool) (f : Int) (w : World) (h1 : 0 ≤ f) (h2 : f < 1099511627776) :
    Calls Try.prog 10 #[.int .u64 (packV a u g f)] w fun e w' => e = .returned (.tuple #[.agg #[.bool true, .bool a, .bool u, .bool g, .int .i64 f], .int .i64 0]) ∧ w' = w.alloc (.cells #[.bool true, .bool a, .bool u, .bool g, .int .i64 f] 23) := by
  have hb := packV_bd a u g f h1 h2
  have c := unpack_ok (packV a u g f) w hb.1 (by omega) (odd_pack a u g f) (okX_pack a u g f h1 h2)
  rw [(bitV_pack a u g f).1, (bitV_pack a u g f).2.1, (bitV_pack a u g f).2.2, raw_pack a u g f h1 h2] at c
  exact c

theorem raw_pack_any (a u g : Bool) (f : Int) (w : World) (h1 : 0 ≤ f) (h2 : f < 1099511627776) :
    Calls Try.prog 14 #[.int .u64 (packV a u g f)] w fun e w' => e = .returned (.int .i64 f) ∧ w' = w := by
  have hb := packV_bd a u g f h1 h2
  have c := raw_any (packV a u g f) w hb.1 (by omega)
  rw [raw_pack a u g f h1 h2] at c
  exact c

theorem absV_bd (f : Int) (inv : Bool) : 0 ≤ absV f inv ∧ absV f inv < 4503599627370496 ∧ absV f inv % 4096 = 0 := by
  have := turnV_bd (f % 1099511627776) inv (by omega) (by omega)
  unfold absV; omega

theorem raw_abs (f : Int) (inv : Bool) : absV f inv / 4096 % 1099511627776 = turnV (f % 1099511627776) inv := by
  have := turnV_bd (f % 1099511627776) inv (by omega) (by omega)
  unfold absV; omega

theorem of_abs (f : Int) (inv : Bool) : ofV (absV f inv) inv = f % 1099511627776 := by
  unfold ofV
  rw [raw_abs]
  cases inv <;> simp [turnV]; omega

theorem unpack_abs (f : Int) (inv : Bool) (w : World) :
    Calls Try.prog 10 #[.int .u64 (absV f inv)] w fun e w' => e = .returned (.tuple #[.agg #[.bool false, .bool false, .bool false, .bool false, .int .i64 0], .int .i64 3]) ∧ w' = w.alloc (.cells #[.bool false, .bool false, .bool false, .bool false, .int .i64 0] 23) := by
  have hb := absV_bd f inv
  exact unpack_none _ w hb.1 (by omega) (by omega)

theorem rawabs_any (f : Int) (inv : Bool) (w : World) (h1 : 0 ≤ f) (h2 : f < 1099511627776) :
    Calls Try.prog 14 #[.int .u64 (absV f inv)] w fun e w' => e = .returned (.int .i64 (turnV f inv)) ∧ w' = w := by
  have hb := absV_bd f inv
  have c := raw_any (absV f inv) w hb.1 (by omega)
  rw [raw_abs, Int.emod_eq_of_lt h1 h2] at c
  exact c

theorem rawabs_plain (f : Int) (w : World) (h1 : 0 ≤ f) (h2 : f < 1099511627776) :
    Calls Try.prog 14 #[.int .u64 (absV f false)] w fun e w' => e = .returned (.int .i64 f) ∧ w' = w := rawabs_any f false w h1 h2

theorem rawabs_turned (f : Int) (w : World) (h1 : 0 ≤ f) (h2 : f < 1099511627776) :
    Calls Try.prog 14 #[.int .u64 (absV f true)] w fun e w' => e = .returned (.int .i64 (1099511627775 - f)) ∧ w' = w := rawabs_any f true w h1 h2

theorem ofabs_any (f : Int) (inv : Bool) (w : World) (h1 : 0 ≤ f) (h2 : f < 1099511627776) :
    Calls Try.prog 13 #[.int .u64 (absV f inv), .bool inv] w fun e w' => e = .returned (.int .i64 f) ∧ w' = w := by
  have hb := absV_bd f inv
  have c := of_any (absV f inv) inv w hb.1 (by omega)
  rw [of_abs, Int.emod_eq_of_lt h1 h2] at c
  exact c

theorem wakes_below (w : World) : Calls Try.prog 15 #[] w fun e w' => e = .returned (.bool true) ∧ Below w.heap.size w w' :=
  (wakes_any w).mono fun _ _ ⟨he, hw⟩ => ⟨he, hw ▸ (Below.refl _ _).alloc (Nat.le_refl _) _⟩

theorem packV_inj {a u g a' u' g' : Bool} {f f' : Int} (h : packV a u g f = packV a' u' g' f') : a = a' ∧ u = u' ∧ g = g' ∧ f = f' := by
  have b1 := bitV_pack a u g f
  have b2 := bitV_pack a' u' g' f'
  rw [h] at b1
  refine ⟨b1.1.symm.trans b2.1, b1.2.1.symm.trans b2.2.1, b1.2.2.symm.trans b2.2.2, ?_⟩
  have := one_01 a; have := one_01 u; have := one_01 g; have := one_01 a'; have := one_01 u'; have := one_01 g'
  unfold packV at h; omega

theorem absV_inj (f g : Int) (inv : Bool) (h1 : 0 ≤ f) (h2 : f < 1099511627776) (h3 : 0 ≤ g) (h4 : g < 1099511627776) : (absV f inv == absV g inv) = (f == g) := by
  rw [Bool.eq_iff_iff, beq_iff_eq, beq_iff_eq]
  unfold absV
  rw [Int.emod_eq_of_lt h1 h2, Int.emod_eq_of_lt h3 h4]
  cases inv
  · simp only [turnV, if_false, Bool.false_eq_true]; omega
  · simp only [turnV, if_true]; omega

theorem absV_ne_pack (f : Int) (inv a u g : Bool) (f' : Int) : (absV f inv != packV a u g f') = true := by
  have h1 := absV_bd f inv
  have h2 := odd_pack a u g f'
  rw [bne_iff_ne]; intro h; rw [h] at h1; omega

theorem absV_even (f : Int) (inv : Bool) : bits .and .u64 (absV f inv) 1 = 0 := by
  have h1 := absV_bd f inv
  rw [and_one _ h1.1 (by omega)]; omega

theorem absV_turned (f : Int) (h1 : 0 ≤ f) (h2 : f < 1099511627776) : bits .xor .u64 (absV f true) (absV f false) = 4503599627366400 := by
  obtain ⟨n, rfl⟩ := Int.eq_ofNat_of_zero_le h1
  have e1 : absV (n : Int) true = (((1099511627775 - n) * 4096 : Nat) : Int) := by
    unfold absV; rw [Int.emod_eq_of_lt h1 h2]; simp only [turnV, if_true]; omega
  have e2 : absV (n : Int) false = ((n * 4096 : Nat) : Int) := by
    unfold absV; rw [Int.emod_eq_of_lt h1 h2]; simp only [turnV, if_false, Bool.false_eq_true]; omega
  rw [e1, e2, bits_xor_u64_nat _ _ (by omega) (by omega)]
  have hd : (((1099511627775 - n) * 4096) ^^^ (n * 4096)) / 2 ^ 12 = 1099511627775 := by
    rw [Nat.xor_div_two_pow, show (1099511627775 - n) * 4096 / 2 ^ 12 = 1099511627775 - n by omega, show n * 4096 / 2 ^ 12 = n by omega, ← nat_turn40 n (by omega), Nat.xor_comm n, Nat.xor_assoc, Nat.xor_self, Nat.xor_zero]
  have hm : (((1099511627775 - n) * 4096) ^^^ (n * 4096)) % 2 ^ 12 = 0 := by
    rw [Nat.xor_mod_two_pow, show (1099511627775 - n) * 4096 % 2 ^ 12 = 0 by omega, show n * 4096 % 2 ^ 12 = 0 by omega]; rfl
  omega

theorem mask12 (x : Int) (h0 : 0 ≤ x) (h1 : x < 18446744073709551616) : bits .and .u64 x 4095 = x % 4096 := by
  obtain ⟨n, rfl⟩ := Int.eq_ofNat_of_zero_le h0
  have e := bits_and_u64_nat n 4095 (by omega) (by omega)
  have e2 : n &&& 4095 = n % 4096 := Nat.and_two_pow_sub_one_eq_mod n 12
  rw [e2] at e
  simpa using e

end Go.Proofs.Ytcnoobdihnlnkaa

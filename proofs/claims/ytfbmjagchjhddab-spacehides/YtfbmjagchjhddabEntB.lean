/-
  Facts on numbers: what packed bits unpack to.
-/
import Derived.Test.YtfbmjagchjhddabEntA
namespace Go.Proofs.Ytfbmjagchjhddab
open Go.ChangeShapes Go.WideShapes Go.ChangeAt Go.RowKit

theorem one_01 (b : Bool) : one b = 0 ∨ one b = 1 := by cases b <;> simp [one]

theorem packV_bd (a u g : Bool) (f : Int) (h1 : 0 ≤ f) (h2 : f < 1099511627776) : 0 ≤ packV a u g f ∧ packV a u g f < 4503599627370496 := by
  have := one_01 a; have := one_01 u; have := one_01 g
  unfold packV; omega

/-- The digits that must be 0, of low digits c and a frame f. -/
theorem nat_known (f c : Nat) (hf : f < 1099511627776) (hc : c < 4096) : (4096 * f + c) &&& 18442240474082184952 = c &&& 3832 := by
  have hm : ((4096 * f + c) &&& 18442240474082184952) % 2 ^ 12 = c &&& 3832 := by
    rw [Nat.and_mod_two_pow]
    have e1 : (4096 * f + c) % 2 ^ 12 = c := by omega
    rw [e1]
  have hd : ((4096 * f + c) &&& 18442240474082184952) / 2 ^ 12 = 0 := by
    rw [Nat.and_div_two_pow]
    have e1 : (4096 * f + c) / 2 ^ 12 = f := by omega
    rw [e1]
    have e2 : (f &&& 18442240474082184952 / 2 ^ 12) % 2 ^ 40 = 0 := by
      rw [Nat.and_mod_two_pow, show 18442240474082184952 / 2 ^ 12 % 2 ^ 40 = 0 by decide, Nat.and_zero]
    have e3 : (f &&& 18442240474082184952 / 2 ^ 12) / 2 ^ 40 = 0 := by
      rw [Nat.and_div_two_pow, Nat.div_eq_of_lt (by omega), Nat.zero_and]
    omega
  have hle : c &&& 3832 < 4096 := Nat.lt_of_le_of_lt Nat.and_le_left hc
  omega

theorem okX_nat (n : Nat) (h : n < 18446744073709551616) : okX (n : Int) = ((n &&& 18442240474082184952) == 0) := by
  unfold okX
  have e := bits_andNot_u64_nat n 4503599627366663 h (by omega)
  rw [show (4503599627366663 : Int) = ((4503599627366663 : Nat) : Int) from rfl, e]
  rw [Bool.eq_iff_iff]; simp

theorem okX_pack (a u g : Bool) (f : Int) (h1 : 0 ≤ f) (h2 : f < 1099511627776) : okX (packV a u g f) = true := by
  obtain ⟨n, rfl⟩ := Int.eq_ofNat_of_zero_le h1
  obtain ⟨c, hc, he, hz⟩ : ∃ c : Nat, c < 4096 ∧ packV a u g n = ((4096 * n + c : Nat) : Int) ∧ c &&& 3832 = 0 := by
    cases a <;> cases u <;> cases g
    · exact ⟨1, by omega, by simp [packV, one]; omega, by decide⟩
    · exact ⟨257, by omega, by simp [packV, one]; omega, by decide⟩
    · exact ⟨5, by omega, by simp [packV, one]; omega, by decide⟩
    · exact ⟨261, by omega, by simp [packV, one]; omega, by decide⟩
    · exact ⟨3, by omega, by simp [packV, one]; omega, by decide⟩
    · exact ⟨259, by omega, by simp [packV, one]; omega, by decide⟩
    · exact ⟨7, by omega, by simp [packV, one]; omega, by decide⟩
    · exact ⟨263, by omega, by simp [packV, one]; omega, by decide⟩
  rw [he, okX_nat _ (by omega), nat_known _ _ (by omega) hc, hz]; rfl

theorem bitV_pack (a u g : Bool) (f : Int) : bitV (packV a u g f) 2 = a ∧ bitV (packV a u g f) 4 = u ∧ bitV (packV a u g f) 256 = g := by
  unfold bitV
  have ea : packV a u g f / 2 % 2 = one a := by
    have := one_01 a; have := one_01 u; have := one_01 g; unfold packV; omega
  have eu : packV a u g f / 4 % 2 = one u := by
    have := one_01 a; have := one_01 u; have := one_01 g; unfold packV; omega
  have eg : packV a u g f / 256 % 2 = one g := by
    have := one_01 a; have := one_01 u; have := one_01 g; unfold packV; omega
  rw [ea, eu, eg]
  refine ⟨?_, ?_, ?_⟩
  · cases a <;> rfl
  · cases u <;> rfl
  · cases g <;> rfl

theorem raw_pack (a u g : Bool) (f : Int) (h1 : 0 ≤ f) (h2 : f < 1099511627776) : packV a u g f / 4096 % 1099511627776 = f := by
  have := one_01 a; have := one_01 u; have := one_01 g; unfold packV; omega

theorem odd_pack (a u g : Bool) (f : Int) : packV a u g f % 2 = 1 := by
  have := one_01 a; have := one_01 u; have := one_01 g; unfold packV; omega
/-- A packed entry, read. -/
theorem un_pack (a u g : Bool) (f : Int) (h1 : 0 ≤ f) (h2 : f < 1099511627776) : unN (packV a u g f) = 0 ∧ unF (packV a u g f) = f ∧ unB (packV a u g f) 2 = a ∧ unB (packV a u g f) 4 = u ∧ unB (packV a u g f) 256 = g := by
  have h0 : unN (packV a u g f) = 0 := by unfold unN; rw [if_neg (by rw [odd_pack]; decide), if_pos (okX_pack a u g f h1 h2)]
  obtain ⟨b1, b2, b3⟩ := bitV_pack a u g f
  refine ⟨h0, ?_, ?_, ?_, ?_⟩
  · unfold unF; rw [if_pos h0]; exact raw_pack a u g f h1 h2
  · unfold unB; rw [h0, b1]; rfl
  · unfold unB; rw [h0, b2]; rfl
  · unfold unB; rw [h0, b3]; rfl
end Go.Proofs.Ytfbmjagchjhddab

/-
  Small facts on instructions and their texts.
-/
import Derived.Test.YtpnegpcnmmaclaaDoorInsnU
import Derived.Test.YtpnegpcnmmaclaaDoorInsnZ
import Derived.Test.YtpnegpcnmmaclaaDoorInsnN
import Derived.Laws.RangeString
namespace Go.Proofs.YtpnegpcnmmaclaaDoor
open Go.ChangeShapes Go.WideShapes Go.ChangeAt Go.RowKit

theorem play0_ok (op a b n how : Int) (h : how % 40 = 0) : okP (playP op a b n how) = true := by
  have e : playP op a b n how = play0 op a b n := by
    unfold playP; rw [h]; rfl
  rw [e]
  have o0 := Int.emod_nonneg op (b := 7) (by omega)
  have o1 := Int.emod_lt_of_pos op (b := 7) (by omega)
  have a0 := Int.emod_nonneg a (b := 8) (by omega)
  have a1 := Int.emod_lt_of_pos a (b := 8) (by omega)
  have b0 := Int.emod_nonneg b (b := 8) (by omega)
  have b1 := Int.emod_lt_of_pos b (b := 8) (by omega)
  rcases (by omega : op % 7 = 0 ∨ op % 7 = 1 ∨ op % 7 = 2 ∨ op % 7 = 3 ∨ op % 7 = 4 ∨ op % 7 = 5 ∨ op % 7 = 6) with h | h | h | h | h | h | h <;> simp [play0, h, okP, fitP, shape] <;> omega

theorem byte_at (l : List UInt8) (k : Nat) (c : UInt8) (h : l[k]? = some c) : ∀ hk, (⟨l.toArray⟩ : ByteArray)[k]'hk = c := fun h' => by
  obtain ⟨h1, h2⟩ := List.getElem?_eq_some_iff.1 h
  simp [ByteArray.getElem_eq_getElem_data, h2]
theorem pr_len (x : Ins) (hk : okP x = true) : (prP x).length ≤ 1000 := by
  obtain ⟨op, a, b, n⟩ := x
  have h17 : 1 ≤ op ∧ op ≤ 7 := by simp [okP] at hk; omega
  have la := dig_len a
  have lb := dig_len b
  have ln := dig_len n
  rcases seven h17.1 h17.2 with rfl | rfl | rfl | rfl | rfl | rfl | rfl
  · simp [prP, shape, regP, numP]; omega
  · simp [prP, shape, regP, numP]; omega
  · simp [prP, shape, regP, numP]; omega
  · simp [prP, shape, regP, numP]; omega
  · simp [prP, shape, regP, numP]; omega
  · simp [prP, shape, regP, numP]; omega
  · have : (callN n).length ≤ 10 := by unfold callN; repeat (first | split | simp)
    simp [prP, shape, regP, numP]; omega
end Go.Proofs.YtpnegpcnmmaclaaDoor

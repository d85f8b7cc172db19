/-
  A process's tables: the first space of a memory of 64 frames (plain).
-/
import Derived.Test.YtaofkedcdeocjaaSpN
namespace Go.Proofs.Ytaofkedcdeocjaa
open Go.ChangeShapes Go.WideShapes Go.ChangeAt Go.RowKit

/-- The memory of 64 frames, booted, and its first space. -/
abbrev y64 (k : Bool) : YS := YS.new 0 k (fun _ => 0) (MS.up 64 k)
theorem y64_S (k : Bool) : (y64 k).S = ⟨0, 15, if k = true then 16 else 15, fun _ => 0, fun _ => 0⟩ := by cases k <;> kernel_rfl
theorem y64_left (k : Bool) : (y64 k).s.left = (if k = true then 47 else 48) := by cases k <;> decide +kernel
theorem up64_left (k : Bool) : (if k = true then 2 else 1) ≤ (MS.up 64 k).left := by cases k <;> decide +kernel
theorem y64_n (k : Bool) : (y64 k).s.n = 64 := by cases k <;> decide +kernel
theorem y64_inv (k : Bool) : YInv (y64 k) := by
  have hS := y64_S k
  have hn := y64_n k
  have hn' : (((y64 k).s.n : Nat) : Int) = 64 := by rw [hn]; rfl
  have hC : ∀ f < 64, 15 ≤ f → (y64 k).s.C f = 0 → ∀ o < 8, (y64 k).s.W (f * 8 + o) = 0 := by cases k <;> decide +kernel
  have h15 : (y64 k).s.C 15 ≠ 0 := by cases k <;> decide +kernel
  have h16 : k = true → (y64 k).s.C 16 ≠ 0 := by cases k <;> decide +kernel
  refine ⟨by rw [hn]; decide, ?_, ?_, fun i => Or.inl (by rw [hS]), fun i => Or.inl (by rw [hS]), fun i j h => absurd (by rw [hS]) h, fun i j h => absurd (by rw [hS]) h, fun i j h => absurd (by rw [hS]) h, fun i => ?_, fun i => ?_, fun j h => absurd (by rw [hS]) h, fun f f0 f1 c o ho => hC f (by rw [hn] at f1; exact f1) f0 c o ho⟩
  · unfold MS.had; rw [hn', show (y64 k).S.kern = 15 by rw [hS]]; exact ⟨by decide, by decide, h15⟩
  · unfold MS.had
    cases k with
    | true => rw [hn', show (y64 true).S.user = 16 by rw [hS]; rfl]; exact ⟨by decide, by decide, by rw [show (16 : Int).toNat = 16 from rfl]; exact h16 (by rfl)⟩
    | false => rw [hn', show (y64 false).S.user = 15 by rw [hS]; rfl]; exact ⟨by decide, by decide, by rw [show (15 : Int).toNat = 15 from rfl]; exact h15⟩
  · rw [hS]; cases k <;> (constructor <;> (simp))
  · rw [hS]; cases k <;> (constructor <;> (simp))
end Go.Proofs.Ytaofkedcdeocjaa

/-
  The document's own answers on instructions, first part: Digits, fields, in.
-/
import Derived.Test.YtpnegpcnmmaclaaDoorInsnR
import Derived.Deep.RegionWith
namespace Go.Proofs.YtpnegpcnmmaclaaDoor
open Go.ChangeShapes Go.WideShapes Go.ChangeAt Go.RowKit

theorem digits_small (n : Nat) (h : n < 10) (w : World) :
    Calls Tryd.prog 36 #[.int .i64 n] w fun e w' => e = .returned (.string ⟨#[UInt8.ofNat (48 + n)]⟩) ∧ w = w' := by
  rcases (by omega : n = 0 ∨ n = 1 ∨ n = 2 ∨ n = 3 ∨ n = 4 ∨ n = 5 ∨ n = 6 ∨ n = 7 ∨ n = 8 ∨ n = 9) with rfl | rfl | rfl | rfl | rfl | rfl | rfl | rfl | rfl | rfl
  all_goals
    go_enter Tryd.func36, Tryd.ntmps36
    go_wp2
    go_ret
    exact ⟨by kernel_rfl, rfl⟩

theorem slice_from : ∀ d : Nat, d < 10 → ∀ wx : World, (Instr.slice 9 (.string ⟨#[48, 49, 50, 51, 52, 53, 54, 55, 56, 57]⟩) (some (.int .i64 d)) none none).run Tryd.prog wx = .ok (.string ((⟨#[48, 49, 50, 51, 52, 53, 54, 55, 56, 57]⟩ : ByteArray).extract d 10)) wx
  | 0, _, _ | 1, _, _ | 2, _, _ | 3, _, _ | 4, _, _ | 5, _, _ | 6, _, _ | 7, _, _ | 8, _, _ | 9, _, _ => by kernel_rfl
  | n + 10, h, _ => by omega
theorem slice_one : ∀ d : Nat, d < 10 → ∀ wx : World, (Instr.slice 9 (.string ((⟨#[48, 49, 50, 51, 52, 53, 54, 55, 56, 57]⟩ : ByteArray).extract d 10)) none (some (.int .i64 1)) none).run Tryd.prog wx = .ok (.string ⟨#[UInt8.ofNat (48 + d)]⟩) wx
  | 0, _, _ | 1, _, _ | 2, _, _ | 3, _, _ | 4, _, _ | 5, _, _ | 6, _, _ | 7, _, _ | 8, _, _ | 9, _, _ => by kernel_rfl
  | n + 10, h, _ => by omega

theorem ret_s {a : ByteArray} {l : List UInt8} (h : a.data.toList = l) : Ending.returned (.string a) = .returned (.string ⟨l.toArray⟩) := by
  subst h; rw [mk_toList]
theorem digF_len (f k : Nat) : (digF f k).length ≤ f + 1 := by
  induction f generalizing k with
  | zero => simp [digF]
  | succ f ih => unfold digF; split
                 · simp
                 · have := ih (k / 10); simp; omega
set_option maxHeartbeats 1000000 in
theorem digits_any : ∀ (f n : Nat), f ≤ 20 → n < 10 ^ (f + 1) → n ≤ 1000000 → ∀ w : World,
    Calls Tryd.prog 36 #[.int .i64 n] w fun e w' => e = .returned (.string ⟨(digF f n).toArray⟩) ∧ Below w.heap.size w w'
  | 0, n, _, h, _, w => by
    have h' : n < 10 := by simpa using h
    refine (digits_small n h' w).mono ?_
    rintro e wx ⟨rfl, rfl⟩
    exact ⟨by rw [digF, Nat.mod_eq_of_lt h'], Below.refl _ _⟩
  | f + 1, n, hf, h, hn, w => by
    by_cases h' : n < 10
    · refine (digits_small n h' w).mono ?_
      rintro e wx ⟨rfl, rfl⟩
      exact ⟨by rw [digF, if_pos h'], Below.refl _ _⟩
    · have hlt : n / 10 < 10 ^ (f + 1) := by rw [Nat.pow_succ] at h; omega
      have ih := digits_any f (n / 10) (by omega) hlt (by omega)
      have hlen : (digF f (n / 10)).length ≤ 21 := Nat.le_trans (digF_len f _) (by omega)
      have h10 : ¬ ((n : Int) < 10) := by omega
      have e2 : IntKind.i64.wrap ((n : Int) / 10) = ((n / 10 : Nat) : Int) := by rw [IntKind.wrap_i64]; omega
      have hm10 : n % 10 < 10 := Nat.mod_lt _ (by decide)
      have htm : (n : Int).tmod 10 = ((n % 10 : Nat) : Int) := by rw [Int.tmod_eq_emod_of_nonneg (by omega)]; omega
      have hS1 : ∀ wx : World, (Instr.slice 9 (.string ⟨#[48, 49, 50, 51, 52, 53, 54, 55, 56, 57]⟩) (some (.int .i64 ((n : Int).tmod 10))) none none).run Tryd.prog wx = .ok (.string ((⟨#[48, 49, 50, 51, 52, 53, 54, 55, 56, 57]⟩ : ByteArray).extract (n % 10) 10)) wx := fun wx => by
        rw [htm]; exact slice_from (n % 10) hm10 wx
      clear htm
      have hS2 : ∀ wx : World, (Instr.slice 9 (.string ((⟨#[48, 49, 50, 51, 52, 53, 54, 55, 56, 57]⟩ : ByteArray).extract (n % 10) 10)) none (some (.int .i64 1)) none).run Tryd.prog wx = .ok (.string ⟨#[UInt8.ofNat (48 + n % 10)]⟩) wx := slice_one (n % 10) hm10
      go_enter Tryd.func36, Tryd.ntmps36
      go_wp2_with fail
      go_region_with (go_at_call 36; refine (ih _).mono ?_; rintro e wx ⟨rfl, bx⟩)
      all_goals go_wp2
      all_goals go_ret
      all_goals
        refine ⟨?_, (Below.refl w.heap.size w).drew.trans bx⟩
        refine ret_s ?_
        rw [digF, if_neg h']; simp
end Go.Proofs.YtpnegpcnmmaclaaDoor

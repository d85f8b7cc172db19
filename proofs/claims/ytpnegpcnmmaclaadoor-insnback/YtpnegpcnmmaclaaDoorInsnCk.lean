/-
  insn: fits, Check, by its table alone.
-/
import Derived.Test.YtpnegpcnmmaclaaDoorInsnSh
import Derived.Test.YtpnegpcnmmaclaaDoorKeep
namespace Go.Proofs.YtpnegpcnmmaclaaDoor
open Go.ChangeShapes Go.WideShapes Go.ChangeAt Go.RowKit

theorem fits_any (r : Int) (has : Bool) (w : World) :
    Calls Tryd.prog 37 #[.int .i64 r, .bool has] w fun e w' => e = .returned (.bool (fitP r has)) ∧ w = w' := by
  cases has
  · go_enter Tryd.func37, Tryd.ntmps37
    go_wp2
    go_ret
    exact ⟨by simp [fitP, BEq.beq], rfl⟩
  · go_enter Tryd.func37, Tryd.ntmps37
    go_wp2
    all_goals go_ret
    all_goals (refine ⟨ret_bool ?_, rfl⟩; simp [fitP] ; try omega)

set_option maxHeartbeats 4000000 in
theorem check_in (op a b n : Int) (w : World) (hV : Sh w) (h1 : 1 ≤ op) (h7 : op ≤ 7) :
    Calls Tryd.prog 27 #[.agg #[.int .i64 op, .int .i64 a, .int .i64 b, .int .i64 n]] w fun e w' => e = .returned (.int .i64 (if okP ⟨op, a, b, n⟩ then 0 else 1)) ∧ Below w.heap.size w w' := by
  obtain ⟨r, hr⟩ : ∃ r : Int, Hid ((if okP ⟨op, a, b, n⟩ then 0 else 1) = r) := ⟨_, rfl⟩
  rw [hr.out]
  rcases seven h1 h7 with rfl | rfl | rfl | rfl | rfl | rfl | rfl
  · obtain ⟨k0, k1, k2, k3, k4⟩ := hV.row1
    go_enter Tryd.func27, Tryd.ntmps27
    go_wp2_with (go_at_call 37; refine (fits_any _ _ _).mono ?_; rintro e wx ⟨rfl, rfl⟩)
    all_goals go_ret
    all_goals refine ⟨?_, ((Below.refl _ w).alloc (Nat.le_refl _) _).alloc (by simp) _⟩
    all_goals (rw [← hr.out]; simp_all [okP, shape] ; try omega)
  · obtain ⟨k0, k1, k2, k3, k4⟩ := hV.row2
    go_enter Tryd.func27, Tryd.ntmps27
    go_wp2_with (go_at_call 37; refine (fits_any _ _ _).mono ?_; rintro e wx ⟨rfl, rfl⟩)
    all_goals go_ret
    all_goals refine ⟨?_, ((Below.refl _ w).alloc (Nat.le_refl _) _).alloc (by simp) _⟩
    all_goals (rw [← hr.out]; simp_all [okP, shape] ; try omega)
  · obtain ⟨k0, k1, k2, k3, k4⟩ := hV.row3
    go_enter Tryd.func27, Tryd.ntmps27
    go_wp2_with (go_at_call 37; refine (fits_any _ _ _).mono ?_; rintro e wx ⟨rfl, rfl⟩)
    all_goals go_ret
    all_goals refine ⟨?_, ((Below.refl _ w).alloc (Nat.le_refl _) _).alloc (by simp) _⟩
    all_goals (rw [← hr.out]; simp_all [okP, shape] ; try omega)
  · obtain ⟨k0, k1, k2, k3, k4⟩ := hV.row4
    go_enter Tryd.func27, Tryd.ntmps27
    go_wp2_with (go_at_call 37; refine (fits_any _ _ _).mono ?_; rintro e wx ⟨rfl, rfl⟩)
    all_goals go_ret
    all_goals refine ⟨?_, ((Below.refl _ w).alloc (Nat.le_refl _) _).alloc (by simp) _⟩
    all_goals (rw [← hr.out]; simp_all [okP, shape] ; try omega)
  · obtain ⟨k0, k1, k2, k3, k4⟩ := hV.row5
    go_enter Tryd.func27, Tryd.ntmps27
    go_wp2_with (go_at_call 37; refine (fits_any _ _ _).mono ?_; rintro e wx ⟨rfl, rfl⟩)
    all_goals go_ret
    all_goals refine ⟨?_, ((Below.refl _ w).alloc (Nat.le_refl _) _).alloc (by simp) _⟩
    all_goals (rw [← hr.out]; simp_all [okP, shape] ; try omega)
  · obtain ⟨k0, k1, k2, k3, k4⟩ := hV.row6
    go_enter Tryd.func27, Tryd.ntmps27
    go_wp2_with (go_at_call 37; refine (fits_any _ _ _).mono ?_; rintro e wx ⟨rfl, rfl⟩)
    all_goals go_ret
    all_goals refine ⟨?_, ((Below.refl _ w).alloc (Nat.le_refl _) _).alloc (by simp) _⟩
    all_goals (rw [← hr.out]; simp_all [okP, shape] ; try omega)
  · obtain ⟨k0, k1, k2, k3, k4⟩ := hV.row7
    go_enter Tryd.func27, Tryd.ntmps27
    go_wp2_with (go_at_call 37; refine (fits_any _ _ _).mono ?_; rintro e wx ⟨rfl, rfl⟩)
    all_goals go_ret
    all_goals refine ⟨?_, ((Below.refl _ w).alloc (Nat.le_refl _) _).alloc (by simp) _⟩
    all_goals (rw [← hr.out]; simp_all [okP, shape] ; try omega)

theorem check_sh (x : Ins) (w : World) (hV : Sh w) :
    Calls Tryd.prog 27 #[insV x] w fun e w' => e = .returned (.int .i64 (if okP x then 0 else 1)) ∧ Below w.heap.size w w' := by
  obtain ⟨op, a, b, n⟩ := x
  by_cases h1 : 1 ≤ op
  · by_cases h7 : op ≤ 7
    · exact check_in op a b n w hV h1 h7
    · have hk : okP ⟨op, a, b, n⟩ = false := by simp [okP]; omega
      rw [hk]
      unfold insV
      go_enter Tryd.func27, Tryd.ntmps27
      go_wp2
      go_ret
      exact ⟨rfl, (Below.refl _ w).alloc (Nat.le_refl _) _⟩
  · have hk : okP ⟨op, a, b, n⟩ = false := by simp [okP]; omega
    rw [hk]
    unfold insV
    go_enter Tryd.func27, Tryd.ntmps27
    go_wp2
    go_ret
    exact ⟨rfl, (Below.refl _ w).alloc (Nat.le_refl _) _⟩
end Go.Proofs.YtpnegpcnmmaclaaDoor

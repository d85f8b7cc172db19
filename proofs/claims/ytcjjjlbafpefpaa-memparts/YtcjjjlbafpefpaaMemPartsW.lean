/-
  The walk of MemParts.
-/
import Derived.Test.YtcjjjlbafpefpaaMemF
namespace Go.Proofs.Ytcjjjlbafpefpaa
open Go.ChangeShapes Go.WideShapes Go.ChangeAt Go.RowKit

set_option maxRecDepth 10000 in
set_option maxHeartbeats 4000000 in
theorem memParts_walk (a0 a1 x y a4 : Int) (w : World) :
    Calls Try.prog 6 #[.int .i64 a0, .int .i64 a1, .int .u64 x, .int .u64 y, .int .i64 a4] w fun e w' => e = .returned (.bool true) ∧ Below w.heap.size w w' := by
  have q0 := Int.emod_nonneg a0 (b := 48) (by omega)
  have q1 := Int.emod_lt_of_pos a0 (b := 48) (by omega)
  have q2 := Int.emod_nonneg a1 (b := 48) (by omega)
  have q3 := Int.emod_lt_of_pos a1 (b := 48) (by omega)
  have q4 := Int.emod_nonneg a4 (b := 6) (by omega)
  have q5 := Int.emod_lt_of_pos a4 (b := 6) (by omega)
  generalize hA : a0 % 48 = A at q0 q1
  generalize hB : a1 % 48 = B at q2 q3
  generalize hT0 : a4 % 6 = T at q4 q5
  have hm6 : MS.many 6 = 6 := rfl
  obtain ⟨s0, hs0⟩ : ∃ s, Hid (MS.fresh 6 = s) := ⟨_, rfl⟩
  obtain ⟨s1, hs1⟩ : ∃ s, Hid (s0.write A x = s) := ⟨_, rfl⟩
  obtain ⟨s2, hs2⟩ : ∃ s, Hid (s1.write B y = s) := ⟨_, rfl⟩
  obtain ⟨s3, hs3⟩ : ∃ s, Hid (s2.copy (B / 8) T = s) := ⟨_, rfl⟩
  obtain ⟨s4, hs4⟩ : ∃ s, Hid (s3.zero T = s) := ⟨_, rfl⟩
  have n0 : s0.n = 6 := by rw [← hs0.out]; rfl
  have n1 : s1.n = 6 := by rw [← hs1.out, MS.write_n, n0]
  have n2 : s2.n = 6 := by rw [← hs2.out, MS.write_n, n1]
  have n3 : s3.n = 6 := by rw [← hs3.out, MS.copy_n, n2]
  have n4 : s4.n = 6 := by rw [← hs4.out, MS.zero_n, n3]
  have hW : ∀ s : MS, s.n = 6 → ∀ a, 0 ≤ a → a < 48 → s.hasW a = true := fun s h a h1 h2 => (s.hasW_iff a).2 (by rw [h]; omega)
  have hF : ∀ s : MS, s.n = 6 → ∀ a, 0 ≤ a → a < 6 → s.hasF a = true := fun s h a h1 h2 => (s.hasF_iff a).2 (by rw [h]; omega)
  have v0 := hW s0 n0 A q0 q1
  have v1 := hW s1 n1 B q2 q3
  have v2 : s2.rd B = y := by rw [← hs2.out, MS.rd_write _ _ _ _ v1, if_pos rfl]
  have v3 : A ≠ B → s2.rd A = x := fun h => by rw [← hs2.out, MS.rd_write _ _ _ _ v1, if_neg h, ← hs1.out, MS.rd_write _ _ _ _ v0, if_pos rfl]
  have v4 := hF s2 n2 (B / 8) (by omega) (by omega)
  have v5 := hF s2 n2 T q4 q5
  have v6 : s3.hasW (8 * T + B % 8) = true := hW s3 n3 _ (by omega) (by omega)
  have v7 : s3.rd (8 * T + B % 8) = y := by
    rw [← hs3.out, MS.rd_copy _ _ _ _ v4 v5 (by omega), if_pos (by omega), show 8 * (B / 8) + (8 * T + B % 8) % 8 = B by omega, v2]
  have v8 := hF s3 n3 T q4 q5
  have hz1 : ∀ g : Int, 0 ≤ g → g < 8 → s4.hasW (8 * T + g) = true := fun g h1 h2 => hW s4 n4 _ (by omega) (by omega)
  have hz2 : ∀ g : Int, 0 ≤ g → g < 8 → s4.rd (8 * T + g) = 0 := fun g h1 h2 => by
    rw [← hs4.out, MS.rd_zero _ _ _ v8 (by omega), if_pos (by omega)]
  have e1 : s4.hasW 48 = false := (s4.hasW_no _).2 (by rw [n4]; omega)
  have e2 : s4.hasW (-1) = false := (s4.hasW_no _).2 (by omega)
  have e3 : s4.hasF 6 = false := (s4.hasF_no _).2 (by rw [n4]; omega)
  have e4 : s4.hasF (-1) = false := (s4.hasF_no _).2 (by omega)
  have e5 : s4.mayM 0 6 = false := by simp [MS.mayM]
  have f1 : Hid (s4.write (-1) 1 = s4) := by show _ = _; simp [MS.write, e2]
  have f2 : Hid (s4.copy 6 0 = s4) := by show _ = _; simp [MS.copy, e3]
  have f3 : Hid (s4.copy 0 (-1) = s4) := by show _ = _; simp [MS.copy, e4]
  have f4 : Hid (s4.zero 6 = s4) := by show _ = _; simp [MS.zero, e3]
  have f5 : Hid (s4.mark 0 6 0 = s4) := by show _ = _; simp [MS.mark, e5]
  clear hW hF n0 n1 n2 n3
  by_cases hAB : A = B
  · subst hAB
    clear v3
    go_enter Try.func6, Try.ntmps6
    go_wp2_with (first
      | (go_at_call 8; refine (within_any _ _ _ (by omega) (by omega)).mono ?_; rintro e wq ⟨rfl, rfl⟩)
      | (go_at_call 9; refine (new_any _ _).mono ?_; rintro e w1 ⟨rfl, hM, hT, hS⟩; rw [hm6, hs0.out] at hM)
      | (go_at_call 17; refine (write_any hM _ _ (by omega)).mono ?_; rintro e w2 ⟨hx, hM1, hT1⟩; subst hx; rw [hs1.out] at hM1; clear hM; have hU1 := hT.transNew hT1 (by intro i h e; omega))
      | (go_at_call 17; refine (write_any hM1 _ _ (by omega)).mono ?_; rintro e w3 ⟨hx, hM2, hT2⟩; subst hx; rw [hs2.out] at hM2; clear hM1; have hU2 := hU1.transNew hT2 (by intro i h e; omega))
      | (go_at_call 16; refine (read_any hM2 _ (by omega)).mono ?_; rintro e wq ⟨rfl, rfl⟩)
      | (go_at_call 13; refine (copy_any hM2 _ _).mono ?_; rintro e w4 ⟨hx, hM3, hT3⟩; subst hx; rw [hs3.out] at hM3; clear hM2; have hU3 := hU2.transNew hT3 (by intro i h e; omega))
      | (go_at_call 16; refine (read_any hM3 _ (by omega)).mono ?_; rintro e wq ⟨rfl, rfl⟩)
      | (go_at_call 12; refine (zero_any hM3 _).mono ?_; rintro e w5 ⟨hx, hM4, hT4⟩; subst hx; rw [hs4.out] at hM4; clear hM3; have hU4 := hU3.transNew hT4 (by intro i h e; omega)))
    go_loop [18] (fun i => ∃ g : Nat, g ≤ 8 ∧ i = .int .i64 g) (fun i => 8 - (intOf i).toNat)
    case atStart => exact ⟨0, by omega, rfl⟩
    case round =>
      obtain ⟨g, hg, rfl⟩ := hrel
      by_cases hlt : g < 8
      · have hlt' : (g : Int) < 8 := by omega
        have z1 := hz1 g (by omega) hlt'
        have z2 := hz2 g (by omega) hlt'
        go_wp2_with (go_at_call 16; refine (read_any hM4 _ (by omega)).mono ?_; rintro e wq ⟨rfl, rfl⟩)
        go_round
        case rel => exact ⟨g + 1, by omega, by go_num⟩
        case measure => simp [intOf]; omega
      · have hg8 : g = 8 := by omega
        subst hg8
        clear hz1 hz2
        go_wp2_with (first
          | (go_at_call 16; refine (read_any hM4 _ (by omega)).mono ?_; rintro e wq ⟨rfl, rfl⟩)
          | (go_at_call 17; refine (write_any hM4 _ _ (by omega)).mono ?_; rintro e w6 ⟨hx, hM5, hT5⟩; subst hx; rw [f1.out] at hM5; clear hM4; have hU5 := hU4.transNew hT5 (by intro i h e; omega))
          | (go_at_call 13; refine (copy_any hM5 _ _).mono ?_; rintro e w7 ⟨hx, hM6, hT6⟩; subst hx; rw [f2.out] at hM6; clear hM5; have hU6 := hU5.transNew hT6 (by intro i h e; omega))
          | (go_at_call 13; refine (copy_any hM6 _ _).mono ?_; rintro e w8 ⟨hx, hM7, hT7⟩; subst hx; rw [f3.out] at hM7; clear hM6; have hU7 := hU6.transNew hT7 (by intro i h e; omega))
          | (go_at_call 12; refine (zero_any hM7 _).mono ?_; rintro e w9 ⟨hx, hM8, hT8⟩; subst hx; rw [f4.out] at hM8; clear hM7; have hU8 := hU7.transNew hT8 (by intro i h e; omega))
          | (go_at_call 11; refine (mark_any hM8 _ _ _).mono ?_; rintro e w10 ⟨hx, hM9, hT9⟩; subst hx; rw [f5.out] at hM9; clear hM8; have hU9 := hU8.transNew hT9 (by intro i h e; omega))
          | (go_at_call 10; refine (frames_any hM9).mono ?_; rintro e wq ⟨rfl, rfl⟩)
          | (go_at_call 18; refine (wakes2_any _).mono ?_; rintro e w11 ⟨rfl, hT11⟩))
        go_ret
        exact ⟨rfl, (hU9.transNew hT11 (by intro i h e; exact e.elim)).below (Nat.le_refl _) (fun _ e => e.elim)⟩
  · have v3 := v3 hAB
    go_enter Try.func6, Try.ntmps6
    go_wp2_with (first
      | (go_at_call 8; refine (within_any _ _ _ (by omega) (by omega)).mono ?_; rintro e wq ⟨rfl, rfl⟩)
      | (go_at_call 9; refine (new_any _ _).mono ?_; rintro e w1 ⟨rfl, hM, hT, hS⟩; rw [hm6, hs0.out] at hM)
      | (go_at_call 17; refine (write_any hM _ _ (by omega)).mono ?_; rintro e w2 ⟨hx, hM1, hT1⟩; subst hx; rw [hs1.out] at hM1; clear hM; have hU1 := hT.transNew hT1 (by intro i h e; omega))
      | (go_at_call 17; refine (write_any hM1 _ _ (by omega)).mono ?_; rintro e w3 ⟨hx, hM2, hT2⟩; subst hx; rw [hs2.out] at hM2; clear hM1; have hU2 := hU1.transNew hT2 (by intro i h e; omega))
      | (go_at_call 16; refine (read_any hM2 _ (by omega)).mono ?_; rintro e wq ⟨rfl, rfl⟩)
      | (go_at_call 13; refine (copy_any hM2 _ _).mono ?_; rintro e w4 ⟨hx, hM3, hT3⟩; subst hx; rw [hs3.out] at hM3; clear hM2; have hU3 := hU2.transNew hT3 (by intro i h e; omega))
      | (go_at_call 16; refine (read_any hM3 _ (by omega)).mono ?_; rintro e wq ⟨rfl, rfl⟩)
      | (go_at_call 12; refine (zero_any hM3 _).mono ?_; rintro e w5 ⟨hx, hM4, hT4⟩; subst hx; rw [hs4.out] at hM4; clear hM3; have hU4 := hU3.transNew hT4 (by intro i h e; omega)))
    go_loop [18] (fun i => ∃ g : Nat, g ≤ 8 ∧ i = .int .i64 g) (fun i => 8 - (intOf i).toNat)
    case atStart => exact ⟨0, by omega, rfl⟩
    case round =>
      obtain ⟨g, hg, rfl⟩ := hrel
      by_cases hlt : g < 8
      · have hlt' : (g : Int) < 8 := by omega
        have z1 := hz1 g (by omega) hlt'
        have z2 := hz2 g (by omega) hlt'
        go_wp2_with (go_at_call 16; refine (read_any hM4 _ (by omega)).mono ?_; rintro e wq ⟨rfl, rfl⟩)
        go_round
        case rel => exact ⟨g + 1, by omega, by go_num⟩
        case measure => simp [intOf]; omega
      · have hg8 : g = 8 := by omega
        subst hg8
        clear hz1 hz2
        go_wp2_with (first
          | (go_at_call 16; refine (read_any hM4 _ (by omega)).mono ?_; rintro e wq ⟨rfl, rfl⟩)
          | (go_at_call 17; refine (write_any hM4 _ _ (by omega)).mono ?_; rintro e w6 ⟨hx, hM5, hT5⟩; subst hx; rw [f1.out] at hM5; clear hM4; have hU5 := hU4.transNew hT5 (by intro i h e; omega))
          | (go_at_call 13; refine (copy_any hM5 _ _).mono ?_; rintro e w7 ⟨hx, hM6, hT6⟩; subst hx; rw [f2.out] at hM6; clear hM5; have hU6 := hU5.transNew hT6 (by intro i h e; omega))
          | (go_at_call 13; refine (copy_any hM6 _ _).mono ?_; rintro e w8 ⟨hx, hM7, hT7⟩; subst hx; rw [f3.out] at hM7; clear hM6; have hU7 := hU6.transNew hT7 (by intro i h e; omega))
          | (go_at_call 12; refine (zero_any hM7 _).mono ?_; rintro e w9 ⟨hx, hM8, hT8⟩; subst hx; rw [f4.out] at hM8; clear hM7; have hU8 := hU7.transNew hT8 (by intro i h e; omega))
          | (go_at_call 11; refine (mark_any hM8 _ _ _).mono ?_; rintro e w10 ⟨hx, hM9, hT9⟩; subst hx; rw [f5.out] at hM9; clear hM8; have hU9 := hU8.transNew hT9 (by intro i h e; omega))
          | (go_at_call 10; refine (frames_any hM9).mono ?_; rintro e wq ⟨rfl, rfl⟩)
          | (go_at_call 18; refine (wakes2_any _).mono ?_; rintro e w11 ⟨rfl, hT11⟩))
        go_ret
        exact ⟨rfl, (hU9.transNew hT11 (by intro i h e; exact e.elim)).below (Nat.le_refl _) (fun _ e => e.elim)⟩
end Go.Proofs.Ytcjjjlbafpefpaa

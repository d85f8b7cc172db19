/-
  The walk of MemClones.
-/
import Derived.Test.YtcjjjlbafpefpaaMemF
namespace Go.Proofs.Ytcjjjlbafpefpaa
open Go.ChangeShapes Go.WideShapes Go.ChangeAt Go.RowKit

set_option maxHeartbeats 4000000 in
theorem memClones_walk (a0 x y : Int) (w : World) :
    Calls Try.prog 4 #[.int .i64 a0, .int .u64 x, .int .u64 y] w fun e w' => e = .returned (.bool true) ∧ Below w.heap.size w w' := by
  have q0 := Int.emod_nonneg a0 (b := 24) (by omega)
  have q1 := Int.emod_lt_of_pos a0 (b := 24) (by omega)
  generalize hA : a0 % 24 = A at q0 q1
  have hm3 : MS.many 3 = 3 := rfl
  obtain ⟨s0, hs0⟩ : ∃ s, Hid (MS.fresh 3 = s) := ⟨_, rfl⟩
  have n0 : s0.n = 3 := by rw [← hs0.out]; rfl
  obtain ⟨s1, hs1⟩ : ∃ s, Hid (s0.write A x = s) := ⟨_, rfl⟩
  obtain ⟨s2, hs2⟩ : ∃ s, Hid (s1.mark (A / 8) 3 2 = s) := ⟨_, rfl⟩
  obtain ⟨k1, hk1⟩ : ∃ s, Hid (s2.write A y = s) := ⟨_, rfl⟩
  obtain ⟨k2, hk2⟩ : ∃ s, Hid (k1.mark (A / 8) 2 1 = s) := ⟨_, rfl⟩
  obtain ⟨s3, hs3⟩ : ∃ s, Hid (s2.zero (A / 8) = s) := ⟨_, rfl⟩
  have n1 : s1.n = 3 := by rw [← hs1.out, MS.write_n, n0]
  have n2 : s2.n = 3 := by rw [← hs2.out, MS.mark_n, n1]
  have nk1 : k1.n = 3 := by rw [← hk1.out, MS.write_n, n2]
  have nk2 : k2.n = 3 := by rw [← hk2.out, MS.mark_n, nk1]
  have hW : ∀ s : MS, s.n = 3 → s.hasW A = true := fun s h => (s.hasW_iff A).2 (by rw [h]; omega)
  have hF : ∀ s : MS, s.n = 3 → s.hasF (A / 8) = true := fun s h => (s.hasF_iff _).2 (by rw [h]; omega)
  have m1 : s1.mayM (A / 8) 3 = true := s1.mayM_mk _ _ (hF s1 n1) (by omega) (by omega)
  have m2 : k1.mayM (A / 8) 2 = true := k1.mayM_mk _ _ (hF k1 nk1) (by omega) (by omega)
  have c2 : s2.cls (A / 8) = 3 := by rw [← hs2.out, MS.cls_mark _ _ _ _ _ m1, if_pos rfl]
  have o2 : s2.own (A / 8) = 2 := by rw [← hs2.out, MS.own_mark _ _ _ _ _ m1, if_pos rfl]
  have r2 : s2.rd A = x := by
    rw [← hs2.out, MS.rd_of (MS.mark_n _ _ _ _) (MS.mark_W _ _ _ _), ← hs1.out, MS.rd_write _ _ _ _ (hW s0 n0), if_pos rfl]
  have rk : k2.rd A = y := by
    rw [← hk2.out, MS.rd_of (MS.mark_n _ _ _ _) (MS.mark_W _ _ _ _), ← hk1.out, MS.rd_write _ _ _ _ (hW s2 n2), if_pos rfl]
  have ck : k2.cls (A / 8) = 2 := by rw [← hk2.out, MS.cls_mark _ _ _ _ _ m2, if_pos rfl]
  have c3 : s3.cls (A / 8) = 3 := by rw [← hs3.out, MS.cls_of (MS.zero_n _ _) (MS.zero_C _ _), c2]
  have o3 : s3.own (A / 8) = 2 := by rw [← hs3.out, MS.own_of (MS.zero_n _ _) (MS.zero_O _ _), o2]
  clear m1 m2 hW hF n1 nk1 nk2
  go_enter Try.func4, Try.ntmps4
  go_wp2_with (first
    | (go_at_call 8; refine (within_any _ _ _ (by omega) (by omega)).mono ?_; rintro e wq ⟨rfl, hw⟩; subst hw)
    | (go_at_call 9; refine (new_any _ _).mono ?_; rintro e w1 ⟨rfl, hM, hT, hS⟩; rw [hm3, hs0.out] at hM)
    | (go_at_call_has 17 (Value.pointer (some ⟨w.heap.size + 1, 0, none⟩)); refine (write_any hM _ _ (by omega)).mono ?_; rintro e w2 ⟨hx, hM1, hT1⟩; subst hx; rw [hs1.out] at hM1; clear hM; have z1 := hT1.size; have hT1' := hT.transNew hT1 (by intro i h e; omega))
    | (go_at_call_has 11 (Value.pointer (some ⟨w.heap.size + 1, 0, none⟩)); refine (mark_any hM1 _ _ _).mono ?_; rintro e w3 ⟨hx, hM2, hT2⟩; subst hx; rw [hs2.out] at hM2; clear hM1; have z2 := hT2.size; have hT2' := hT1'.transNew hT2 (by intro i h e; omega))
    | (go_at_call 19; refine (clone_any hM2).mono ?_; rintro e w4 ⟨b', c', hx, hb, hc, hK, hT4⟩; subst hx; have hN := hM2.touch hT4 (by exact id) (by exact id); clear hM2; have z4 := hT4.size; have hT4' := hT2'.transNew hT4 (by intro i h e; exact e.elim))
    | (go_at_call_has 10 (Value.pointer (some ⟨b', 0, none⟩)); refine (frames_any hK).mono ?_; rintro e wq ⟨rfl, hw⟩; subst hw)
    | (go_at_call_has 14 (Value.pointer (some ⟨b', 0, none⟩)); refine (class_any hK _).mono ?_; rintro e wq ⟨rfl, hw⟩; subst hw)
    | (go_at_call_has 15 (Value.pointer (some ⟨b', 0, none⟩)); refine (owner_any hK _).mono ?_; rintro e wq ⟨rfl, hw⟩; subst hw)
    | (go_at_call_has 17 (Value.pointer (some ⟨b', 0, none⟩)); refine (write_any hK _ _ (by omega)).mono ?_; rintro e w5 ⟨hx, hK1, hT5⟩; subst hx; rw [hk1.out] at hK1; have hN5 := hN.touch hT5 (by show ¬ _ = _; omega) (by show ¬ _ = _; omega); clear hN hK; have hT5' := hT4'.transNew hT5 (by intro i h e; omega))
    | (go_at_call_has 11 (Value.pointer (some ⟨b', 0, none⟩)); refine (mark_any hK1 _ _ _).mono ?_; rintro e w6 ⟨hx, hK2, hT6⟩; subst hx; rw [hk2.out] at hK2; have hN6 := hN5.touch hT6 (by show ¬ _ = _; omega) (by show ¬ _ = _; omega); clear hN5 hK1; have hT6' := hT5'.transNew hT6 (by intro i h e; omega))
    | (go_at_call_has 16 (Value.pointer (some ⟨w.heap.size + 1, 0, none⟩)); refine (read_any hN6 _ (by omega)).mono ?_; rintro e wq ⟨rfl, hw⟩; subst hw)
    | (go_at_call_has 16 (Value.pointer (some ⟨b', 0, none⟩)); refine (read_any hK2 _ (by omega)).mono ?_; rintro e wq ⟨rfl, hw⟩; subst hw)
    | (go_at_call_has 12 (Value.pointer (some ⟨w.heap.size + 1, 0, none⟩)); refine (zero_any hN6 _).mono ?_; rintro e w7 ⟨hx, hN7, hT7⟩; subst hx; rw [hs3.out] at hN7; have hK7 := hK2.touch hT7 (by show ¬ _ = _; omega) (by show ¬ _ = _; omega); clear hN6 hK2; have hT7' := hT6'.transNew hT7 (by intro i h e; omega))
    | (go_at_call_has 16 (Value.pointer (some ⟨b', 0, none⟩)); refine (read_any hK7 _ (by omega)).mono ?_; rintro e wq ⟨rfl, hw⟩; subst hw)
    | (go_at_call_has 14 (Value.pointer (some ⟨w.heap.size + 1, 0, none⟩)); refine (class_any hN7 _).mono ?_; rintro e wq ⟨rfl, hw⟩; subst hw)
    | (go_at_call_has 15 (Value.pointer (some ⟨w.heap.size + 1, 0, none⟩)); refine (owner_any hN7 _).mono ?_; rintro e wq ⟨rfl, hw⟩; subst hw)
    | (go_at_call_has 14 (Value.pointer (some ⟨b', 0, none⟩)); refine (class_any hK7 _).mono ?_; rintro e wq ⟨rfl, hw⟩; subst hw)
    | (go_at_call 18; refine (wakes2_any _).mono ?_; rintro e w9 ⟨rfl, hT9⟩))
  go_ret
  exact ⟨rfl, (hT7'.transNew hT9 (by intro i h e; exact e.elim)).below (Nat.le_refl _) (fun _ e => e.elim)⟩
end Go.Proofs.Ytcjjjlbafpefpaa

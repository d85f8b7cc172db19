/-
  The walk of PoolRefs.
-/
import Derived.Test.YtbnojbccaalnaaaPoolC
namespace Go.Proofs.Ytbnojbccaalnaaa
open Go.ChangeShapes Go.WideShapes Go.ChangeAt Go.RowKit

/-- What the frames are behind Take, behind Write, behind the last Give. -/
def pr1 : MS := (MS.fresh (MS.many 20)).mark 15 2 3
def pr2 (x : Int) : MS := pr1.write 123 x
def pr3 (x : Int) : MS := ((pr2 x).zero 15).mark 15 0 (-1)
theorem pr1_hasW : pr1.hasW 123 = true := by kernel_rfl
theorem pr2_left (x : Int) : (pr2 x).left = 4 := by kernel_rfl
theorem pr2_rd (x : Int) : (pr2 x).rd 123 = x := by kernel_rfl
theorem pr2_hasW (x : Int) : (pr2 x).hasW 123 = true := by kernel_rfl
theorem pr3_left (x : Int) : (pr3 x).left = 5 := by kernel_rfl
theorem pr3_cls (x : Int) : (pr3 x).cls 15 = 0 := by kernel_rfl
theorem pr3_own (x : Int) : (pr3 x).own 15 = -1 := by kernel_rfl
theorem pr3_rd (x : Int) : (pr3 x).rd 123 = 0 := by kernel_rfl
theorem pr3_hasW (x : Int) : (pr3 x).hasW 123 = true := by kernel_rfl
theorem rshare_at (R : Nat → Int) (x : Int) (h : rf R 15 = x) (hp : 0 < x) : rf (rshare R 15) 15 = x + 1 := by
  unfold rshare; rw [if_pos (by omega), rf_rset _ _ _ _ (by omega) (by omega), if_pos rfl, h]
theorem rgive_at (R : Nat → Int) (x : Int) (h : rf R 15 = x) (hp : 0 < x) : rf (rgive R 15) 15 = x - 1 := by
  unfold rgive; rw [if_pos (by omega), rf_rset _ _ _ _ (by omega) (by omega), if_pos rfl, h]

set_option maxHeartbeats 4000000 in
theorem poolRefs_walk (a0 x : Int) (w : World) :
    Calls Try.prog 4 #[.int .i64 a0, .int .u64 x] w fun e w' => e = .returned (.bool true) ∧ Below w.heap.size w w' := by
  have q0 := Int.emod_nonneg a0 (b := 20) (by omega)
  have q1 := Int.emod_lt_of_pos a0 (b := 20) (by omega)
  obtain ⟨N, hN⟩ : ∃ N : Nat, a0 % 20 = N := ⟨(a0 % 20).toNat, by omega⟩
  obtain ⟨s0, hs0⟩ : ∃ s, Hid (MS.fresh (MS.many 20) = s) := ⟨_, rfl⟩
  have hL : Least s0 15 := by rw [← hs0.out]; exact least_fresh _ (by decide)
  have h1 : Hid (s0.mark 15 2 3 = pr1) := by rw [← hs0.out]; rfl
  have h2 : Hid (pr1.write 123 x = pr2 x) := rfl
  have f0 := pr1_hasW
  have f1 := pr2_left x
  have f2 := pr2_rd x
  have f3 := pr2_hasW x
  have f4 := pr3_left x
  have f5 := pr3_cls x
  have f6 := pr3_own x
  have f7 := pr3_rd x
  have f8 := pr3_hasW x
  go_enter Try.func4, Try.ntmps4
  go_wp2_with (first
    | (go_at_call 8; refine (new_any _ _).mono ?_; rintro e w1 ⟨rfl, hM, hT, hS⟩; rw [hs0.out] at hM)
    | (go_at_call 11; refine (pnew_any _).mono ?_; rintro e w2 ⟨hx, hP, hT2, hS2⟩; rw [hS] at hx hP; subst hx; have hM2 := hM.touch hT2 id id)
    | (go_at_call 13; refine (ptake_at hP hM2 _ _ (Or.inr rfl) hL 15 rfl).mono ?_; rintro e w3 ⟨hx, hP3, hM3, hT3⟩; subst hx; rw [h1.out] at hM3)
    | (go_at_call 9; refine (within_any _ _ _ (by omega) (by omega)).mono ?_; rintro e wq ⟨rfl, rfl⟩))
  have hT4 : Touch Nil w w3 := (hT.transNew hT2 (fun _ _ e => e)).transNew hT3 (fun i h e => by omega)
  have hr3 : rf (rset (fun _ => 0) 15 1) 15 = 1 := rfl
  generalize rset (fun _ => 0) 15 1 = R3 at *
  clear hM hT hP hM2 hT2 hT3 hS2 hL hS q0 q1 h1 hs0
  go_loopw [9] (fun i wr => ∃ k : Nat, k ≤ N ∧ i = .int .i64 k ∧ ∃ R, PoolAt wr (w.heap.size + 2) (w.heap.size + 1) R ∧ rf R 15 = 1 + k ∧ MemAt wr (w.heap.size + 1) w.heap.size pr1 ∧ Touch Nil w wr) (fun i _ => N - (intOf i).toNat)
  case atStart => exact ⟨0, by omega, rfl, _, hP3, hr3, hM3, hT4⟩
  case round =>
    clear hP3 hr3 hM3 hT4
    obtain ⟨k, hk, rfl, R, hP, hr, hM, hT⟩ := hrel
    by_cases hlt : k < N
    · have hlt' : (k : Int) < N := by omega
      have hd : (0 : Int) < 1 + (k : Int) := by omega
      go_wp2_with (go_at_call 17; refine (pshare_any hP _ (by omega)).mono ?_; rintro e w4 ⟨hx, hP4, hT4⟩; subst hx)
      go_roundw
      case rel => exact ⟨k + 1, by omega, by go_num, _, hP4, by rw [rshare_at R _ hr hd]; omega, hM.touch hT4 (by show ¬ _ = _; omega) (by show ¬ _ = _; omega), hT.transNew hT4 (fun i h e => by omega)⟩
      case measure => simp [intOf]; omega
    · have hkN : k = N := by omega
      subst hkN
      go_wp2_with (go_at_call 20; refine (write_any hM _ _ (by omega)).mono ?_; rintro e w4 ⟨hx, hM4, hT4⟩; subst hx; rw [h2.out] at hM4; have hP4 := hP.touch hT4 (by show ¬ _ = _; omega); have hT5 := hT.transNew hT4 (fun i h e => by omega))
      clear hM hP hT hT4
      go_loopw [10] (fun i wr => ∃ j : Nat, j ≤ k ∧ i = .int .i64 j ∧ ∃ R, PoolAt wr (w.heap.size + 2) (w.heap.size + 1) R ∧ rf R 15 = (k : Int) + 1 - j ∧ MemAt wr (w.heap.size + 1) w.heap.size (pr2 x) ∧ Touch Nil w wr) (fun i _ => k - (intOf i).toNat)
      case atStart => exact ⟨0, by omega, rfl, _, hP4, by omega, hM4, hT5⟩
      case round =>
        clear hP4 hM4 hT5 hr
        obtain ⟨j, hj, rfl, R', hP, hr, hM, hT⟩ := hrel
        by_cases hlt : j < k
        · have hlt' : (j : Int) < k := by omega
          have hd : (0 : Int) < (k : Int) + 1 - j := by omega
          have hg : (pr2 x).given R' 15 = pr2 x := if_neg (by omega)
          go_wp2_with (first
            | (go_at_call 18; refine (prefs_any hP _).mono ?_; rintro e wq ⟨rfl, rfl⟩)
            | (go_at_call 16; refine (pgive_any hP hM _ (by omega)).mono ?_; rintro e w5 ⟨hx, hP5, hM5, hT5⟩; subst hx; rw [hg] at hM5)
            | (go_at_call 12; refine (pleft_any hP5 hM5).mono ?_; rintro e wq ⟨rfl, rfl⟩)
            | (go_at_call 21; refine (read_any hM5 _ (by omega)).mono ?_; rintro e wq ⟨rfl, rfl⟩))
          go_roundw
          case rel => exact ⟨j + 1, by omega, by go_num, _, hP5, by rw [rgive_at R' _ hr hd]; omega, hM5, hT.transNew hT5 (fun i h e => by omega)⟩
          case measure => simp [intOf]; omega
        · have hjk : j = k := by omega
          subst hjk
          have hr1 : rf R' 15 = 1 := by omega
          have hg : (pr2 x).given R' 15 = pr3 x := if_pos hr1
          have hr2 : rf (rgive R' 15) 15 = 0 := rgive_at R' 1 hr1 (by omega)
          have hg2 : (pr3 x).given (rgive R' 15) 15 = pr3 x := if_neg (by omega)
          have hg3 : rgive (rgive R' 15) 15 = rgive R' 15 := if_neg (by omega)
          clear hr
          generalize hR2 : rgive R' 15 = R2 at *
          go_wp2_with (first
            | (go_at_call 16; refine (pgive_any hP hM _ (by omega)).mono ?_; rintro e w5 ⟨hx, hP5, hM5, hT5⟩; subst hx; rw [hg] at hM5; rw [hR2] at hP5; clear hP hM)
            | (go_at_call 16; refine (pgive_any hP5 hM5 _ (by omega)).mono ?_; rintro e w6 ⟨hx, hP6, hM6, hT6⟩; subst hx; rw [hg2] at hM6; rw [hg3] at hP6)
            | (go_at_call 12; refine (pleft_any hP6 hM6).mono ?_; rintro e wq ⟨rfl, rfl⟩)
            | (go_at_call 14; refine (class_any hM6 _).mono ?_; rintro e wq ⟨rfl, rfl⟩)
            | (go_at_call 15; refine (owner_any hM6 _).mono ?_; rintro e wq ⟨rfl, rfl⟩)
            | (go_at_call 21; refine (read_any hM6 _ (by omega)).mono ?_; rintro e wq ⟨rfl, rfl⟩)
            | (go_at_call 19; refine (wakes3_any _).mono ?_; rintro e w9 ⟨rfl, hT9⟩))
          go_ret
          exact ⟨rfl, (((hT.transNew hT5 (fun i h e => by omega)).transNew hT6 (fun i h e => by omega)).transNew hT9 (fun _ _ e => e)).below (Nat.le_refl _) (fun _ e => e.elim)⟩
end Go.Proofs.Ytbnojbccaalnaaa

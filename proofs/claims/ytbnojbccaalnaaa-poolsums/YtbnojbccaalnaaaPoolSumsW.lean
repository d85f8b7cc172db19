/-
  The walk of PoolSums.
-/
import Derived.Test.YtbnojbccaalnaaaPoolD
import Derived.Test.YtbnojbccaalnaaaSlices
import Derived.Deep.DeepCutAuto
namespace Go.Proofs.Ytbnojbccaalnaaa
open Go.ChangeShapes Go.WideShapes Go.ChangeAt Go.RowKit

/-- Take, whatever is free. -/
theorem ptake_sums {w : World} {p b c : Nat} {s : MS} {R : Nat → Int} {N k : Nat} (h : PoolAt w p b R) (m : MemAt w b c s) (hI : PInv s R N k) {q : Int} (hq : q = 1 ∨ q = 2) :
    Calls Try.prog 13 #[.pointer (some ⟨p, 0, none⟩), .int .i64 q, .int .i64 1] w fun e w' => ∃ a ok s' R', e = .returned (.tuple #[.int .i64 a, .bool ok]) ∧ PoolAt w' p b R' ∧ MemAt w' b c s' ∧ PInv s' R' N (k + 1) ∧ Touch (fun x => x = p ∨ x = c) w w' := by
  rcases least_or s with ⟨f, hL⟩ | hNo
  · exact (ptake_least h m q 1 hq hL).mono fun e w' ⟨he, hP, hM, hT⟩ => ⟨_, _, _, _, he, hP, hM, hI.take hL hq, hT⟩
  · exact (ptake_none h m q 1 hNo).mono fun e w' ⟨he, hw⟩ => by subst hw; exact ⟨_, _, _, _, he, h, m, hI.same, Touch.refl _ _⟩

set_option maxRecDepth 10000 in
set_option maxHeartbeats 4000000 in
theorem poolSums_walk (a0 : Int) (a1 : Option Addr) (len1 cap1 : Nat) (z1 : List Int) (w : World) (r1 : Row .i64 w a1 len1 cap1 z1) :
    Calls Try.prog 7 #[.int .i64 a0, .slice a1 len1 cap1] w fun e w' => e = .returned (.bool true) ∧ Below w.heap.size w w' := by
  obtain ⟨hm1, p1⟩ := r1.plain
  unfold maxLen at hm1
  clear r1
  have q0 := Int.emod_nonneg a0 (b := 15) (by omega)
  have q1 := Int.emod_lt_of_pos a0 (b := 15) (by omega)
  obtain ⟨N, hN⟩ : ∃ N : Nat, 15 + a0 % 15 = N := ⟨(15 + a0 % 15).toNat, by omega⟩
  have hN1 : 15 ≤ N := by omega
  have hN2 : N < 30 := by omega
  have hmN : MS.many N = N := by unfold MS.many; omega
  clear q0 q1
  go_enter Try.func7, Try.ntmps7
  go_wp2_with (first
    | (go_at_call 9; refine (within_any _ _ _ (by omega) (by omega)).mono ?_; rintro e wq ⟨rfl, rfl⟩)
    | (go_at_call 8; refine (new_any _ _).mono ?_; rintro e w1 ⟨rfl, hM, hT, hS⟩; rw [hmN] at hM)
    | (go_at_call 11; refine (pnew_any _).mono ?_; rintro e w2 ⟨hx, hP, hT2, hS2⟩; rw [hS] at hx hP; subst hx; have hM2 := hM.touch hT2 id id))
  have hT3 : Touch Nil w w2 := hT.transNew hT2 (fun _ _ e => e)
  clear hM hT hS hT2 hS2
  go_loopg [7] 60 (fun g i wr => ∃ k : Nat, g + k = 60 ∧ i = .int .i64 k ∧ ∃ s R, PoolAt wr (w.heap.size + 2) (w.heap.size + 1) R ∧ MemAt wr (w.heap.size + 1) w.heap.size s ∧ PInv s R N k ∧ Touch Nil w wr)
  case atStart => exact ⟨0, by omega, rfl, _, _, hP, hM2, PInv.fresh N, hT3⟩
  case round =>
    clear hP hM2 hT3
    obtain ⟨k, hgk, rfl, s, R, hP, hM, hI, hT⟩ := hrel
    by_cases hgo : k < len1 ∧ k < 60
    · obtain ⟨hg1, hg2⟩ := hgo
      rcases p1 with p1 | ⟨b1, o1, rfl, hb1, hc1⟩
      · omega
      have c0 := Plain.cell hc1 hb1 (hT.below (Nat.le_refl _) (fun _ e => e.elim)) k (by omega)
      have f0 := bounds_i64 (hc1 k (by omega)).2
      generalize z1.getD k 0 = y0 at c0 f0
      have k1 : (k : Int) < len1 := by omega
      have k2 : (k : Int) < 60 := by omega
      have hle := hI.rf_le (15 + y0.tdiv 4 % 15)
      go_upto_region 12 with (go_at_call 9; refine (within_any _ _ _ (by omega) (by omega)).mono ?_; rintro e wq ⟨rfl, rfl⟩)
      go_cut [43] (fun v wx => wr = wx ∧ v = .int .i64 (y0 % 4))
      case first =>
        go_wp2_with (go_at_call 9; refine (within_any _ _ _ (by omega) (by omega)).mono ?_; rintro e wq ⟨rfl, rfl⟩)
        go_meet
        exact ⟨rfl, rfl⟩
      case rest =>
      obtain ⟨rfl, rfl⟩ := hcut
      apply_assumption
      go_cut [43] (fun _ wx => ∃ s R, PoolAt wx (w.heap.size + 2) (w.heap.size + 1) R ∧ MemAt wx (w.heap.size + 1) w.heap.size s ∧ PInv s R N (k + 1) ∧ Touch Nil w wx)
      case first =>
        have hv : y0 % 4 = 0 ∨ y0 % 4 = 1 ∨ y0 % 4 = 2 ∨ y0 % 4 = 3 := by omega
        have hb2 : b1 < wr.heap.size := Nat.lt_of_lt_of_le hb1 hT.size
        rcases hv with hv | hv | hv | hv
        · rcases (show y0.tdiv 4 % 2 = 0 ∨ y0.tdiv 4 % 2 = 1 by omega) with hq | hq
          all_goals
            go_wp2_with (first
              | (go_at_call 9; refine (within_any _ _ _ (by omega) (by omega)).mono ?_; rintro e wq ⟨rfl, rfl⟩)
              | (go_at_call 13; refine (ptake_sums (hP.touch ((Touch.refl Nil _).alloc _) id) (hM.touch ((Touch.refl Nil _).alloc _) id id) hI (by omega)).mono ?_; rintro e w4 ⟨a, ok, s', R', hx, hP4, hM4, hI4, hT4⟩; subst hx))
            go_meet
            exact ⟨_, _, hP4, hM4, hI4, (hT.alloc _).transNew hT4 (fun i h e => by omega)⟩
        · rcases (show y0.tdiv 4 % 2 = 0 ∨ y0.tdiv 4 % 2 = 1 by omega) with hq | hq
          all_goals
            go_wp2_with (first
              | (go_at_call 9; refine (within_any _ _ _ (by omega) (by omega)).mono ?_; rintro e wq ⟨rfl, rfl⟩)
              | (go_at_call 13; refine (ptake_sums (hP.touch ((Touch.refl Nil _).alloc _) id) (hM.touch ((Touch.refl Nil _).alloc _) id id) hI (by omega)).mono ?_; rintro e w4 ⟨a, ok, s', R', hx, hP4, hM4, hI4, hT4⟩; subst hx))
            go_meet
            exact ⟨_, _, hP4, hM4, hI4, (hT.alloc _).transNew hT4 (fun i h e => by omega)⟩
        · go_wp2_with (go_at_call 17; refine (pshare_any hP _ (by omega)).mono ?_; rintro e w4 ⟨hx, hP4, hT4⟩; subst hx)
          go_meet
          exact ⟨_, _, hP4, hM.touch hT4 (by show ¬ _ = _; omega) (by show ¬ _ = _; omega), hI.share _, hT.transNew hT4 (fun i h e => by omega)⟩
        · go_wp2_with (go_at_call 16; refine (pgive_any hP hM _ (by omega)).mono ?_; rintro e w4 ⟨hx, hP4, hM4, hT4⟩; subst hx)
          go_meet
          exact ⟨_, _, hP4, hM4, hI.give _, hT.transNew hT4 (fun i h e => by omega)⟩
      case rest =>
      clear hP hM hI hT hle
      obtain ⟨s, R, hP, hM, hI, hT⟩ := hcut
      have hn := hI.n
      have hleft := hI.left hN1
      go_wp2
      go_loop [9, 10] (fun h i => ∃ j : Nat, j ≤ N ∧ h = .int .i64 (hadc R j) ∧ i = .int .i64 j) (fun _ i => N - (intOf i).toNat)
      case atStart => exact ⟨0, by omega, rfl, rfl⟩
      case round =>
        obtain ⟨j, hj, rfl, rfl⟩ := hrel
        have hjl := hadc_le R j
        by_cases hlt : j < N
        · have j1 : (j : Int) < N := by omega
          have e1 : rf R (j : Int) = R j := by unfold rf; rw [if_pos (by omega)]; rfl
          have e2 : s.cls (j : Int) = s.C j := s.cls_at j (by omega)
          have e3 : s.own (j : Int) = s.O j := by
            have : s.hasF (j : Int) = true := (s.hasF_iff _).2 (by omega)
            simp [MS.own, this]
          have i1 := hI.nn j
          have i2 := hI.cl j hlt
          have i3 := hI.ow j hlt
          have hst : hadc R (j + 1) = hadc R j + if 0 < R j then 1 else 0 := rfl
          by_cases hz : 0 < R j
          · have i2' := i2.1 hz
            have i3' := i3.1 hz
            rw [if_pos hz] at hst
            rw [i3'] at e3
            have t1 : (s.cls (j : Int) != 0) = true := by rw [e2]; simpa using i2'
            clear i2 i3 e2
            rw [← e1] at hz i1
            clear e1
            go_wp2_with (first
              | (go_at_call 18; refine (prefs_any hP _).mono ?_; rintro e wq ⟨rfl, rfl⟩)
              | (go_at_call 14; refine (class_any hM _).mono ?_; rintro e wq ⟨rfl, rfl⟩)
              | (go_at_call 15; refine (owner_any hM _).mono ?_; rintro e wq ⟨rfl, rfl⟩))
            go_round
            case rel => exact ⟨j + 1, by omega, by rw [hst]; go_num, by go_num⟩
            case measure => simp [intOf]; omega
          · have h0 : R j = 0 := by omega
            have i2' : s.C j = 0 := by
              by_cases q : s.C j = 0
              · exact q
              · exact absurd (i2.2 q) hz
            have i3' : s.O j ≠ 1 := fun q => hz (i3.2 q)
            rw [if_neg hz] at hst
            rw [i2'] at e2
            rw [h0] at e1
            have t1 : (s.own (j : Int) == 1) = false := by rw [e3]; simpa using i3'
            clear i2 i3 e3 hz
            go_wp2_with (first
              | (go_at_call 18; refine (prefs_any hP _).mono ?_; rintro e wq ⟨rfl, rfl⟩)
              | (go_at_call 14; refine (class_any hM _).mono ?_; rintro e wq ⟨rfl, rfl⟩)
              | (go_at_call 15; refine (owner_any hM _).mono ?_; rintro e wq ⟨rfl, rfl⟩))
            go_round
            case rel => exact ⟨j + 1, by omega, by rw [hst]; go_num, by go_num⟩
            case measure => simp [intOf]; omega
        · have hjN : j = N := by omega
          subst hjN
          have hl2 : (s.left : Int) = (j : Int) - 15 - hadc R j := by omega
          go_wp2_with (go_at_call 12; refine (pleft_any hP hM).mono ?_; rintro e wq ⟨rfl, rfl⟩)
          go_roundg (59 - k)
          case measure => omega
          case rel => exact ⟨k + 1, by omega, by go_num, s, R, hP, hM, hI, hT⟩
    · by_cases hl : k < len1
      · have k1 : (k : Int) < len1 := by omega
        have k2 : decide ((k : Int) < 60) = false := by simp; omega
        go_wp2_with (go_at_call 19; refine (wakes3_any _).mono ?_; rintro e w9 ⟨rfl, hT9⟩)
        go_ret
        exact ⟨rfl, (hT.transNew hT9 (fun _ _ e => e)).below (Nat.le_refl _) (fun _ e => e.elim)⟩
      · have k1 : decide ((k : Int) < len1) = false := by simp; omega
        go_wp2_with (go_at_call 19; refine (wakes3_any _).mono ?_; rintro e w9 ⟨rfl, hT9⟩)
        go_ret
        exact ⟨rfl, (hT.transNew hT9 (fun _ _ e => e)).below (Nat.le_refl _) (fun _ e => e.elim)⟩
end Go.Proofs.Ytbnojbccaalnaaa

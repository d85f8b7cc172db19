/-
  The walk of MemBounds.
-/
import Derived.Test.YtcjjjlbafpefpaaMemF
namespace Go.Proofs.Ytcjjjlbafpefpaa
open Go.ChangeShapes Go.WideShapes Go.ChangeAt Go.RowKit

theorem fresh_n (k : Nat) : (MS.fresh k).n = k := rfl

/-- Behind Mark, Zero and Copy of one frame: the marks. -/
def marked (k : Nat) (f o : Int) : MS := (((MS.fresh k).mark f 4 o).zero f).copy f f
theorem marked_n (k : Nat) (f o : Int) : (marked k f o).n = k := by
  unfold marked; rw [MS.copy_n, MS.zero_n, MS.mark_n]; rfl
theorem marked_cls (k : Nat) (f o g : Int) (h0 : 0 ≤ g) (h1 : g < k) : (marked k f o).cls g = if g = f then 4 else 0 := by
  have hg : (marked k f o).hasF g = true := (MS.hasF_iff _ _).2 ⟨h0, by rw [marked_n]; exact h1⟩
  simp only [MS.cls, hg, if_true]
  unfold marked
  rw [MS.copy_C, MS.zero_C]
  by_cases hf : 0 ≤ f ∧ f < k
  · have hm : (MS.fresh k).mayM f 4 = true := by simp [MS.mayM, MS.hasF, MS.fresh, hf]
    simp only [MS.mark, hm, if_true]
    by_cases e : g = f
    · simp [e]
    · rw [if_neg e, if_neg (by omega)]; rfl
  · have hm : (MS.fresh k).mayM f 4 = false := by
      have : (MS.fresh k).hasF f = false := (MS.hasF_no _ _).2 (by rw [fresh_n]; omega)
      simp [MS.mayM, this]
    simp only [MS.mark, hm, Bool.false_eq_true, if_false]
    rw [if_neg (by omega)]; rfl
theorem marked_own (k : Nat) (f o g : Int) (h0 : 0 ≤ g) (h1 : g < k) : (marked k f o).own g = if g = f then o else -1 := by
  have hg : (marked k f o).hasF g = true := (MS.hasF_iff _ _).2 ⟨h0, by rw [marked_n]; exact h1⟩
  simp only [MS.own, hg, if_true]
  unfold marked
  rw [MS.copy_O, MS.zero_O]
  by_cases hf : 0 ≤ f ∧ f < k
  · have hm : (MS.fresh k).mayM f 4 = true := by simp [MS.mayM, MS.hasF, MS.fresh, hf]
    simp only [MS.mark, hm, if_true]
    by_cases e : g = f
    · simp [e]
    · rw [if_neg e, if_neg (by omega)]; rfl
  · have hm : (MS.fresh k).mayM f 4 = false := by
      have : (MS.fresh k).hasF f = false := (MS.hasF_no _ _).2 (by rw [fresh_n]; omega)
      simp [MS.mayM, this]
    simp only [MS.mark, hm, Bool.false_eq_true, if_false]
    rw [if_neg (by omega)]; rfl

/-- May the frame be marked, and is it there? -/
theorem hasF_known (s : MS) (k : Nat) (f : Int) (i : Bool) (hn : s.n = k) (hi : i = (decide (0 ≤ f) && decide (f < k))) : s.hasF f = i := by
  unfold MS.hasF; rw [hn, hi]
theorem mayM_known (s : MS) (k : Nat) (f : Int) (i : Bool) (hn : s.n = k) (hi : i = (decide (0 ≤ f) && decide (f < k))) : s.mayM f 4 = i := by
  unfold MS.mayM; rw [hasF_known s k f i hn hi]; simp



set_option maxHeartbeats 4000000 in
theorem memBounds_walk (a0 a1 a2 : Int) (w : World) :
    Calls Try.prog 3 #[.int .i64 a0, .int .i64 a1, .int .i64 a2] w fun e w' => e = .returned (.bool true) ∧ Below w.heap.size w w' := by
  have q0 := Int.emod_nonneg a0 (b := 90) (by omega)
  have q1 := Int.emod_lt_of_pos a0 (b := 90) (by omega)
  have q2 := Int.emod_nonneg a1 (b := 80) (by omega)
  have q3 := Int.emod_lt_of_pos a1 (b := 80) (by omega)
  have hmm := many_min (a0 % 90 - 10)
  have hk := MS.many_le (a0 % 90 - 10)
  generalize hN : MS.many (a0 % 90 - 10) = k at hmm hk
  generalize hF : a1 % 80 - 5 = F
  have hFb : -5 ≤ F ∧ F < 75 := by omega
  have fn := fresh_n k
  have hin : (F < 0 ∧ false = (decide (0 ≤ F) && decide (F < k))) ∨ (0 ≤ F ∧ F < k ∧ true = (decide (0 ≤ F) && decide (F < k))) ∨ (0 ≤ F ∧ (k : Int) ≤ F ∧ false = (decide (0 ≤ F) && decide (F < k))) := by
    by_cases h1 : F < 0
    · left; exact ⟨h1, by simp; omega⟩
    · by_cases h2 : F < k
      · right; left; exact ⟨by omega, h2, by simp; omega⟩
      · right; right; exact ⟨by omega, by omega, by simp; omega⟩
  rcases hin with ⟨h1, hi⟩ | ⟨h1, h2, hi⟩ | ⟨h1, h2, hi⟩
  all_goals
    have m1 := mayM_known (MS.fresh k) k F _ rfl hi
    have m2 := hasF_known ((MS.fresh k).mark F 4 a2) k F _ (by rw [MS.mark_n]; rfl) hi
    have m3 := hasF_known (((MS.fresh k).mark F 4 a2).zero F) k F _ (by rw [MS.zero_n, MS.mark_n]; rfl) hi
    clear hi
    go_enter Try.func3, Try.ntmps3
    go_wp2_with (first
      | (go_at_call 8; refine (within_any _ _ _ (by omega) (by omega)).mono ?_; rintro e w1 ⟨rfl, hw⟩; subst hw)
      | (go_at_call 9; refine (new_any _ _).mono ?_; rintro e w1 ⟨rfl, hM, hT, hS⟩; rw [hN] at hM)
      | (go_at_call 10; refine (frames_any hM).mono ?_; rintro e w2 ⟨rfl, hw⟩; subst hw)
      | (go_at_call 11; refine (mark_any hM _ _ _).mono ?_; rintro e w2 ⟨rfl, hM2, hT2⟩)
      | (go_at_call 12; refine (zero_any hM2 _).mono ?_; rintro e w3 ⟨rfl, hM3, hT3⟩)
      | (go_at_call 13; refine (copy_any hM3 _ _).mono ?_; rintro e w4 ⟨rfl, hM4, hT4⟩))
    have hM5 : MemAt w4 _ _ (marked k F a2) := hM4
    have hT5 : Touch Nil _ w4 := ((hT.transNew hT2 (by intro i h e; omega)).transNew hT3 (by intro i h e; omega)).transNew hT4 (by intro i h e; omega)
    clear hM hM2 hM3 hM4 hT hT2 hT3 hT4 m1 m2 m3
    go_loop [10] (fun i => ∃ g : Nat, g ≤ k ∧ i = .int .i64 g) (fun i => k - (intOf i).toNat)
    case atStart => exact ⟨0, by omega, rfl⟩
    case round =>
      obtain ⟨g, hg, rfl⟩ := hrel
      by_cases hlt : g < k
      · have hlt' : (g : Int) < k := by omega
        have cc := marked_cls k F a2 g (by omega) hlt'
        have oo := marked_own k F a2 g (by omega) hlt'
        by_cases hgf : (g : Int) = F
        · rw [if_pos hgf] at cc oo
          first
          | (exfalso; omega)
          | (subst hgf
             go_wp2_with (first
              | (go_at_call 14; refine (class_any hM5 _).mono ?_; rintro e w6 ⟨rfl, hw⟩; subst hw)
              | (go_at_call 15; refine (owner_any hM5 _).mono ?_; rintro e w6 ⟨rfl, hw⟩; subst hw))
             go_round
             case rel => exact ⟨g + 1, by omega, by go_num⟩
             case measure => simp [intOf]; omega)
        · rw [if_neg hgf] at cc oo
          go_wp2_with (first
            | (go_at_call 14; refine (class_any hM5 _).mono ?_; rintro e w6 ⟨rfl, hw⟩; subst hw)
            | (go_at_call 15; refine (owner_any hM5 _).mono ?_; rintro e w6 ⟨rfl, hw⟩; subst hw))
          go_round
          case rel => exact ⟨g + 1, by omega, by go_num⟩
          case measure => simp [intOf]; omega
      · have hgk : g = k := by omega
        subst hgk
        have hnn := marked_n g F a2
        have r2 : (marked g F a2).hasW (8 * (g : Int)) = false := (MS.hasW_no _ _).2 (by rw [hnn]; omega)
        have r3 : (marked g F a2).write (8 * (g : Int)) 1 = marked g F a2 := by simp [MS.write, r2]
        have r4 : (marked g F a2).mayM 0 (-1) = false := by simp [MS.mayM]
        have hd : (0 < g ∧ (marked g F a2).hasW (8 * (g : Int) - 1) = true) ∨ (g = 0 ∧ (marked g F a2).hasW (8 * (g : Int) - 1) = false) := by
          by_cases h0 : 0 < g
          · exact Or.inl ⟨h0, (MS.hasW_iff _ _).2 (by rw [hnn]; omega)⟩
          · exact Or.inr ⟨by omega, (MS.hasW_no _ _).2 (by rw [hnn]; omega)⟩
        rcases hd with ⟨hd, r1⟩ | ⟨hd, r1⟩
        · have hd' : (0 : Int) < g := by omega
          go_wp2_with (first
            | (go_at_call 16; refine (read_any hM5 _ (by omega)).mono ?_; rintro e w6 ⟨rfl, hw⟩; subst hw)
            | (go_at_call 17; refine (write_any hM5 _ _ (by omega)).mono ?_; rintro e w7 ⟨rfl, hM7, hT7⟩; rw [r3] at hM7)
            | (go_at_call 11; refine (mark_any hM7 _ _ _).mono ?_; rintro e w8 ⟨rfl, hM8, hT8⟩)
            | (go_at_call 18; refine (wakes2_any _).mono ?_; rintro e w9 ⟨rfl, hT9⟩))
          go_ret
          exact ⟨rfl, (((hT5.transNew hT7 (by intro i h e; omega)).transNew hT8 (by intro i h e; omega)).transNew hT9 (by intro i h e; exact e.elim)).below (Nat.le_refl _) (fun _ e => e.elim)⟩
        · first
          | (exfalso; omega)
          | (subst hd
             clear r1 r2 r3
             have r1 : (marked 0 F a2).hasW (-1) = false := (MS.hasW_no _ _).2 (by omega)
             have r2 : (marked 0 F a2).hasW 0 = false := (MS.hasW_no _ _).2 (by rw [hnn]; omega)
             have r3 : (marked 0 F a2).write 0 1 = marked 0 F a2 := by simp [MS.write, r2]
             go_wp2_with (first
               | (go_at_call 16; refine (read_any hM5 _ (by omega)).mono ?_; rintro e w6 ⟨rfl, hw⟩; subst hw)
               | (go_at_call 17; refine (write_any hM5 _ _ (by omega)).mono ?_; rintro e w7 ⟨rfl, hM7, hT7⟩; rw [r3] at hM7)
               | (go_at_call 11; refine (mark_any hM7 _ _ _).mono ?_; rintro e w8 ⟨rfl, hM8, hT8⟩)
               | (go_at_call 18; refine (wakes2_any _).mono ?_; rintro e w9 ⟨rfl, hT9⟩))
             go_ret
             exact ⟨rfl, (((hT5.transNew hT7 (by intro i h e; omega)).transNew hT8 (by intro i h e; omega)).transNew hT9 (by intro i h e; exact e.elim)).below (Nat.le_refl _) (fun _ e => e.elim)⟩)
end Go.Proofs.Ytcjjjlbafpefpaa

/-
  What each call of package pool that writes comes to: one contract a function.
-/
import Derived.Test.YtfbmjagchjhddabPoolA
import Derived.BigRegion
namespace Go.Proofs.Ytfbmjagchjhddab
open Go.ChangeShapes Go.WideShapes Go.ChangeAt Go.RowKit

theorem rf_pos {R : Nat → Int} {f : Int} (h : 0 < rf R f) : 0 ≤ f ∧ f < 64 ∧ rf R f = R f.toNat := by
  unfold rf at h ⊢
  by_cases e : 0 ≤ f ∧ f < 64
  · rw [if_pos e]; exact ⟨e.1, e.2, rfl⟩
  · rw [if_neg e] at h; omega
theorem rf_rset (R : Nat → Int) (f x g : Int) (hf : 0 ≤ f) (h64 : f < 64) : rf (rset R f x) g = if g = f then x else rf R g := by
  unfold rf rset
  by_cases e : g = f
  · subst e; simp [hf, h64]
  · rw [if_neg e]
    by_cases hg : 0 ≤ g ∧ g < 64
    · rw [if_pos hg, if_pos hg, if_neg (by omega)]
    · rw [if_neg hg, if_neg hg]
/-- .. one more. -/
def rshare (R : Nat → Int) (f : Int) : Nat → Int := if 0 < rf R f then rset R f (rf R f + 1) else R
/-- .. one less. -/
def rgive (R : Nat → Int) (f : Int) : Nat → Int := if 0 < rf R f then rset R f (rf R f - 1) else R
/-- The memory behind it. -/
def MS.given (s : MS) (R : Nat → Int) (f : Int) : MS := if rf R f = 1 then (s.zero f).mark f 0 (-1) else s
theorem MS.given_n (s : MS) (R : Nat → Int) (f : Int) : (s.given R f).n = s.n := by
  unfold MS.given; split
  · rw [MS.mark_n, MS.zero_n]
  · rfl




/-- Frame f is the least that is free, from 15 on. -/
structure Least (s : MS) (f : Nat) : Prop where
  lo : 15 ≤ f
  hi : f < s.n
  free : s.C f = 0
  none : ∀ g, 15 ≤ g → g < f → s.C g ≠ 0
/-- None is free. -/
def NoneFree (s : MS) : Prop := ∀ g, 15 ≤ g → g < s.n → s.C g ≠ 0

theorem least_below (s : MS) : ∀ k, (∃ f, Least s f) ∨ ∀ g, 15 ≤ g → g < k → g < s.n → s.C g ≠ 0 := by
  intro k
  induction k with
  | zero => right; intro g _ h; omega
  | succ k ih =>
    rcases ih with h | h
    · exact Or.inl h
    · by_cases hk : 15 ≤ k ∧ k < s.n ∧ s.C k = 0
      · exact Or.inl ⟨k, hk.1, hk.2.1, hk.2.2, fun g h1 h2 => h g h1 h2 (by omega)⟩
      · right
        intro g h1 h2 h3
        by_cases e : g = k
        · subst e; exact fun e => hk ⟨h1, h3, e⟩
        · exact h g h1 (by omega) h3
theorem least_or (s : MS) : (∃ f, Least s f) ∨ NoneFree s := by
  rcases least_below s s.n with h | h
  · exact Or.inl h
  · exact Or.inr fun g h1 h2 => h g h1 h2 h2

set_option maxHeartbeats 400000 in
theorem ptake_class {w : World} (p : Nat) (k o : Int) (h1 : k ≠ 1) (h2 : k ≠ 2) :
    Calls Try.prog 46 #[.pointer (some ⟨p, 0, none⟩), .int .i64 k, .int .i64 o] w fun e w' => e = .returned (.tuple #[.int .i64 0, .bool false]) ∧ w = w' := by
  have e1 : (k != 1) = true := by simpa using h1
  have e2 : (k != 2) = true := by simpa using h2
  go_enter Try.func46, Try.ntmps46
  go_wp2
  go_ret2
  exact ⟨rfl, rfl⟩

set_option maxHeartbeats 1000000 in
theorem ptake_none {w : World} {p b c : Nat} {s : MS} {R : Nat → Int} (h : PoolAt w p b R) (m : MemAt w b c s) (k o : Int) (hN : NoneFree s) :
    Calls Try.prog 46 #[.pointer (some ⟨p, 0, none⟩), .int .i64 k, .int .i64 o] w fun e w' => e = .returned (.tuple #[.int .i64 0, .bool false]) ∧ w = w' := by
  by_cases hk : k = 1 ∨ k = 2
  · have h0 := h.top
    have hle := m.le
    rcases hk with rfl | rfl
    all_goals
      go_enter Try.func46, Try.ntmps46
      go_wp2
      go_loop [8] (fun f => ∃ k : Nat, k ≤ s.n - 15 ∧ f = .int .i64 (15 + (k : Int))) (fun f => s.n - (intOf f).toNat)
      case atStart => exact ⟨0, by omega, rfl⟩
      case round =>
        obtain ⟨k, hk, rfl⟩ := hrel
        by_cases hlt : 15 + k < s.n
        · have k1 : 15 + (k : Int) < s.n := by omega
          have hc : s.cls (15 + (k : Int)) = s.C (15 + k) := s.cls_at _ hlt
          have hz : (s.cls (15 + (k : Int)) == 0) = false := by rw [hc]; simpa using hN (15 + k) (by omega) hlt
          go_wp2_with (first
            | (go_at_call 44; refine (frames_any m).mono ?_; rintro e wq ⟨rfl, rfl⟩)
            | (go_at_call 45; refine (pfree_any h m _).mono ?_; rintro e wq ⟨rfl, rfl⟩))
          go_round
          case rel => exact ⟨k + 1, by omega, by go_num⟩
          case measure => simp [intOf]; omega
        · have k1 : (s.n : Int) ≤ 15 + (k : Int) := by omega
          go_wp2_with (go_at_call 44; refine (frames_any m).mono ?_; rintro e wq ⟨rfl, rfl⟩)
          go_ret2
          exact ⟨rfl, rfl⟩
  · exact ptake_class p k o (by omega) (by omega)

set_option maxHeartbeats 1000000 in
theorem ptake_least {w : World} {p b c : Nat} {s : MS} {R : Nat → Int} (h : PoolAt w p b R) (m : MemAt w b c s) (k o : Int) (hk : k = 1 ∨ k = 2) {f : Nat} (hL : Least s f) :
    Calls Try.prog 46 #[.pointer (some ⟨p, 0, none⟩), .int .i64 k, .int .i64 o] w fun e w' => e = .returned (.tuple #[.int .i64 f, .bool true]) ∧ PoolAt w' p b (rset R f 1) ∧ MemAt w' b c (s.mark f k o) ∧ Touch (fun x => x = p ∨ x = c) w w' := by
  have h0 := h.top
  have hle := m.le
  have hpc := h.nec m
  obtain ⟨l1, l2, l3, l4⟩ := hL
  rcases hk with rfl | rfl
  all_goals
    go_enter Try.func46, Try.ntmps46
    go_wp2
    go_loop [8] (fun i => ∃ k : Nat, 15 + k ≤ f ∧ i = .int .i64 (15 + (k : Int))) (fun i => s.n - (intOf i).toNat)
    case atStart => exact ⟨0, by omega, rfl⟩
    case round =>
      obtain ⟨k, hk, rfl⟩ := hrel
      have k1 : 15 + (k : Int) < s.n := by omega
      have hc : s.cls (15 + (k : Int)) = s.C (15 + k) := s.cls_at (15 + k) (by omega)
      by_cases hlt : 15 + k < f
      · have hz : (s.cls (15 + (k : Int)) == 0) = false := by rw [hc]; simpa using l4 (15 + k) (by omega) hlt
        go_wp2_with (first
          | (go_at_call 44; refine (frames_any m).mono ?_; rintro e wq ⟨rfl, rfl⟩)
          | (go_at_call 45; refine (pfree_any h m _).mono ?_; rintro e wq ⟨rfl, rfl⟩))
        go_round
        case rel => exact ⟨k + 1, by omega, by go_num⟩
        case measure => simp [intOf]; omega
      · have hkf : f = 15 + k := by omega
        subst hkf
        rw [l3] at hc
        have k2 : 15 + (k : Int) < 64 := by omega
        go_wp2_with (first
          | (go_at_call 44; refine (frames_any m).mono ?_; rintro e wq ⟨rfl, rfl⟩)
          | (go_at_call 45; refine (pfree_any h m _).mono ?_; rintro e wq ⟨rfl, rfl⟩)
          | (go_at_call 49; refine (mark_any m _ _ _).mono ?_; rintro e w2 ⟨hx2, hM2, hT2⟩; subst hx2; have hP2 := h.touch hT2 hpc; have hc2 := hP2.ref (i := (15 + k)) (by omega); have hfz := hP2.row.frozen (1 + (15 + k))))
        go_ret2
        have hS := hP2.set (15 + k) 1
        have hT3 : Touch (· = p) w2 (w2.setCell ⟨p, 1 + (15 + k), none⟩ (.int .i64 1)) := (Touch.refl (· = p) w2).setCell (p := ⟨p, 1 + (15 + k), none⟩) rfl _
        exact ⟨rfl, hS, hM2.touch hT3 (Ne.symm (h.neb m)) (Ne.symm hpc), (hT2.mono fun _ _ e => Or.inr e).trans (hT3.mono fun _ _ e => Or.inl e)⟩

theorem ptake_at {w : World} {p b c : Nat} {s : MS} {R : Nat → Int} (h : PoolAt w p b R) (m : MemAt w b c s) (k o : Int) (hk : k = 1 ∨ k = 2) {f : Nat} (hL : Least s f) (F : Int) (hF : (f : Int) = F) :
    Calls Try.prog 46 #[.pointer (some ⟨p, 0, none⟩), .int .i64 k, .int .i64 o] w fun e w' => e = .returned (.tuple #[.int .i64 F, .bool true]) ∧ PoolAt w' p b (rset R F 1) ∧ MemAt w' b c (s.mark F k o) ∧ Touch (fun x => x = p ∨ x = c) w w' := by
  subst hF; exact ptake_least h m k o hk hL
end Go.Proofs.Ytfbmjagchjhddab

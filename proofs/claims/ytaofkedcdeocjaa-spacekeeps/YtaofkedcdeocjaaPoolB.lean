/-
  What each call of package pool that writes comes to: one contract a function.
-/
import Derived.Test.YtaofkedcdeocjaaPoolA
import Derived.BigRegion
namespace Go.Proofs.Ytaofkedcdeocjaa
open Go.ChangeShapes Go.WideShapes Go.ChangeAt Go.RowKit

theorem rf_pos {R : Nat → Int} {f : Int} (h : 0 < rf R f) : 0 ≤ f ∧ f < 64 ∧ rf R f = R f.toNat := by
  unfold rf at h ⊢
  by_cases e : 0 ≤ f ∧ f < 64
  · rw [if_pos e]; exact ⟨e.1, e.2, rfl⟩
  · rw [if_neg e] at h; omega
theorem rf_rset (R : Nat → Int) (f x g : Int) (hf : 0 ≤ f) (h64 : f < 64) : rf (rset R f x) g = if g = f then x else rf R g := by
  unfold rf rset
  by_cases e : g = f
  · subst e; simp [hf, h64]
  · rw [if_neg e]
    by_cases hg : 0 ≤ g ∧ g < 64
    · rw [if_pos hg, if_pos hg, if_neg (by omega)]
    · rw [if_neg hg, if_neg hg]
/-- .. one more. -/
def rshare (R : Nat → Int) (f : Int) : Nat → Int := if 0 < rf R f then rset R f (rf R f + 1) else R
/-- .. one less. -/
def rgive (R : Nat → Int) (f : Int) : Nat → Int := if 0 < rf R f then rset R f (rf R f - 1) else R
/-- The memory behind it. -/
def MS.given (s : MS) (R : Nat → Int) (f : Int) : MS := if rf R f = 1 then (s.zero f).mark f 0 (-1) else s
theorem MS.given_n (s : MS) (R : Nat → Int) (f : Int) : (s.given R f).n = s.n := by
  unfold MS.given; split
  · rw [MS.mark_n, MS.zero_n]
  · rfl



set_option maxHeartbeats 1000000 in
theorem pgive_any {w : World} {p b c : Nat} {s : MS} {R : Nat → Int} (h : PoolAt w p b R) (m : MemAt w b c s) (f : Int) (hb : rf R f < 9223372036854775807) :
    Calls Try.prog 62 #[.pointer (some ⟨p, 0, none⟩), .int .i64 f] w fun e w' => e = .returned (.bool (decide (0 < rf R f))) ∧ PoolAt w' p b (rgive R f) ∧ MemAt w' b c (s.given R f) ∧ Touch (fun x => x = p ∨ x = c) w w' := by
  by_cases h1 : 0 < rf R f
  · obtain ⟨g0, g1, hr⟩ := rf_pos h1
    have hpb := h.neb m
    have hpc := h.nec m
    have hd : decide (0 < rf R f) = true := by simpa using h1
    have he : rgive R f = rset R f (rf R f - 1) := if_pos h1
    have hs : PoolAt _ p b (rset R f (rf R f - 1)) := (h.set f.toNat (rf R f - 1)).drew
    have ht : Touch (fun x => x = p ∨ x = c) w (w.setCell ⟨p, 1 + f.toNat, none⟩ (.int .i64 (rf R f - 1))).drew := ((Touch.refl _ _).setCell (Or.inl rfl) _).drew
    have hm : MemAt (w.setCell ⟨p, 1 + f.toNat, none⟩ (.int .i64 (rf R f - 1))).drew b c s := m.touch (((Touch.refl (· = p) _).setCell rfl _).drew) (Ne.symm hpb) (Ne.symm hpc)
    rw [hd, he]
    have hc := h.ref (i := f.toNat) (by omega)
    rw [← hr] at hc
    have hfz := h.row.frozen (1 + f.toNat)
    have hc2 := hs.ref (i := f.toNat) (by omega)
    have hc2' : rset R f (rf R f - 1) f.toNat = rf R f - 1 := by simp [rset]
    rw [hc2'] at hc2
    have ht2 := hs.top
    by_cases hx : rf R f = 1
    · have hg : s.given R f = (s.zero f).mark f 0 (-1) := if_pos hx
      rw [hg]
      rw [hx] at hs ht hm hc hc2 ht2 hd ⊢
      clear hc2' he h1 hg hr
      go_enter Try.func62, Try.ntmps62
      go_wp2_with (go_at_call 91; refine (ptaken_any h _).mono ?_; rintro e wq ⟨rfl, rfl⟩)
      go_region
      have hs' : PoolAt (w.setCell ⟨p, 1 + f.toNat, none⟩ (.int .i64 0)).drew p b _ := hs
      have hm' : MemAt (w.setCell ⟨p, 1 + f.toNat, none⟩ (.int .i64 0)).drew b c s := hm
      have ht' : Touch (fun x => x = p ∨ x = c) w (w.setCell ⟨p, 1 + f.toNat, none⟩ (.int .i64 0)).drew := ht
      have hc2' : (w.setCell ⟨p, 1 + f.toNat, none⟩ (.int .i64 0)).drew.cell? _ = some (.int .i64 0) := hc2
      have ht2' : (w.setCell ⟨p, 1 + f.toNat, none⟩ (.int .i64 0)).drew.cell? _ = _ := ht2
      clear hs hm ht hc2 ht2
      generalize (w.setCell ⟨p, 1 + f.toNat, none⟩ (.int .i64 0)).drew = w1 at *
      go_wp2_with (first
        | (go_at_call 45; refine (zero_any hm' _).mono ?_; rintro e w2 ⟨hx2, hM2, hT2⟩; subst hx2; have hP2 := hs'.touch hT2 hpc; have ht3 := hP2.top)
        | (go_at_call 84; refine (mark_any hM2 _ _ _).mono ?_; rintro e w3 ⟨hx3, hM3, hT3⟩; subst hx3))
      go_ret
      exact ⟨rfl, hP2.touch hT3 hpc, hM3, (ht'.trans (hT2.mono fun _ _ e => Or.inr e)).trans (hT3.mono fun _ _ e => Or.inr e)⟩
    · have hg : s.given R f = s := if_neg hx
      rw [hg]
      have hne : (rf R f - 1 == 0) = false := by simp; omega
      clear hc2' he hg hr
      go_enter Try.func62, Try.ntmps62
      go_wp2_with (go_at_call 91; refine (ptaken_any h _).mono ?_; rintro e wq ⟨rfl, rfl⟩)
      go_region
      generalize (w.setCell ⟨p, 1 + f.toNat, none⟩ (.int .i64 (rf R f - 1))).drew = w1 at *
      go_wp2
      go_ret
      exact ⟨rfl, hs, hm, ht⟩
  · have hd : decide (0 < rf R f) = false := by simpa using h1
    have he : rgive R f = R := if_neg h1
    have hg : s.given R f = s := if_neg (by omega)
    rw [hd, he, hg]
    go_enter Try.func62, Try.ntmps62
    go_wp2_with (go_at_call 91; refine (ptaken_any h _).mono ?_; rintro e wq ⟨rfl, rfl⟩)
    go_ret
    exact ⟨rfl, h, m, Touch.refl _ _⟩

/-- Frame f is the least that is free, from 15 on. -/
structure Least (s : MS) (f : Nat) : Prop where
  lo : 15 ≤ f
  hi : f < s.n
  free : s.C f = 0
  none : ∀ g, 15 ≤ g → g < f → s.C g ≠ 0
/-- None is free. -/
def NoneFree (s : MS) : Prop := ∀ g, 15 ≤ g → g < s.n → s.C g ≠ 0

theorem least_below (s : MS) : ∀ k, (∃ f, Least s f) ∨ ∀ g, 15 ≤ g → g < k → g < s.n → s.C g ≠ 0 := by
  intro k
  induction k with
  | zero => right; intro g _ h; omega
  | succ k ih =>
    rcases ih with h | h
    · exact Or.inl h
    · by_cases hk : 15 ≤ k ∧ k < s.n ∧ s.C k = 0
      · exact Or.inl ⟨k, hk.1, hk.2.1, hk.2.2, fun g h1 h2 => h g h1 h2 (by omega)⟩
      · right
        intro g h1 h2 h3
        by_cases e : g = k
        · subst e; exact fun e => hk ⟨h1, h3, e⟩
        · exact h g h1 (by omega) h3
theorem least_or (s : MS) : (∃ f, Least s f) ∨ NoneFree s := by
  rcases least_below s s.n with h | h
  · exact Or.inl h
  · exact Or.inr fun g h1 h2 => h g h1 h2 h2

set_option maxHeartbeats 400000 in
theorem ptake_class {w : World} (p : Nat) (k o : Int) (h1 : k ≠ 1) (h2 : k ≠ 2) :
    Calls Try.prog 85 #[.pointer (some ⟨p, 0, none⟩), .int .i64 k, .int .i64 o] w fun e w' => e = .returned (.tuple #[.int .i64 0, .bool false]) ∧ w = w' := by
  have e1 : (k != 1) = true := by simpa using h1
  have e2 : (k != 2) = true := by simpa using h2
  go_enter Try.func85, Try.ntmps85
  go_wp2
  go_ret2
  exact ⟨rfl, rfl⟩

set_option maxHeartbeats 1000000 in
theorem ptake_none {w : World} {p b c : Nat} {s : MS} {R : Nat → Int} (h : PoolAt w p b R) (m : MemAt w b c s) (k o : Int) (hN : NoneFree s) :
    Calls Try.prog 85 #[.pointer (some ⟨p, 0, none⟩), .int .i64 k, .int .i64 o] w fun e w' => e = .returned (.tuple #[.int .i64 0, .bool false]) ∧ w = w' := by
  by_cases hk : k = 1 ∨ k = 2
  · have h0 := h.top
    have hle := m.le
    rcases hk with rfl | rfl
    all_goals
      go_enter Try.func85, Try.ntmps85
      go_wp2
      go_loop [8] (fun f => ∃ k : Nat, k ≤ s.n - 15 ∧ f = .int .i64 (15 + (k : Int))) (fun f => s.n - (intOf f).toNat)
      case atStart => exact ⟨0, by omega, rfl⟩
      case round =>
        obtain ⟨k, hk, rfl⟩ := hrel
        by_cases hlt : 15 + k < s.n
        · have k1 : 15 + (k : Int) < s.n := by omega
          have hc : s.cls (15 + (k : Int)) = s.C (15 + k) := s.cls_at _ hlt
          have hz : (s.cls (15 + (k : Int)) == 0) = false := by rw [hc]; simpa using hN (15 + k) (by omega) hlt
          go_wp2_with (first
            | (go_at_call 51; refine (frames_any m).mono ?_; rintro e wq ⟨rfl, rfl⟩)
            | (go_at_call 52; refine (pfree_any h m _).mono ?_; rintro e wq ⟨rfl, rfl⟩))
          go_round
          case rel => exact ⟨k + 1, by omega, by go_num⟩
          case measure => simp [intOf]; omega
        · have k1 : (s.n : Int) ≤ 15 + (k : Int) := by omega
          go_wp2_with (go_at_call 51; refine (frames_any m).mono ?_; rintro e wq ⟨rfl, rfl⟩)
          go_ret2
          exact ⟨rfl, rfl⟩
  · exact ptake_class p k o (by omega) (by omega)

set_option maxHeartbeats 1000000 in
theorem ptake_least {w : World} {p b c : Nat} {s : MS} {R : Nat → Int} (h : PoolAt w p b R) (m : MemAt w b c s) (k o : Int) (hk : k = 1 ∨ k = 2) {f : Nat} (hL : Least s f) :
    Calls Try.prog 85 #[.pointer (some ⟨p, 0, none⟩), .int .i64 k, .int .i64 o] w fun e w' => e = .returned (.tuple #[.int .i64 f, .bool true]) ∧ PoolAt w' p b (rset R f 1) ∧ MemAt w' b c (s.mark f k o) ∧ Touch (fun x => x = p ∨ x = c) w w' := by
  have h0 := h.top
  have hle := m.le
  have hpc := h.nec m
  obtain ⟨l1, l2, l3, l4⟩ := hL
  rcases hk with rfl | rfl
  all_goals
    go_enter Try.func85, Try.ntmps85
    go_wp2
    go_loop [8] (fun i => ∃ k : Nat, 15 + k ≤ f ∧ i = .int .i64 (15 + (k : Int))) (fun i => s.n - (intOf i).toNat)
    case atStart => exact ⟨0, by omega, rfl⟩
    case round =>
      obtain ⟨k, hk, rfl⟩ := hrel
      have k1 : 15 + (k : Int) < s.n := by omega
      have hc : s.cls (15 + (k : Int)) = s.C (15 + k) := s.cls_at (15 + k) (by omega)
      by_cases hlt : 15 + k < f
      · have hz : (s.cls (15 + (k : Int)) == 0) = false := by rw [hc]; simpa using l4 (15 + k) (by omega) hlt
        go_wp2_with (first
          | (go_at_call 51; refine (frames_any m).mono ?_; rintro e wq ⟨rfl, rfl⟩)
          | (go_at_call 52; refine (pfree_any h m _).mono ?_; rintro e wq ⟨rfl, rfl⟩))
        go_round
        case rel => exact ⟨k + 1, by omega, by go_num⟩
        case measure => simp [intOf]; omega
      · have hkf : f = 15 + k := by omega
        subst hkf
        rw [l3] at hc
        have k2 : 15 + (k : Int) < 64 := by omega
        go_wp2_with (first
          | (go_at_call 51; refine (frames_any m).mono ?_; rintro e wq ⟨rfl, rfl⟩)
          | (go_at_call 52; refine (pfree_any h m _).mono ?_; rintro e wq ⟨rfl, rfl⟩)
          | (go_at_call 84; refine (mark_any m _ _ _).mono ?_; rintro e w2 ⟨hx2, hM2, hT2⟩; subst hx2; have hP2 := h.touch hT2 hpc; have hc2 := hP2.ref (i := (15 + k)) (by omega); have hfz := hP2.row.frozen (1 + (15 + k))))
        go_ret2
        have hS := hP2.set (15 + k) 1
        have hT3 : Touch (· = p) w2 (w2.setCell ⟨p, 1 + (15 + k), none⟩ (.int .i64 1)) := (Touch.refl (· = p) w2).setCell (p := ⟨p, 1 + (15 + k), none⟩) rfl _
        exact ⟨rfl, hS, hM2.touch hT3 (Ne.symm (h.neb m)) (Ne.symm hpc), (hT2.mono fun _ _ e => Or.inr e).trans (hT3.mono fun _ _ e => Or.inl e)⟩

theorem ptake_at {w : World} {p b c : Nat} {s : MS} {R : Nat → Int} (h : PoolAt w p b R) (m : MemAt w b c s) (k o : Int) (hk : k = 1 ∨ k = 2) {f : Nat} (hL : Least s f) (F : Int) (hF : (f : Int) = F) :
    Calls Try.prog 85 #[.pointer (some ⟨p, 0, none⟩), .int .i64 k, .int .i64 o] w fun e w' => e = .returned (.tuple #[.int .i64 F, .bool true]) ∧ PoolAt w' p b (rset R F 1) ∧ MemAt w' b c (s.mark F k o) ∧ Touch (fun x => x = p ∨ x = c) w w' := by
  subst hF; exact ptake_least h m k o hk hL
end Go.Proofs.Ytaofkedcdeocjaa

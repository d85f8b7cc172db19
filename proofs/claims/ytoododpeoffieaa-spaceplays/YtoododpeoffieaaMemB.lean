/-
  What each call of package mem that writes comes to: one contract a function.
-/
import Derived.Test.YtoododpeoffieaaMemA
import Derived.BigRegion
import Derived.Deep.RegionHeld3
namespace Go.Proofs.Ytoododpeoffieaa
open Go.ChangeShapes Go.WideShapes Go.ChangeAt Go.RowKit

theorem MS.write_n (s : MS) (a x : Int) : (s.write a x).n = s.n := by unfold MS.write; split <;> rfl
theorem MS.zero_n (s : MS) (f : Int) : (s.zero f).n = s.n := by unfold MS.zero; split <;> rfl
theorem MS.copy_n (s : MS) (f t : Int) : (s.copy f t).n = s.n := by unfold MS.copy; split <;> rfl
theorem MS.mark_n (s : MS) (f c o : Int) : (s.mark f c o).n = s.n := by unfold MS.mark; split <;> rfl

theorem MemAt.drew {w : World} {b c : Nat} {s : MS} (h : MemAt w b c s) : MemAt w.drew b c s := ⟨h.ne, h.le, h.top, h.row⟩

theorem MemAt.write {w : World} {b c : Nat} {s : MS} (h : MemAt w b c s) (a x : Int) (hw : s.hasW a = true) : MemAt (w.setCell ⟨c, a.toNat / 8 * 10 + a.toNat % 8, none⟩ (.int .u64 x)) b c (s.write a x) := by
  have hn := s.write_n a x
  refine ⟨h.ne, by rw [hn]; exact h.le, by rw [hn]; exact h.top.imp fun _ x => x.setOther h.ne _, ?_⟩
  rw [hn]
  refine (h.row.set _ _).congr fun i _ => ?_
  simp only [MS.write, hw, if_true]
  unfold MS.cell
  by_cases e : i = a.toNat / 8 * 10 + a.toNat % 8
  · have h1 : i % 10 < 8 := by omega
    have h2 : i / 10 * 8 + i % 10 = a.toNat := by omega
    rw [if_pos e, if_pos h1]; simp only [h2, if_true]
  · rw [if_neg e]
    by_cases h1 : i % 10 < 8
    · rw [if_pos h1, if_pos h1]
      have h2 : i / 10 * 8 + i % 10 ≠ a.toNat := by omega
      simp only [h2, if_false]
    · rw [if_neg h1, if_neg h1]

set_option maxHeartbeats 400000 in
theorem write_any {w : World} {b c : Nat} {s : MS} (h : MemAt w b c s) (a x : Int) (hi : a < 9223372036854775808) :
    Calls Try.prog 55 #[.pointer (some ⟨b, 0, none⟩), .int .i64 a, .int .u64 x] w fun e w' => e = .returned (.bool (s.hasW a)) ∧ MemAt w' b c (s.write a x) ∧ Touch (· = c) w w' := by
  cases hw : s.hasW a
  · have hr : s.write a x = s := by simp [MS.write, hw]
    rw [hr]
    go_enter Try.func55, Try.ntmps55
    go_wp2_with (go_at_call 61; refine (word_no h _ hi hw).mono ?_; rintro e w' ⟨rfl, rfl⟩)
    go_ret
    exact ⟨rfl, h, Touch.refl _ _⟩
  · have hb := (s.hasW_iff a).1 hw
    have hc := h.row.cell (i := a.toNat / 8 * 10 + a.toNat % 8) (by omega)
    have hf := h.row.frozen (a.toNat / 8 * 10 + a.toNat % 8)
    go_enter Try.func55, Try.ntmps55
    go_wp2_with (go_at_call 61; refine (word_yes h _ hw).mono ?_; rintro e w' ⟨rfl, rfl⟩)
    go_ret
    exact ⟨rfl, h.write a x hw, (Touch.refl (· = c) _).setCell rfl _⟩


/-- Words of a frame, all at once. -/
def ws8 (g : Nat → Int) : List Value := [.int .u64 (g 0), .int .u64 (g 1), .int .u64 (g 2), .int .u64 (g 3), .int .u64 (g 4), .int .u64 (g 5), .int .u64 (g 6), .int .u64 (g 7)]
theorem ws8_get (g : Nat → Int) (j : Nat) (h : j < 8) : (ws8 g)[j]? = some (.int .u64 (g j)) := by
  have : j = 0 ∨ j = 1 ∨ j = 2 ∨ j = 3 ∨ j = 4 ∨ j = 5 ∨ j = 6 ∨ j = 7 := by omega
  rcases this with rfl | rfl | rfl | rfl | rfl | rfl | rfl | rfl <;> rfl
theorem ws8_none (g : Nat → Int) (j : Nat) (h : 8 ≤ j) : (ws8 g)[j]? = none := List.getElem?_eq_none h

theorem MemAt.words {w : World} {b c : Nat} {s s' : MS} (h : MemAt w b c s) (f : Nat) (g : Nat → Int) (hn : s'.n = s.n) (hC : s'.C = s.C) (hO : s'.O = s.O)
    (hW : ∀ i, s'.W i = if i / 8 = f then g (i % 8) else s.W i) : MemAt (w.setCells c (f * 10) (ws8 g)) b c s' := by
  refine ⟨h.ne, by rw [hn]; exact h.le, by rw [hn]; exact h.top.imp fun _ x => rowIs_setCells_other x h.ne _ _, ?_⟩
  rw [hn]
  refine (h.row.setCells _ _).congr fun i _ => ?_
  unfold MS.cell
  rw [hC, hO]
  by_cases h1 : f * 10 ≤ i
  · rw [if_pos h1]
    by_cases h2 : i - f * 10 < 8
    · rw [ws8_get _ _ h2]
      simp only [Option.getD_some]
      rw [if_pos (show i % 10 < 8 by omega), hW, if_pos (show (i / 10 * 8 + i % 10) / 8 = f by omega), show (i / 10 * 8 + i % 10) % 8 = i - f * 10 by omega]
    · rw [ws8_none _ _ (by omega)]
      simp only [Option.getD_none]
      by_cases h3 : i % 10 < 8
      · rw [if_pos h3, if_pos h3, hW, if_neg (by omega)]
      · rw [if_neg h3, if_neg h3]
  · rw [if_neg h1]
    by_cases h3 : i % 10 < 8
    · rw [if_pos h3, if_pos h3, hW, if_neg (by omega)]
    · rw [if_neg h3, if_neg h3]

set_option maxHeartbeats 400000 in
theorem zero_any {w : World} {b c : Nat} {s : MS} (h : MemAt w b c s) (f : Int) :
    Calls Try.prog 70 #[.pointer (some ⟨b, 0, none⟩), .int .i64 f] w fun e w' => e = .returned (.bool (s.hasF f)) ∧ MemAt w' b c (s.zero f) ∧ Touch (· = c) w w' := by
  obtain ⟨cap, htop⟩ := h.top
  have h0 := htop.cell (i := 0) (by omega)
  cases hw : s.hasF f
  · have hr : s.zero f = s := by simp [MS.zero, hw]
    rw [hr]
    go_enter Try.func70, Try.ntmps70
    go_wp2_with (go_at_call 62; refine (has_any h _).mono ?_; rintro e w' ⟨rfl, rfl⟩)
    go_ret
    exact ⟨rfl, h, Touch.refl _ _⟩
  · obtain ⟨b1, b2⟩ := (s.hasF_iff f).1 hw
    have hle := h.le
    have ht : w.there c (f.toNat * 10) 8 := h.row.there _ _ (by omega)
    have hz : MemAt (w.setCells c (f.toNat * 10) (ws8 fun _ => 0)) b c (s.zero f) :=
      h.words f.toNat (fun _ => 0) (s.zero_n f) (by simp [MS.zero, hw]) (by simp [MS.zero, hw]) (fun i => by simp [MS.zero, hw])
    go_enter Try.func70, Try.ntmps70
    go_wp2_with (first
      | (go_at_call 62; refine (has_any h _).mono ?_; rintro e w' ⟨rfl, rfl⟩)
      | (refine wpList_store_mid rfl 67 _ _ rfl c (f.toNat * 10) (ws8 fun _ => 0).toArray rfl rfl ht (by kernel_rfl) (by kernel_rfl) ?_))
    go_ret
    exact ⟨rfl, hz, (Touch.refl (· = c) _).setCells rfl _ _⟩

theorem cells8 {w : World} {b c : Nat} {s : MS} (h : MemAt w b c s) (f : Nat) (hf : f < s.n) (k : Nat) (hk : k < 8) :
    w.cell? ⟨c, f * 10 + k, none⟩ = some (.int .u64 (s.W (f * 8 + k))) := by
  rw [h.row.cell (by omega), s.cell_word _ _ hk]

theorem MemAt.mark {w : World} {b c : Nat} {s : MS} (h : MemAt w b c s) (f k o : Int) (hm : s.mayM f k = true) :
    MemAt ((w.setCell ⟨c, f.toNat * 10 + 8, none⟩ (.int .i64 k)).setCell ⟨c, f.toNat * 10 + 9, none⟩ (.int .i64 o)) b c (s.mark f k o) := by
  have hn := s.mark_n f k o
  refine ⟨h.ne, by rw [hn]; exact h.le, by rw [hn]; exact h.top.imp fun _ x => (x.setOther h.ne _).setOther h.ne _, ?_⟩
  rw [hn]
  refine ((h.row.set _ _).set _ _).congr fun i _ => ?_
  simp only [MS.mark, hm, if_true]
  unfold MS.cell
  simp only []
  by_cases h1 : i % 10 < 8
  · rw [if_neg (show ¬ i = f.toNat * 10 + 9 by omega), if_neg (show ¬ i = f.toNat * 10 + 8 by omega), if_pos h1, if_pos h1]
  · rw [if_neg h1, if_neg h1]
    by_cases h2 : i % 10 = 8
    · rw [if_neg (show ¬ i = f.toNat * 10 + 9 by omega), if_pos h2, if_pos h2]
      by_cases h3 : i / 10 = f.toNat
      · rw [if_pos (show i = f.toNat * 10 + 8 by omega), if_pos h3]
      · rw [if_neg (show ¬ i = f.toNat * 10 + 8 by omega), if_neg h3]
    · rw [if_neg h2, if_neg h2, if_neg (show ¬ i = f.toNat * 10 + 8 by omega)]
      by_cases h3 : i / 10 = f.toNat
      · rw [if_pos (show i = f.toNat * 10 + 9 by omega), if_pos h3]
      · rw [if_neg (show ¬ i = f.toNat * 10 + 9 by omega), if_neg h3]

set_option maxHeartbeats 1000000 in
theorem mark_any {w : World} {b c : Nat} {s : MS} (h : MemAt w b c s) (f k o : Int) :
    Calls Try.prog 60 #[.pointer (some ⟨b, 0, none⟩), .int .i64 f, .int .i64 k, .int .i64 o] w fun e w' => e = .returned (.bool (s.mayM f k)) ∧ MemAt w' b c (s.mark f k o) ∧ Touch (· = c) w w' := by
  cases hm : s.mayM f k
  · have hr : s.mark f k o = s := by simp [MS.mark, hm]
    rw [hr]
    cases hf : s.hasF f
    · go_enter Try.func60, Try.ntmps60
      go_wp2_with (go_at_call 62; refine (has_any h _).mono ?_; rintro e w' ⟨rfl, rfl⟩)
      go_ret
      exact ⟨rfl, h, Touch.refl _ _⟩
    · have hk : k < 0 ∨ 5 < k := by simp [MS.mayM, hf] at hm; omega
      by_cases h1 : k < 0
      · go_enter Try.func60, Try.ntmps60
        go_wp2_with (go_at_call 62; refine (has_any h _).mono ?_; rintro e w' ⟨rfl, rfl⟩)
        go_ret
        exact ⟨rfl, h, Touch.refl _ _⟩
      · have h2 : 5 < k := by omega
        go_enter Try.func60, Try.ntmps60
        go_wp2_with (go_at_call 62; refine (has_any h _).mono ?_; rintro e w' ⟨rfl, rfl⟩)
        go_ret
        exact ⟨rfl, h, Touch.refl _ _⟩
  · have hm' := hm
    simp only [MS.mayM, Bool.and_eq_true, decide_eq_true_eq] at hm'
    obtain ⟨⟨hf, k1⟩, k2⟩ := hm'
    obtain ⟨b1, b2⟩ := (s.hasF_iff f).1 hf
    obtain ⟨cap, htop⟩ := h.top
    have h0 := htop.cell (i := 0) (by omega)
    have hle := h.le
    have q8 := h.row.cell (i := f.toNat * 10 + 8) (by omega)
    have q9 := h.row.cell (i := f.toNat * 10 + 9) (by omega)
    have hfr : ∀ o, w.frozen? ⟨c, o, none⟩ = false := h.row.frozen
    have hne : b ≠ c := h.ne
    have h0' := (htop.setOther (a := ⟨c, f.toNat * 10 + 8, none⟩) h.ne (.int .i64 k)).cell (i := 0) (by omega)
    go_enter Try.func60, Try.ntmps60
    go_wp2_with (go_at_call 62; refine (has_any h _).mono ?_; rintro e w' ⟨rfl, rfl⟩)
    go_ret
    exact ⟨rfl, h.mark f k o hm, ((Touch.refl (· = c) _).setCell rfl _).setCell rfl _⟩

end Go.Proofs.Ytoododpeoffieaa

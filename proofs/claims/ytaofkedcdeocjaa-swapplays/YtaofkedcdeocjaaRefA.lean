/-
  The document's own memory (penumbraref01): one contract a function.
-/
import Derived.Test.YtaofkedcdeocjaaMemF
import Derived.BigRegion
namespace Go.Proofs.Ytaofkedcdeocjaa
open Go.ChangeShapes Go.WideShapes Go.ChangeAt Go.RowKit

/-- The document's memory lies at b; its words, classes, owners at cw, cc, co. -/
structure RefAt (w : World) (b cw cc co : Nat) (s : MS) : Prop where
  le : s.n ≤ 64
  bw : b ≠ cw
  bc : b ≠ cc
  bo : b ≠ co
  wc : cw ≠ cc
  wo : cw ≠ co
  co' : cc ≠ co
  top : w.rowIs b 119 3 (fun i => if i = 0 then .slice (some ⟨cw, 0, none⟩) (s.n * 8) (s.n * 8) else if i = 1 then .slice (some ⟨cc, 0, none⟩) s.n s.n else .slice (some ⟨co, 0, none⟩) s.n s.n)
  rw' : w.rowIs cw 23 (s.n * 8) (fun i => .int .u64 (s.W i))
  rc : w.rowIs cc 3 s.n (fun i => .int .i64 (s.C i))
  ro : w.rowIs co 3 s.n (fun i => .int .i64 (s.O i))

theorem RefAt.touch {S : Nat → Prop} {w w' : World} {b cw cc co : Nat} {s : MS} (h : RefAt w b cw cc co s) (t : Touch S w w') (h0 : ¬ S b) (h1 : ¬ S cw) (h2 : ¬ S cc) (h3 : ¬ S co) : RefAt w' b cw cc co s :=
  ⟨h.le, h.bw, h.bc, h.bo, h.wc, h.wo, h.co', t.row h.top h0, t.row h.rw' h1, t.row h.rc h2, t.row h.ro h3⟩
theorem RefAt.drew {w : World} {b cw cc co : Nat} {s : MS} (h : RefAt w b cw cc co s) : RefAt w.drew b cw cc co s :=
  ⟨h.le, h.bw, h.bc, h.bo, h.wc, h.wo, h.co', h.top, h.rw', h.rc, h.ro⟩

set_option maxHeartbeats 400000 in
theorem rframes_any {w : World} {b cw cc co : Nat} {s : MS} (h : RefAt w b cw cc co s) :
    Calls Try.prog 65 #[.pointer (some ⟨b, 0, none⟩)] w fun e w' => e = .returned (.int .i64 s.n) ∧ w = w' := by
  have h1 := h.top.cell (i := 1) (by omega)
  have hle := h.le
  go_enter Try.func65, Try.ntmps65
  go_wp2
  go_ret
  exact ⟨rfl, rfl⟩

set_option maxHeartbeats 400000 in
theorem rhas_any {w : World} {b cw cc co : Nat} {s : MS} (h : RefAt w b cw cc co s) (f : Int) :
    Calls Try.prog 82 #[.pointer (some ⟨b, 0, none⟩), .int .i64 f] w fun e w' => e = .returned (.bool (s.hasF f)) ∧ w = w' := by
  have h0 := h.top.cell (i := 1) (by omega)
  have hle := h.le
  by_cases h1 : 0 ≤ f
  · go_enter Try.func82, Try.ntmps82
    go_wp2
    go_ret
    exact ⟨ret_bool (by simp [MS.hasF, h1]), rfl⟩
  · go_enter Try.func82, Try.ntmps82
    go_wp2
    go_ret
    exact ⟨ret_bool (by rw [eq_comm, MS.hasF_no]; omega), rfl⟩

theorem hasW_three (s : MS) (a : Int) : (a < 0 ∧ s.hasW a = false) ∨ (0 ≤ a ∧ a < ((s.n * 8 : Nat) : Int) ∧ s.hasW a = true) ∨ (0 ≤ a ∧ ((s.n * 8 : Nat) : Int) ≤ a ∧ s.hasW a = false) := by
  by_cases h1 : a < 0
  · exact Or.inl ⟨h1, (s.hasW_no a).2 (by omega)⟩
  · by_cases h2 : a < ((s.n * 8 : Nat) : Int)
    · exact Or.inr (Or.inl ⟨by omega, h2, (s.hasW_iff a).2 (by omega)⟩)
    · exact Or.inr (Or.inr ⟨by omega, by omega, (s.hasW_no a).2 (by omega)⟩)

set_option maxHeartbeats 400000 in
theorem rread_any {w : World} {b cw cc co : Nat} {s : MS} (h : RefAt w b cw cc co s) (a : Int) :
    Calls Try.prog 66 #[.pointer (some ⟨b, 0, none⟩), .int .i64 a] w fun e w' => e = .returned (.tuple #[.int .u64 (s.rd a), .bool (s.hasW a)]) ∧ w = w' := by
  have h0 := h.top.cell (i := 0) (by omega)
  have hle := h.le
  rcases hasW_three s a with ⟨h1, hw⟩ | ⟨h1, h2, hw⟩ | ⟨h1, h2, hw⟩
  · have hr : s.rd a = 0 := by simp [MS.rd, hw]
    rw [hr, hw]
    go_enter Try.func66, Try.ntmps66
    go_wp2
    go_ret2
    exact ⟨rfl, rfl⟩
  · have hc := h.rw'.cell (i := a.toNat) (by omega)
    have hr : s.W a.toNat = s.rd a := by simp [MS.rd, hw]
    rw [hr] at hc
    rw [hw]
    go_enter Try.func66, Try.ntmps66
    go_wp2
    go_ret2
    exact ⟨rfl, rfl⟩
  · have hr : s.rd a = 0 := by simp [MS.rd, hw]
    rw [hr, hw]
    go_enter Try.func66, Try.ntmps66
    go_wp2
    go_ret2
    exact ⟨rfl, rfl⟩

theorem RefAt.write {w : World} {b cw cc co : Nat} {s : MS} (h : RefAt w b cw cc co s) (a x : Int) (hw : s.hasW a = true) : RefAt (w.setCell ⟨cw, a.toNat, none⟩ (.int .u64 x)) b cw cc co (s.write a x) := by
  have hn := s.write_n a x
  refine ⟨by rw [hn]; exact h.le, h.bw, h.bc, h.bo, h.wc, h.wo, h.co', by rw [hn]; exact h.top.setOther h.bw _, ?_, ?_, ?_⟩
  · rw [hn]
    refine (h.rw'.set _ _).congr fun i _ => ?_
    simp only [MS.write, hw, if_true]
    by_cases e : i = a.toNat
    · rw [if_pos e, if_pos e]
    · rw [if_neg e, if_neg e]
  · rw [hn, MS.write_C]; exact h.rc.setOther (Ne.symm h.wc) _
  · rw [hn, MS.write_O]; exact h.ro.setOther (Ne.symm h.wo) _

set_option maxHeartbeats 400000 in
theorem rwrite_any {w : World} {b cw cc co : Nat} {s : MS} (h : RefAt w b cw cc co s) (a x : Int) :
    Calls Try.prog 43 #[.pointer (some ⟨b, 0, none⟩), .int .i64 a, .int .u64 x] w fun e w' => e = .returned (.bool (s.hasW a)) ∧ RefAt w' b cw cc co (s.write a x) ∧ Touch (· = cw) w w' := by
  have h0 := h.top.cell (i := 0) (by omega)
  have hle := h.le
  rcases hasW_three s a with ⟨h1, hw⟩ | ⟨h1, h2, hw⟩ | ⟨h1, h2, hw⟩
  · have hr : s.write a x = s := by simp [MS.write, hw]
    rw [hr, hw]
    go_enter Try.func43, Try.ntmps43
    go_wp2
    go_ret
    exact ⟨rfl, h, Touch.refl _ _⟩
  · have hc := h.rw'.cell (i := a.toNat) (by omega)
    have hf := h.rw'.frozen a.toNat
    rw [hw]
    go_enter Try.func43, Try.ntmps43
    go_wp2
    go_ret
    exact ⟨rfl, h.write a x hw, (Touch.refl (· = cw) _).setCell rfl _⟩
  · have hr : s.write a x = s := by simp [MS.write, hw]
    rw [hr, hw]
    go_enter Try.func43, Try.ntmps43
    go_wp2
    go_ret
    exact ⟨rfl, h, Touch.refl _ _⟩

theorem RefAt.mark {w : World} {b cw cc co : Nat} {s : MS} (h : RefAt w b cw cc co s) (f k o : Int) (hm : s.mayM f k = true) :
    RefAt ((w.setCell ⟨cc, f.toNat, none⟩ (.int .i64 k)).setCell ⟨co, f.toNat, none⟩ (.int .i64 o)) b cw cc co (s.mark f k o) := by
  have hn := s.mark_n f k o
  refine ⟨by rw [hn]; exact h.le, h.bw, h.bc, h.bo, h.wc, h.wo, h.co', by rw [hn]; exact (h.top.setOther h.bc _).setOther h.bo _, ?_, ?_, ?_⟩
  · rw [hn, MS.mark_W]; exact (h.rw'.setOther h.wc _).setOther h.wo _
  · rw [hn]
    refine ((h.rc.set _ _).setOther h.co' _).congr fun i _ => ?_
    simp only [MS.mark, hm, if_true]
    by_cases e : i = f.toNat
    · rw [if_pos e, if_pos e]
    · rw [if_neg e, if_neg e]
  · rw [hn]
    refine ((h.ro.setOther (Ne.symm h.co') _).set _ _).congr fun i _ => ?_
    simp only [MS.mark, hm, if_true]
    by_cases e : i = f.toNat
    · rw [if_pos e, if_pos e]
    · rw [if_neg e, if_neg e]

set_option maxHeartbeats 1000000 in
theorem rmark_any {w : World} {b cw cc co : Nat} {s : MS} (h : RefAt w b cw cc co s) (f k o : Int) :
    Calls Try.prog 92 #[.pointer (some ⟨b, 0, none⟩), .int .i64 f, .int .i64 k, .int .i64 o] w fun e w' => e = .returned (.bool (s.mayM f k)) ∧ RefAt w' b cw cc co (s.mark f k o) ∧ Touch (fun x => x = cc ∨ x = co) w w' := by
  cases hm : s.mayM f k
  · have hr : s.mark f k o = s := by simp [MS.mark, hm]
    rw [hr]
    cases hf : s.hasF f
    · go_enter Try.func92, Try.ntmps92
      go_wp2_with (go_at_call 82; refine (rhas_any h _).mono ?_; rintro e w' ⟨rfl, rfl⟩)
      go_ret
      exact ⟨rfl, h, Touch.refl _ _⟩
    · have hk : k < 0 ∨ 5 < k := by simp [MS.mayM, hf] at hm; omega
      by_cases h1 : k < 0
      · go_enter Try.func92, Try.ntmps92
        go_wp2_with (go_at_call 82; refine (rhas_any h _).mono ?_; rintro e w' ⟨rfl, rfl⟩)
        go_ret
        exact ⟨rfl, h, Touch.refl _ _⟩
      · have h2 : 5 < k := by omega
        go_enter Try.func92, Try.ntmps92
        go_wp2_with (go_at_call 82; refine (rhas_any h _).mono ?_; rintro e w' ⟨rfl, rfl⟩)
        go_ret
        exact ⟨rfl, h, Touch.refl _ _⟩
  · have hm' := hm
    simp only [MS.mayM, Bool.and_eq_true, decide_eq_true_eq] at hm'
    obtain ⟨⟨hf, k1⟩, k2⟩ := hm'
    obtain ⟨b1, b2⟩ := (s.hasF_iff f).1 hf
    have t1 := h.top.cell (i := 1) (by omega)
    have t2 := h.top.cell (i := 2) (by omega)
    have hle := h.le
    have q8 := h.rc.cell (i := f.toNat) (by omega)
    have q9 := h.ro.cell (i := f.toNat) (by omega)
    have q9' := (h.ro.setOther (a := ⟨cc, f.toNat, none⟩) (Ne.symm h.co') (.int .i64 k)).cell (i := f.toNat) (by omega)
    have f8 := h.rc.frozen f.toNat
    have f9 := h.ro.frozen f.toNat
    simp only [show ¬ ((1 : Nat) = 0) by omega, show ¬ ((2 : Nat) = 0) by omega, show ¬ ((2 : Nat) = 1) by omega, if_false, if_true] at t1 t2
    have hne1 : cc ≠ co := h.co'
    go_enter Try.func92, Try.ntmps92
    go_wp2_with (go_at_call 82; refine (rhas_any h _).mono ?_; rintro e w' ⟨rfl, rfl⟩)
    go_region
    go_wp2
    go_ret
    exact ⟨rfl, (h.mark f k o hm).drew, (((Touch.refl (fun x => x = cc ∨ x = co) _).setCell (Or.inl rfl) _).setCell (Or.inr rfl) _).drew⟩
end Go.Proofs.Ytaofkedcdeocjaa

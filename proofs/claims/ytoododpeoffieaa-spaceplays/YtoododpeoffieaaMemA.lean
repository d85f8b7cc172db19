/-
  What each call of package mem that only reads comes to: one contract a function.
-/
import Derived.Test.YtoododpeoffieaaKeepx
import Derived.Test.YtoododpeoffieaaCore
import Derived.WalkKit
import Derived.ProofKit
import Derived.OpenShut
import Derived.Outline
import Derived.WalkLawsBesides
namespace Go.Proofs.Ytoododpeoffieaa
open Go.ChangeShapes Go.WideShapes Go.ChangeAt Go.RowKit

/-- A memory lies at b, its frames at c. -/
structure MemAt (w : World) (b c : Nat) (s : MS) : Prop where
  ne : b ≠ c
  le : s.n ≤ 64
  top : ∃ cap, w.rowIs b 66 1 (fun _ => .slice (some ⟨c, 0, none⟩) s.n cap)
  row : rowHas w c 69 (s.n * 10) s.cell

theorem MemAt.touch {S : Nat → Prop} {w w' : World} {b c : Nat} {s : MS} (h : MemAt w b c s) (t : Touch S w w') (hb : ¬ S b) (hc : ¬ S c) : MemAt w' b c s :=
  ⟨h.ne, h.le, h.top.imp fun _ x => t.row x hb, h.row.touch t hc⟩

set_option maxHeartbeats 400000 in
theorem frames_any {w : World} {b c : Nat} {s : MS} (h : MemAt w b c s) :
    Calls Try.prog 32 #[.pointer (some ⟨b, 0, none⟩)] w fun e w' => e = .returned (.int .i64 s.n) ∧ w = w' := by
  obtain ⟨cap, htop⟩ := h.top
  have h0 := htop.cell (i := 0) (by omega)
  have hle := h.le
  go_enter Try.func32, Try.ntmps32
  go_wp2
  go_ret
  exact ⟨rfl, rfl⟩

set_option maxHeartbeats 400000 in
theorem has_any {w : World} {b c : Nat} {s : MS} (h : MemAt w b c s) (f : Int) :
    Calls Try.prog 62 #[.pointer (some ⟨b, 0, none⟩), .int .i64 f] w fun e w' => e = .returned (.bool (s.hasF f)) ∧ w = w' := by
  obtain ⟨cap, htop⟩ := h.top
  have h0 := htop.cell (i := 0) (by omega)
  have hle := h.le
  by_cases h1 : 0 ≤ f
  · go_enter Try.func62, Try.ntmps62
    go_wp2
    go_ret
    exact ⟨ret_bool (by simp [MS.hasF, h1]), rfl⟩
  · go_enter Try.func62, Try.ntmps62
    go_wp2
    go_ret
    exact ⟨ret_bool (by rw [eq_comm, MS.hasF_no]; omega), rfl⟩


theorem off_word (a : Int) (h1 : 0 ≤ a) : (a / 8).toNat * 10 + (a % 8).toNat = a.toNat / 8 * 10 + a.toNat % 8 := by omega

set_option maxHeartbeats 400000 in
theorem word_yes {w : World} {b c : Nat} {s : MS} (h : MemAt w b c s) (a : Int) (hw : s.hasW a = true) :
    Calls Try.prog 61 #[.pointer (some ⟨b, 0, none⟩), .int .i64 a] w fun e w' => e = .returned (.pointer (some ⟨c, a.toNat / 8 * 10 + a.toNat % 8, none⟩)) ∧ w = w' := by
  obtain ⟨cap, htop⟩ := h.top
  have h0 := htop.cell (i := 0) (by omega)
  have hle := h.le
  obtain ⟨h1, h2⟩ := (s.hasW_iff a).1 hw
  have hf : s.hasF (a / 8) = true := (s.hasF_iff _).2 (by omega)
  rw [← off_word a h1]
  go_enter Try.func61, Try.ntmps61
  go_wp2_with (go_at_call 62; refine (has_any h _).mono ?_; rintro e w' ⟨rfl, rfl⟩)
  go_ret
  exact ⟨rfl, rfl⟩

set_option maxHeartbeats 400000 in
theorem word_no {w : World} {b c : Nat} {s : MS} (h : MemAt w b c s) (a : Int) (hi : a < 9223372036854775808) (hw : s.hasW a = false) :
    Calls Try.prog 61 #[.pointer (some ⟨b, 0, none⟩), .int .i64 a] w fun e w' => e = .returned (.pointer none) ∧ w = w' := by
  obtain ⟨cap, htop⟩ := h.top
  have h0 := htop.cell (i := 0) (by omega)
  have hle := h.le
  by_cases h1 : 0 ≤ a
  · have hf : s.hasF (a / 8) = false := (s.hasF_no _).2 (by have := (s.hasW_no a).1 hw; omega)
    go_enter Try.func61, Try.ntmps61
    go_wp2_with (go_at_call 62; refine (has_any h _).mono ?_; rintro e w' ⟨rfl, rfl⟩)
    go_ret
    exact ⟨rfl, rfl⟩
  · go_enter Try.func61, Try.ntmps61
    go_wp2
    go_ret
    exact ⟨rfl, rfl⟩

set_option maxHeartbeats 400000 in
theorem read_any {w : World} {b c : Nat} {s : MS} (h : MemAt w b c s) (a : Int) (hi : a < 9223372036854775808) :
    Calls Try.prog 34 #[.pointer (some ⟨b, 0, none⟩), .int .i64 a] w fun e w' => e = .returned (.tuple #[.int .u64 (s.rd a), .bool (s.hasW a)]) ∧ w = w' := by
  cases hw : s.hasW a
  · have hr : s.rd a = 0 := by simp [MS.rd, hw]
    rw [hr]
    go_enter Try.func34, Try.ntmps34
    go_wp2_with (go_at_call 61; refine (word_no h _ hi hw).mono ?_; rintro e w' ⟨rfl, rfl⟩)
    go_ret2
    exact ⟨rfl, rfl⟩
  · have hb := (s.hasW_iff a).1 hw
    have hc := h.row.cell (i := a.toNat / 8 * 10 + a.toNat % 8) (by omega)
    rw [s.cell_word _ _ (by omega), show a.toNat / 8 * 8 + a.toNat % 8 = a.toNat by omega] at hc
    have hr : s.W a.toNat = s.rd a := by simp [MS.rd, hw]
    rw [hr] at hc
    go_enter Try.func34, Try.ntmps34
    go_wp2_with (go_at_call 61; refine (word_yes h _ hw).mono ?_; rintro e w' ⟨rfl, rfl⟩)
    go_ret2
    exact ⟨rfl, rfl⟩

set_option maxHeartbeats 400000 in
theorem class_any {w : World} {b c : Nat} {s : MS} (h : MemAt w b c s) (f : Int) :
    Calls Try.prog 36 #[.pointer (some ⟨b, 0, none⟩), .int .i64 f] w fun e w' => e = .returned (.int .i64 (s.cls f)) ∧ w = w' := by
  obtain ⟨cap, htop⟩ := h.top
  have h0 := htop.cell (i := 0) (by omega)
  cases hw : s.hasF f
  · have hr : s.cls f = -1 := by simp [MS.cls, hw]
    go_enter Try.func36, Try.ntmps36
    go_wp2_with (go_at_call 62; refine (has_any h _).mono ?_; rintro e w' ⟨rfl, rfl⟩)
    go_ret
    exact ⟨ret_int hr.symm, rfl⟩
  · have hb := (s.hasF_iff f).1 hw
    obtain ⟨b1, b2⟩ := hb
    have hle := h.le
    have hc := h.row.cell (i := f.toNat * 10 + 8) (by omega)
    have hr : s.C f.toNat = s.cls f := by simp [MS.cls, hw]
    rw [s.cell_class, hr] at hc
    go_enter Try.func36, Try.ntmps36
    go_wp2_with (go_at_call 62; refine (has_any h _).mono ?_; rintro e w' ⟨rfl, rfl⟩)
    go_ret
    exact ⟨rfl, rfl⟩

set_option maxHeartbeats 400000 in
theorem owner_any {w : World} {b c : Nat} {s : MS} (h : MemAt w b c s) (f : Int) :
    Calls Try.prog 37 #[.pointer (some ⟨b, 0, none⟩), .int .i64 f] w fun e w' => e = .returned (.int .i64 (s.own f)) ∧ w = w' := by
  obtain ⟨cap, htop⟩ := h.top
  have h0 := htop.cell (i := 0) (by omega)
  cases hw : s.hasF f
  · have hr : s.own f = -1 := by simp [MS.own, hw]
    go_enter Try.func37, Try.ntmps37
    go_wp2_with (go_at_call 62; refine (has_any h _).mono ?_; rintro e w' ⟨rfl, rfl⟩)
    go_ret
    exact ⟨ret_int hr.symm, rfl⟩
  · have hb := (s.hasF_iff f).1 hw
    obtain ⟨b1, b2⟩ := hb
    have hle := h.le
    have hc := h.row.cell (i := f.toNat * 10 + 9) (by omega)
    have hr : s.O f.toNat = s.own f := by simp [MS.own, hw]
    rw [s.cell_owner, hr] at hc
    go_enter Try.func37, Try.ntmps37
    go_wp2_with (go_at_call 62; refine (has_any h _).mono ?_; rintro e w' ⟨rfl, rfl⟩)
    go_ret
    exact ⟨rfl, rfl⟩
end Go.Proofs.Ytoododpeoffieaa

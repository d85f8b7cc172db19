/-
  The document's own memory: making frames 0, and copying them, word by word.
-/
import Derived.Test.YtaofkedcdeocjaaRefA
import Derived.LoopTactic
namespace Go.Proofs.Ytaofkedcdeocjaa
open Go.ChangeShapes Go.WideShapes Go.ChangeAt Go.RowKit

/-- The words of a frame, the first k of them told anew. -/
def MS.part (s : MS) (f k : Nat) (g : Nat → Int) : MS := { s with W := fun i => if f * 8 ≤ i ∧ i < f * 8 + k then g (i - f * 8) else s.W i }
theorem MS.part_zero (s : MS) (f : Nat) (g : Nat → Int) : s.part f 0 g = s := by
  cases s; simp only [MS.part, MS.mk.injEq, true_and, and_true]; funext i; rw [if_neg (by omega)]
theorem MS.part_zeroed (s : MS) (f : Int) (h : s.hasF f = true) : s.part f.toNat 8 (fun _ => 0) = s.zero f := by
  simp only [MS.part, MS.zero, h, if_true, MS.mk.injEq, true_and, and_true]; funext i
  by_cases e : i / 8 = f.toNat
  · rw [if_pos e, if_pos (by omega)]
  · rw [if_neg e, if_neg (by omega)]
theorem MS.part_copied (s : MS) (f t : Int) (h : s.hasF f = true) (ht : s.hasF t = true) : s.part t.toNat 8 (fun j => s.W (f.toNat * 8 + j)) = s.copy f t := by
  simp only [MS.part, MS.copy, h, ht, and_self, if_true, MS.mk.injEq, true_and, and_true]; funext i
  by_cases e : i / 8 = t.toNat
  · rw [if_pos e, if_pos (by omega), show i - t.toNat * 8 = i % 8 by omega]
  · rw [if_neg e, if_neg (by omega)]

theorem RefAt.part {w : World} {b cw cc co : Nat} {s : MS} {f k : Nat} {g : Nat → Int} (h : RefAt w b cw cc co (s.part f k g)) : RefAt (w.setCell ⟨cw, f * 8 + k, none⟩ (.int .u64 (g k))) b cw cc co (s.part f (k + 1) g) := by
  refine ⟨h.le, h.bw, h.bc, h.bo, h.wc, h.wo, h.co', h.top.setOther h.bw _, ?_, h.rc.setOther (Ne.symm h.wc) _, h.ro.setOther (Ne.symm h.wo) _⟩
  refine (h.rw'.set _ _).congr fun i _ => ?_
  simp only [MS.part]
  by_cases e : i = f * 8 + k
  · subst e; rw [if_pos rfl, if_pos (by omega), show f * 8 + k - f * 8 = k by omega]
  · rw [if_neg e]
    by_cases e2 : f * 8 ≤ i ∧ i < f * 8 + k
    · rw [if_pos e2, if_pos (by omega)]
    · rw [if_neg e2, if_neg (by omega)]

set_option maxHeartbeats 1000000 in
theorem rzero_any {w : World} {b cw cc co : Nat} {s : MS} (h : RefAt w b cw cc co s) (f : Int) :
    Calls Try.prog 96 #[.pointer (some ⟨b, 0, none⟩), .int .i64 f] w fun e w' => e = .returned (.bool (s.hasF f)) ∧ RefAt w' b cw cc co (s.zero f) ∧ Touch (· = cw) w w' := by
  cases hf : s.hasF f
  · have hr : s.zero f = s := by simp [MS.zero, hf]
    rw [hr]
    go_enter Try.func96, Try.ntmps96
    go_wp2
    go_loop [5] (fun i => i = .int .i64 0) (fun _ => 0)
    case atStart => rfl
    case round =>
      subst hrel
      go_wp2_with (go_at_call 82; refine (rhas_any h _).mono ?_; rintro e w' ⟨rfl, rfl⟩)
      go_ret
      exact ⟨rfl, h, Touch.refl _ _⟩
  · obtain ⟨b1, b2⟩ := (s.hasF_iff f).1 hf
    have hle := h.le
    have hp0 : RefAt w b cw cc co (s.part f.toNat 0 (fun _ => 0)) := by rw [MS.part_zero]; exact h
    go_enter Try.func96, Try.ntmps96
    go_wp2
    go_loopw [5] (fun i wr => ∃ k : Nat, k ≤ 8 ∧ i = .int .i64 k ∧ RefAt wr b cw cc co (s.part f.toNat k (fun _ => 0)) ∧ Touch (· = cw) w wr) (fun i _ => 8 - (intOf i).toNat)
    case atStart => exact ⟨0, by omega, rfl, hp0, Touch.refl _ _⟩
    case round =>
      obtain ⟨k, hk, rfl, hR, hT⟩ := hrel
      clear hp0
      have hf' : (s.part f.toNat k (fun _ => 0)).hasF f = true := hf
      by_cases hlt : k < 8
      · have h0 := hR.top.cell (i := 0) (by omega)
        have hc := hR.rw'.cell (i := (f * 8 + k).toNat) (by show _ < s.n * 8; omega)
        have hfz := hR.rw'.frozen (f * 8 + k).toNat
        have hR' := hR.part
        rw [show f.toNat * 8 + k = (f * 8 + k).toNat by omega] at hR'
        simp only [MS.part, if_true] at h0
        have k1 : (k : Int) < 8 := by omega
        go_wp2_with (go_at_call 82; refine (rhas_any hR _).mono ?_; rintro e w' ⟨rfl, rfl⟩)
        go_roundw
        case rel => exact ⟨k + 1, by omega, by go_num, hR', hT.setCell (p := ⟨cw, (f * 8 + k).toNat, none⟩) rfl _⟩
        case measure => simp [intOf]; omega
      · have hk8 : k = 8 := by omega
        subst hk8
        rw [MS.part_zeroed s f hf] at hR
        have hf'' : (s.zero f).hasF f = true := by rw [MS.hasF_of_n (s.zero_n f)]; exact hf
        go_wp2_with (go_at_call 82; refine (rhas_any hR _).mono ?_; rintro e w' ⟨rfl, rfl⟩)
        go_ret
        exact ⟨rfl, hR, hT⟩

end Go.Proofs.Ytaofkedcdeocjaa

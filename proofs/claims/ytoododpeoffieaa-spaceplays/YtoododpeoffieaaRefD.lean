/-
  The program's memory and the document's own, side by side: are they the same?
-/
import Derived.Test.YtoododpeoffieaaMemFx
import Derived.Deep.QuietTactic
import Derived.BigQuiet
namespace Go.Proofs.Ytoododpeoffieaa
open Go.ChangeShapes Go.WideShapes Go.ChangeAt Go.RowKit

theorem MemAt.drewN {w : World} {b c : Nat} {s : MS} (h : MemAt w b c s) (n : Nat) : MemAt (w.drewN n) b c s := ⟨h.ne, h.le, h.top, h.row⟩
theorem RefAt.drewN {w : World} {b cw cc co : Nat} {s : MS} (h : RefAt w b cw cc co s) (n : Nat) : RefAt (w.drewN n) b cw cc co s :=
  ⟨h.le, h.bw, h.bc, h.bo, h.wc, h.wo, h.co', h.top, h.rw', h.rc, h.ro⟩
theorem Touch.drewN {S : Nat → Prop} {w w' : World} (h : Touch S w w') (n : Nat) : Touch S w (w'.drewN n) := ⟨h.os, h.tape, h.output, h.size, h.block⟩
/-- Orders were drawn, and nothing else. -/
def Drew (w w' : World) : Prop := ∃ n, w' = w.drewN n
theorem Drew.mem {w w' : World} (d : Drew w w') {b c : Nat} {s : MS} (h : MemAt w b c s) : MemAt w' b c s := by obtain ⟨n, rfl⟩ := d; exact h.drewN n
theorem Drew.ref {w w' : World} (d : Drew w w') {b cw cc co : Nat} {s : MS} (h : RefAt w b cw cc co s) : RefAt w' b cw cc co s := by obtain ⟨n, rfl⟩ := d; exact h.drewN n
theorem Drew.touch {w w' : World} (d : Drew w w') {S : Nat → Prop} : Touch S w w' := by obtain ⟨n, rfl⟩ := d; exact (Touch.refl S w).drewN n
theorem Drew.drewN {w w' : World} (d : Drew w w') (n : Nat) : Drew w (w'.drewN n) := by
  obtain ⟨m, rfl⟩ := d; exact ⟨m + n, by simp [World.drewN, Nat.add_assoc]⟩
theorem class_q {w : World} {b c : Nat} {s : MS} (h : MemAt w b c s) (f : Int) :
    Calls Try.prog 36 #[.pointer (some ⟨b, 0, none⟩), .int .i64 f] w fun e w' => e = .returned (.int .i64 (s.cls f)) ∧ w' = w :=
  (class_any h f).mono fun _ _ ⟨he, hw⟩ => ⟨he, hw.symm⟩
theorem owner_q {w : World} {b c : Nat} {s : MS} (h : MemAt w b c s) (f : Int) :
    Calls Try.prog 37 #[.pointer (some ⟨b, 0, none⟩), .int .i64 f] w fun e w' => e = .returned (.int .i64 (s.own f)) ∧ w' = w :=
  (owner_any h f).mono fun _ _ ⟨he, hw⟩ => ⟨he, hw.symm⟩

set_option maxRecDepth 10000 in
set_option maxHeartbeats 4000000 in
theorem same_any {w : World} {b c b' cw cc co : Nat} {s : MS} (h : MemAt w b c s) (r : RefAt w b' cw cc co s) :
    Calls Try.prog 10 #[.pointer (some ⟨b, 0, none⟩), .pointer (some ⟨b', 0, none⟩)] w fun e w' => e = .returned (.bool true) ∧ Drew w w' := by
  have t0 := r.top.cell (i := 0) (by omega)
  have t1 := r.top.cell (i := 1) (by omega)
  have t2 := r.top.cell (i := 2) (by omega)
  simp only [show ¬ ((1 : Nat) = 0) by omega, show ¬ ((2 : Nat) = 0) by omega, show ¬ ((2 : Nat) = 1) by omega, if_false, if_true] at t0 t1 t2
  have hle := h.le
  have e1 : s.cls (-1) = -1 := by simp [MS.cls, (s.hasF_no (-1)).2 (by omega)]
  have e2 : s.own (s.n : Int) = -1 := by simp [MS.own, (s.hasF_no (s.n : Int)).2 (by omega)]
  go_enter Try.func10, Try.ntmps10
  go_wp2_with (first
    | (go_at_call 32; refine (frames_any h).mono ?_; rintro e wq ⟨rfl, rfl⟩)
    | (go_at_call 33; refine (rframes_any r).mono ?_; rintro e wq ⟨rfl, rfl⟩))
  go_loop [5] (fun i => ∃ a : Int, -1 ≤ a ∧ a ≤ (s.n : Int) * 8 + 1 ∧ i = .int .i64 a) (fun i => ((s.n : Int) * 8 + 1 - intOf i).toNat)
  case atStart => exact ⟨-1, by omega, by omega, rfl⟩
  case round =>
    obtain ⟨a, g1, g2, rfl⟩ := hrel
    by_cases hlt : a ≤ ((s.n * 8 : Nat) : Int)
    · go_wp2_with (first
        | (go_at_call 34; refine (read_any h _ (by omega)).mono ?_; rintro e wq ⟨rfl, rfl⟩)
        | (go_at_call 35; refine (rread_any r _).mono ?_; rintro e wq ⟨rfl, rfl⟩))
      go_round
      case rel => exact ⟨a + 1, by omega, by omega, rfl⟩
      case measure => simp [intOf]; omega
    · go_wp2
      go_loopw [54] (fun i wr => ∃ k : Nat, k ≤ s.n ∧ i = .int .i64 k ∧ Drew w wr) (fun i _ => s.n - (intOf i).toNat)
      case atStart => exact ⟨0, by omega, rfl, 0, rfl⟩
      case round =>
        obtain ⟨k, hk, rfl, hD⟩ := hrel
        have h' := hD.mem h
        have r' := hD.ref r
        clear t0 t1 t2
        have t1 := r'.top.cell (i := 1) (by omega)
        have t2 := r'.top.cell (i := 2) (by omega)
        simp only [show ¬ ((1 : Nat) = 0) by omega, show ¬ ((2 : Nat) = 0) by omega, show ¬ ((2 : Nat) = 1) by omega, if_false, if_true] at t1 t2
        by_cases hkn : k < s.n
        · have hc := r'.rc.cell (i := k) hkn
          have ho := r'.ro.cell (i := k) hkn
          have ek : s.hasF (k : Int) = true := (s.hasF_iff _).2 (by omega)
          have c1 : s.cls (k : Int) = s.C k := by simp [MS.cls, ek]
          have o1 : s.own (k : Int) = s.O k := by simp [MS.own, ek]
          have k1 : (k : Int) < s.n := by omega
          go_wp2
          go_quiet ((first
            | (go_at_call 36; exact Calls.quiet_of_same (class_q (h'.drewN _) _))
            | (go_at_call 37; exact Calls.quiet_of_same (owner_q (h'.drewN _) _))))
          go_wp2
          go_roundw
          case rel => exact ⟨k + 1, by omega, by go_num, hD.drewN _⟩
          case measure => simp [intOf]; omega
        · go_wp2_with (first
            | (go_at_call 36; refine (class_any h' _).mono ?_; rintro e wq ⟨rfl, rfl⟩)
            | (go_at_call 37; refine (owner_any h' _).mono ?_; rintro e wq ⟨rfl, rfl⟩)
            | (go_at_call 33; refine (rframes_any r').mono ?_; rintro e wq ⟨rfl, rfl⟩))
          go_ret
          exact ⟨rfl, hD⟩
end Go.Proofs.Ytoododpeoffieaa

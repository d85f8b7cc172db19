/-
  The walk of MemPlays.
-/
import Derived.Test.YtcjjjlbafpefpaaRefD
import Derived.Test.YtcjjjlbafpefpaaSlices
import Derived.Deep.RegionHeld3
import Derived.Deep.DeepCutAuto
namespace Go.Proofs.Ytcjjjlbafpefpaa
open Go.ChangeShapes Go.WideShapes Go.ChangeAt Go.RowKit

/-- Both memories, side by side, in a world in which all that was there is as it was. -/
structure Both (w : World) (b' cw cc co : Nat) (wr : World) (s : MS) : Prop where
  m : MemAt wr (w.heap.size + 1) w.heap.size s
  r : RefAt wr b' cw cc co s
  bel : Below w.heap.size w wr
  n0 : w.heap.size + 2 ≤ b'
  n1 : w.heap.size + 2 ≤ cw
  n2 : w.heap.size + 2 ≤ cc
  n3 : w.heap.size + 2 ≤ co
theorem Both.drew {w : World} {b' cw cc co : Nat} {wr wr' : World} {s : MS} (h : Both w b' cw cc co wr s) (d : Drew wr wr') : Both w b' cw cc co wr' s :=
  ⟨d.mem h.m, d.ref h.r, h.bel.trans (d.touch.below (S := Nil) (by have := h.bel.size; omega) (fun _ e => e.elim)), h.n0, h.n1, h.n2, h.n3⟩

/-- Both have turned alike. -/
theorem Both.step {w : World} {b' cw cc co : Nat} {wr wa wb : World} {s s' : MS} {S S' : Nat → Prop} (h : Both w b' cw cc co wr s) (hM : MemAt wa (w.heap.size + 1) w.heap.size s') (hT : Touch S wr wa) (hR : RefAt wb b' cw cc co s') (hT' : Touch S' wa wb)
    (hS : ∀ k, S k → w.heap.size ≤ k) (hS' : ∀ k, S' k → w.heap.size + 2 ≤ k) : Both w b' cw cc co wb s' :=
  ⟨hM.touch hT' (fun e => by have := hS' _ e; omega) (fun e => by have := hS' _ e; omega), hR,
    h.bel.trans ((hT.below h.bel.size hS).trans (hT'.below (Nat.le_trans h.bel.size hT.size) (fun k e => by have := hS' k e; omega))), h.n0, h.n1, h.n2, h.n3⟩
/-- What is newer than both has turned. -/
theorem Both.away {w : World} {b' cw cc co : Nat} {wr wb : World} {s : MS} (h : Both w b' cw cc co wr s) (t : Touch Nil wr wb) : Both w b' cw cc co wb s :=
  ⟨h.m.touch t id id, h.r.touch t id id id id, h.bel.trans (t.below h.bel.size (fun _ e => e.elim)), h.n0, h.n1, h.n2, h.n3⟩
theorem Drew.self (w : World) : Drew w w := ⟨0, rfl⟩
theorem Drew.drew {w w' : World} (d : Drew w w') : Drew w w'.drew := d.drewN 1
theorem Drew.cell {w w' : World} (d : Drew w w') (p : Addr) : w'.cell? p = w.cell? p := by obtain ⟨n, rfl⟩ := d; rfl
theorem within_q (v n : Int) (w : World) (h1 : 1 ≤ n) (h2 : n ≤ 1099511627776) :
    Calls Try.prog 8 #[.int .i64 v, .int .i64 n] w fun e w' => e = .returned (.int .i64 (v % n)) ∧ w' = w :=
  (within_any v n w h1 h2).mono fun _ _ ⟨he, hw⟩ => ⟨he, hw.symm⟩

set_option maxRecDepth 10000 in
set_option maxHeartbeats 8000000 in
theorem memPlays_walk (a0 : Int) (a1 : Option Addr) (len1 cap1 : Nat) (z1 : List Int) (x : Int) (w : World) (r1 : Row .i64 w a1 len1 cap1 z1) :
    Calls Try.prog 5 #[.int .i64 a0, .slice a1 len1 cap1, .int .u64 x] w fun e w' => e = .returned (.bool true) ∧ Below w.heap.size w w' := by
  obtain ⟨hm1, p1⟩ := r1.plain
  unfold maxLen at hm1
  clear r1
  go_enter Try.func5, Try.ntmps5
  go_upto_if 17 with fail
  go_cut [0] (fun f wx => w = wx ∧ ∃ v : Int, f = .int .i64 v)
  case first =>
    by_cases h5 : a0.tmod 5 = 4
    · go_wp2
      go_meet
      exact ⟨rfl, _, rfl⟩
    · go_wp2_with (go_at_call 8; refine (within_any _ _ _ (by omega) (by omega)).mono ?_; rintro e wq ⟨rfl, rfl⟩)
      go_meet
      exact ⟨rfl, _, rfl⟩
  case rest =>
  obtain ⟨rfl, v, rfl⟩ := hcut
  go_wp2_with (first
    | (go_at_call 9; refine (new_any _ _).mono ?_; rintro e w1 ⟨rfl, hM, hT, hS⟩)
    | (go_at_call 20; refine (rnew_any _ _).mono ?_; rintro e w2 ⟨b', cw, cc, co, hx, g0, g1, g2, g3, hR, hT2⟩; subst hx))
  have hB0 : Both w b' cw cc co w2 _ := ⟨hM.touch hT2 id id, hR, (hT.transNew hT2 (by intro i h e; exact e.elim)).below (Nat.le_refl _) (fun _ e => e.elim), by omega, by omega, by omega, by omega⟩
  clear hM hT hS hR hT2 g0 g1 g2 g3
  go_loopg [9] 64 (fun g i wr => ∃ k : Nat, g + k = 64 ∧ k % 4 = 0 ∧ i = .int .i64 k ∧ ∃ s, Both w b' cw cc co wr s)
  case atStart => exact ⟨0, by omega, by omega, rfl, _, hB0⟩
  case round =>
    clear hB0
    obtain ⟨k, hgk, hk4, rfl, s, hB⟩ := hrel
    have hN0 := hB.n0
    have hN1 := hB.n1
    have hN2 := hB.n2
    have hN3 := hB.n3
    by_cases hgo : k + 3 < len1 ∧ k < 60
    · obtain ⟨hg1, hg2⟩ := hgo
      rcases p1 with p1 | ⟨b1, o1, rfl, hb1, hc1⟩
      · omega
      have c0 := Plain.cell hc1 hb1 hB.bel k (by omega)
      have c1 := Plain.cell hc1 hb1 hB.bel (k + 1) (by omega)
      have c2 := Plain.cell hc1 hb1 hB.bel (k + 2) (by omega)
      have c3 := Plain.cell hc1 hb1 hB.bel (k + 3) (by omega)
      have f0 := bounds_i64 (hc1 k (by omega)).2
      have f1 := bounds_i64 (hc1 (k + 1) (by omega)).2
      have f2 := bounds_i64 (hc1 (k + 2) (by omega)).2
      have f3 := bounds_i64 (hc1 (k + 3) (by omega)).2
      generalize z1.getD k 0 = y0 at c0 f0
      generalize z1.getD (k + 1) 0 = y1 at c1 f1
      generalize z1.getD (k + 2) 0 = y2 at c2 f2
      generalize z1.getD (k + 3) 0 = y3 at c3 f3
      have k1 : (k : Int) + 3 < len1 := by omega
      have k2 : (k : Int) < 60 := by omega
      have k3 : (k : Int) + 1 < len1 := by omega
      have k4 : (k : Int) + 2 < len1 := by omega
      have k5 : (k : Int) < len1 := by omega
      have u1 : (0 : Int) ≤ (k : Int) + 1 := by omega
      have u2 : (0 : Int) ≤ (k : Int) + 2 := by omega
      have u3 : (0 : Int) ≤ (k : Int) + 3 := by omega
      have v1 : IntKind.i64.wrap ((k : Int) + 1) = (k : Int) + 1 := by rw [IntKind.wrap_i64]; omega
      have v2 : IntKind.i64.wrap ((k : Int) + 2) = (k : Int) + 2 := by rw [IntKind.wrap_i64]; omega
      have v3 : IntKind.i64.wrap ((k : Int) + 3) = (k : Int) + 3 := by rw [IntKind.wrap_i64]; omega
      have v4 : IntKind.i64.wrap (y1 % 9 - 1) = y1 % 9 - 1 := by rw [IntKind.wrap_i64]; omega
      have v5 : IntKind.i64.wrap (y2 % 60 - 2) = y2 % 60 - 2 := by rw [IntKind.wrap_i64]; omega
      go_wp2
      go_quiet ((go_at_call 8; exact Calls.quiet_of_same (within_q _ _ _ (by omega) (by omega))))
      go_upto_if 56 with fail
      go_cut [10, 11] (fun s10 s11 wx => Drew wr wx ∧ ∃ f a : Int, s10 = .int .i64 f ∧ s11 = .int .i64 a ∧ a < 9223372036854775808)
      case first =>
        by_cases h30 : y0.tmod 31 = 30
        · go_wp2
          go_quiet (fail)
          go_wp2
          go_meet
          exact ⟨(Drew.self wr).drewN _ |>.drewN _, _, _, rfl, rfl, by omega⟩
        · go_wp2
          go_meet
          exact ⟨(Drew.self wr).drewN _, _, _, rfl, rfl, by omega⟩
      case rest =>
      obtain ⟨hD, f, a, rfl, rfl, ha⟩ := hcut
      have hB' := hB.drew hD
      replace c0 := (hD.cell _).trans c0
      replace c1 := (hD.cell _).trans c1
      replace c2 := (hD.cell _).trans c2
      replace c3 := (hD.cell _).trans c3
      clear hB hD v4 v5 c1
      have hM := hB'.m
      have hR := hB'.r
      have hSz := hB'.bel.size
      go_upto_if 86 with (go_at_call 8; refine (within_any _ _ _ (by omega) (by omega)).mono ?_; rintro e wq ⟨rfl, rfl⟩)
      go_cut [86] (fun q wx => wc = wx ∧ q = .bool (decide (y0 % 8 ≤ 2)))
      case first =>
        have hv : y0 % 8 = 0 ∨ y0 % 8 = 1 ∨ y0 % 8 = 2 ∨ (2 < y0 % 8) := by omega
        rcases hv with hv | hv | hv | hv
        · go_wp2
          go_meet
          exact ⟨rfl, by simp [hv]⟩
        · go_wp2
          go_meet
          exact ⟨rfl, by simp [hv]⟩
        · go_wp2
          go_meet
          exact ⟨rfl, by simp [hv]⟩
        · have e0 : (y0 % 8 == 0) = false := by simp; omega
          have e1 : (y0 % 8 == 1) = false := by simp; omega
          have e2 : (y0 % 8 == 2) = false := by simp; omega
          go_wp2
          go_meet
          exact ⟨rfl, by simp; omega⟩
      case rest =>
      obtain ⟨rfl, rfl⟩ := hcut
      by_cases h2 : y0 % 8 ≤ 2
      · have c3n : wc.cell? ⟨b1, o1 + ((k : Int) + 3).toNat, none⟩ = some (.int .i64 y3) := by rw [show ((k : Int) + 3).toNat = k + 3 by omega]; exact c3
        go_wp2
        go_region_held3 (fun wx => wx.cell? ⟨b1, o1 + ((k : Int) + 3).toNat, none⟩ = some (.int .i64 y3)) (first | exact c3n | exact c4 | exact c5)
          (first
            | (go_at_call 17; refine (write_any hM.drew _ _ ha).mono ?_; rintro e w3 ⟨hx, hM3, hT3⟩; subst hx; have c4 : w3.cell? ⟨b1, o1 + ((k : Int) + 3).toNat, none⟩ = some (.int .i64 y3) := (World.cell?_of_block (hT3.block b1 (by show b1 < wc.heap.size; omega) (by show ¬ _ = _; omega))).trans c3n)
            | (go_at_call 21; refine (rwrite_any (hR.drew.touch hT3 (by show ¬ _ = _; omega) (by show ¬ _ = _; omega) (by show ¬ _ = _; omega) (by show ¬ _ = _; omega)) _ _).mono ?_; rintro e w4 ⟨hx, hR4, hT4⟩; subst hx; have c5 : w4.cell? ⟨b1, o1 + ((k : Int) + 3).toNat, none⟩ = some (.int .i64 y3) := (World.cell?_of_block (hT4.block b1 (by have := hT3.size; have : wc.heap.size ≤ w3.heap.size := this; omega) (by show ¬ _ = _; omega))).trans c4))
        go_wp2
        go_roundg (60 - k)
        case measure => omega
        case rel => exact ⟨k + 4, by omega, by omega, by go_num, _, (hB'.drew ((Drew.self wc).drew)).step hM3 hT3 hR4 hT4 (fun i e => by omega) (fun i e => by omega)⟩
      · have hv : y0 % 8 = 3 ∨ y0 % 8 = 4 ∨ y0 % 8 = 5 ∨ y0 % 8 = 6 ∨ y0 % 8 = 7 := by omega
        clear h2
        rcases hv with hv | hv | hv | hv | hv
        · go_wp2_with (first
            | (go_at_call 12; refine (zero_any hM _).mono ?_; rintro e w3 ⟨hx, hM3, hT3⟩; subst hx)
            | (go_at_call 22; refine (rzero_any (hR.touch hT3 (by show ¬ _ = _; omega) (by show ¬ _ = _; omega) (by show ¬ _ = _; omega) (by show ¬ _ = _; omega)) _).mono ?_; rintro e w4 ⟨hx, hR4, hT4⟩; subst hx))
          go_roundg (60 - k)
          case measure => omega
          case rel => exact ⟨k + 4, by omega, by omega, by go_num, _, hB'.step hM3 hT3 hR4 hT4 (fun i e => by omega) (fun i e => by omega)⟩
        · go_wp2_with (first
            | (go_at_call 8; refine (within_any _ _ _ (by omega) (by omega)).mono ?_; rintro e wq ⟨rfl, rfl⟩)
            | (go_at_call 13; refine (copy_any hM _ _).mono ?_; rintro e w3 ⟨hx, hM3, hT3⟩; subst hx)
            | (go_at_call 23; refine (rcopy_any (hR.touch hT3 (by show ¬ _ = _; omega) (by show ¬ _ = _; omega) (by show ¬ _ = _; omega) (by show ¬ _ = _; omega)) _ _).mono ?_; rintro e w4 ⟨hx, hR4, hT4⟩; subst hx))
          go_roundg (60 - k)
          case measure => omega
          case rel => exact ⟨k + 4, by omega, by omega, by go_num, _, hB'.step hM3 hT3 hR4 hT4 (fun i e => by omega) (fun i e => by omega)⟩
        · go_wp2_with (first
            | (go_at_call 8; refine (within_any _ _ _ (by omega) (by omega)).mono ?_; rintro e wq ⟨rfl, rfl⟩)
            | (go_at_call 13; refine (copy_any hM _ _).mono ?_; rintro e w3 ⟨hx, hM3, hT3⟩; subst hx)
            | (go_at_call 23; refine (rcopy_any (hR.touch hT3 (by show ¬ _ = _; omega) (by show ¬ _ = _; omega) (by show ¬ _ = _; omega) (by show ¬ _ = _; omega)) _ _).mono ?_; rintro e w4 ⟨hx, hR4, hT4⟩; subst hx))
          go_roundg (60 - k)
          case measure => omega
          case rel => exact ⟨k + 4, by omega, by omega, by go_num, _, hB'.step hM3 hT3 hR4 hT4 (fun i e => by omega) (fun i e => by omega)⟩
        · have c2n : wc.cell? ⟨b1, o1 + ((k : Int) + 2).toNat, none⟩ = some (.int .i64 y2) := by rw [show ((k : Int) + 2).toNat = k + 2 by omega]; exact c2
          go_wp2_with (go_at_call 8; refine (within_any _ _ _ (by omega) (by omega)).mono ?_; rintro e wq ⟨rfl, rfl⟩)
          go_region_held3 (fun wx => wx.cell? ⟨b1, o1 + ((k : Int) + 2).toNat, none⟩ = some (.int .i64 y2)) (first | exact c2n | exact c4 | exact c5)
            (first
              | (go_at_call 11; refine (mark_any hM.drew _ _ _).mono ?_; rintro e w3 ⟨hx, hM3, hT3⟩; subst hx; have c4 : w3.cell? ⟨b1, o1 + ((k : Int) + 2).toNat, none⟩ = some (.int .i64 y2) := (World.cell?_of_block (hT3.block b1 (by show b1 < wc.heap.size; omega) (by show ¬ _ = _; omega))).trans c2n)
              | (go_at_call 24; refine (rmark_any (hR.drew.touch hT3 (by show ¬ _ = _; omega) (by show ¬ _ = _; omega) (by show ¬ _ = _; omega) (by show ¬ _ = _; omega)) _ _ _).mono ?_; rintro e w4 ⟨hx, hR4, hT4⟩; subst hx; have c5 : w4.cell? ⟨b1, o1 + ((k : Int) + 2).toNat, none⟩ = some (.int .i64 y2) := (World.cell?_of_block (hT4.block b1 (by have := hT3.size; have : wc.heap.size ≤ w3.heap.size := this; omega) (by show ¬ (_ ∨ _); omega))).trans c4))
          go_wp2
          go_roundg (60 - k)
          case measure => omega
          case rel => exact ⟨k + 4, by omega, by omega, by go_num, _, (hB'.drew ((Drew.self wc).drew)).step hM3 hT3 hR4 hT4 (fun i e => by omega) (fun i e => by omega)⟩
        · go_wp2_with (first
            | (go_at_call 19; refine (clone_any hM).mono ?_; rintro e w3 ⟨b2, q2, hx, hb2, hq2, hK, hT3⟩; subst hx; have hR3 := hR.touch hT3 id id id id)
            | (go_at_call 25; refine (same_any hK hR3).mono ?_; rintro e w4 ⟨hx, hD4⟩; subst hx; have hK4 := hD4.mem hK; have hT4 := hT3.transNew (hD4.touch (S := Nil)) (by intro i h e; exact e.elim))
            | (go_at_call 17; refine (write_any hK4 _ _ (by omega)).mono ?_; rintro e w5 ⟨hx, hK5, hT5⟩; subst hx; have hT5' := hT4.transNew hT5 (by intro i h e; have : i = q2 := e; omega))
            | (go_at_call 11; refine (mark_any hK5 _ _ _).mono ?_; rintro e w6 ⟨hx, hK6, hT6⟩; subst hx; have hT6' := hT5'.transNew hT6 (by intro i h e; have : i = q2 := e; omega)))
          go_roundg (60 - k)
          case measure => omega
          case rel => exact ⟨k + 4, by omega, by omega, by go_num, _, hB'.away hT6'⟩
    · by_cases hl : k + 3 < len1
      · have k1 : (k : Int) + 3 < len1 := by omega
        have k2 : decide ((k : Int) < 60) = false := by simp; omega
        have hM := hB.m
        have hR := hB.r
        go_wp2_with (first
          | (go_at_call 25; refine (same_any hM hR).mono ?_; rintro e w4 ⟨hx, hD4⟩; subst hx)
          | (go_at_call 18; refine (wakes2_any _).mono ?_; rintro e w9 ⟨rfl, hT9⟩))
        go_ret
        exact ⟨rfl, (hB.drew hD4).bel.trans (hT9.below (hB.drew hD4).bel.size (fun _ e => e.elim))⟩
      · have k1 : decide ((k : Int) + 3 < len1) = false := by simp; omega
        have hM := hB.m
        have hR := hB.r
        go_wp2_with (first
          | (go_at_call 25; refine (same_any hM hR).mono ?_; rintro e w4 ⟨hx, hD4⟩; subst hx)
          | (go_at_call 18; refine (wakes2_any _).mono ?_; rintro e w9 ⟨rfl, hT9⟩))
        go_ret
        exact ⟨rfl, (hB.drew hD4).bel.trans (hT9.below (hB.drew hD4).bel.size (fun _ e => e.elim))⟩
end Go.Proofs.Ytcjjjlbafpefpaa

/-
  The walk of CachePlays.
-/
import Derived.Test.YtjfdjlinjghddaaRCacheH
import Derived.Test.YtjfdjlinjghddaaCacheH
import Derived.Test.YtjfdjlinjghddaaSlices
import Derived.Deep.DeepCutAuto
namespace Go.Proofs.Ytjfdjlinjghddaa
open Go.ChangeShapes Go.WideShapes Go.ChangeAt Go.RowKit

/-- Both, side by side: ours below hi, the document's own from there on. -/
structure Two (w : World) (b hi r : Nat) (wr : World) (q : CQ) : Prop where
  c : CAt wr b w.heap.size hi q
  u : RCAt wr r hi q
  t : Touch Nil w wr
  z : hi ≤ wr.heap.size
  l : w.heap.size ≤ hi
namespace Two
variable {w : World} {b hi r : Nat} {wr wa wb : World} {q q' : CQ}
theorem u' (h : Two w b hi r wr q) (t : Touch (fun y => w.heap.size ≤ y ∧ y < hi) wr wa) : RCAt wa r hi q := h.u.touch t (fun k h1 _ e => by omega)
theorem step (h : Two w b hi r wr q) (hC : CAt wa b w.heap.size hi q') (tC : Touch (fun y => w.heap.size ≤ y ∧ y < hi) wr wa) (hU : RCAt wb r hi q') (tU : Touch (hi ≤ ·) wa wb) : Two w b hi r wb q' :=
  have hl := h.l
  ⟨hC.touch tU (fun k _ h2 e => by have : hi ≤ k := e; omega), hU, (h.t.transNew tC (fun i hi e => by omega)).transNew tU (fun i hi e => by have := e; omega), Nat.le_trans h.z (Nat.le_trans tC.size tU.size), hl⟩
theorem away (h : Two w b hi r wr q) (t : Touch Nil wr wb) : Two w b hi r wb q :=
  ⟨h.c.touch t (fun _ _ _ e => e), h.u.touch t (fun _ _ _ e => e), h.t.trans t, Nat.le_trans h.z t.size, h.l⟩
theorem bel (h : Two w b hi r wr q) : Below w.heap.size w wr := h.t.below (Nat.le_refl _) (fun _ e => e.elim)
end Two

set_option maxRecDepth 10000 in
set_option maxHeartbeats 8000000 in
theorem cachePlays_walk (a0 : Int) (a1 : Option Addr) (len1 cap1 : Nat) (z1 : List Int) (w : World) (r1 : Row .i64 w a1 len1 cap1 z1) :
    Calls Try.prog 6 #[.int .i64 a0, .slice a1 len1 cap1] w fun e w' => e = .returned (.bool true) ∧ Below w.heap.size w w' := by
  obtain ⟨hm1, p1⟩ := r1.plain
  unfold maxLen at hm1
  clear r1
  go_enter Try.func6, Try.ntmps6
  go_upto_if 15 with fail
  go_cut [0] (fun v wx => w = wx ∧ ∃ u : Int, v = .int .i64 u)
  case first =>
    by_cases h4 : a0.tmod 5 = 4
    · go_wp2
      go_meet
      exact ⟨rfl, _, rfl⟩
    · go_wp2_with (go_at_call 14; refine (within_any _ _ _ (by omega) (by omega)).mono ?_; rintro e wq ⟨rfl, rfl⟩)
      go_meet
      exact ⟨rfl, _, rfl⟩
  case rest =>
  obtain ⟨rfl, u, rfl⟩ := hcut
  go_wp2_with (first
    | (go_at_call 9; refine (cnew_any _ _).mono ?_; rintro e w1 ⟨hx, hC, hT⟩; subst hx)
    | (go_at_call 19; refine (rcnew_any _ _).mono ?_; rintro e w2 ⟨hx, hR, hT2⟩; subst hx))
  have hF0 : Two w (w.heap.size + 4) w1.heap.size (w1.heap.size + 1) w2 (CQ.fresh (CQ.many u)) := ⟨hC.touch hT2 (fun _ _ _ e => e), hR, hT.trans hT2, hT2.size, hT.size⟩
  clear hC hT hR hT2
  generalize CQ.fresh (CQ.many u) = q0 at *
  generalize w.heap.size + 4 = b at *
  generalize w1.heap.size + 1 = r at *
  generalize w1.heap.size = hi at *
  go_loopg [7] 100 (fun g i wr => ∃ k : Nat, g + k = 100 ∧ k % 2 = 0 ∧ i = .int .i64 k ∧ ∃ q, Two w b hi r wr q)
  case atStart => exact ⟨0, by omega, by omega, rfl, _, hF0⟩
  case round =>
    clear hF0
    obtain ⟨k, hgk, hk2, rfl, q, hF⟩ := hrel
    by_cases hgo : k + 1 < len1 ∧ k < 100
    · obtain ⟨hg1, hg2⟩ := hgo
      rcases p1 with p1 | ⟨b1, o1, rfl, hb1, hc1⟩
      · omega
      have c0 := Plain.cell hc1 hb1 hF.bel k (by omega)
      have c1 := Plain.cell hc1 hb1 hF.bel (k + 1) (by omega)
      have f0 := bounds_i64 (hc1 k (by omega)).2
      have f1 := bounds_i64 (hc1 (k + 1) (by omega)).2
      obtain ⟨y0, hy0⟩ : ∃ y, z1.getD k 0 = y := ⟨_, rfl⟩
      obtain ⟨y1, hy1⟩ : ∃ y, z1.getD (k + 1) 0 = y := ⟨_, rfl⟩
      rw [hy0] at c0 f0
      rw [hy1] at c1 f1
      have k1 : (k : Int) + 1 < len1 := by omega
      have k2 : (k : Int) < 100 := by omega
      have k3 : (k : Int) < len1 := by omega
      have v1 : IntKind.i64.wrap (y0.tdiv 8) = y0.tdiv 8 := by
        have := tdiv_two y0 8 (by omega)
        rw [IntKind.wrap_i64]; omega
      go_upto_region 9 with fail
      go_cut [8, 9] (fun s8 s9 wx => Touch Nil wr wx ∧ ∃ u x : Int, s8 = .int .i64 u ∧ s9 = .int .i64 x ∧ x < 9223372036854775808)
      case first =>
        go_quiet ((go_at_call 14; exact Calls.quiet_of_same (within_q' _ _ _ (by omega) (by omega))))
        go_wp2
        go_meet
        exact ⟨(Touch.refl Nil _).drews _, _, _, rfl, rfl, by omega⟩
      case rest =>
      obtain ⟨t9, u9, x9, rfl, rfl, hx9⟩ := hcut
      replace hF := hF.away t9
      clear c0 c1 t9 v1
      have c0 := Plain.cell hc1 hb1 hF.bel k (by omega)
      have c1 := Plain.cell hc1 hb1 hF.bel (k + 1) (by omega)
      rw [hy0] at c0
      rw [hy1] at c1
      go_upto_if 54 with fail
      go_cut [8, 9] (fun s8 s9 wx => Touch Nil wc wx ∧ ∃ u x : Int, s8 = .int .i64 u ∧ s9 = .int .i64 x ∧ x < 9223372036854775808)
      case first =>
        by_cases h30 : y0.tmod 31 = 30
        · go_upto_region 11 with fail
          go_quiet (fail)
          go_wp2
          go_meet
          exact ⟨(Touch.refl Nil _).drews _, _, _, rfl, rfl, by omega⟩
        · go_wp2
          go_meet
          exact ⟨Touch.refl Nil _, _, _, rfl, rfl, by omega⟩
      case rest =>
      clear hx9
      obtain ⟨t9, u9, x9, rfl, rfl, hx9⟩ := hcut
      replace hF := hF.away t9
      clear c0 c1 t9
      have c0 := Plain.cell hc1 hb1 hF.bel k (by omega)
      rw [hy0] at c0
      go_upto_region 13 with fail
      go_cut [68] (fun v wx => wc = wx ∧ v = .int .i64 (y0 % 8))
      case first =>
        go_wp2_with (go_at_call 14; refine (within_any _ _ _ (by omega) (by omega)).mono ?_; rintro e wq ⟨rfl, rfl⟩)
        go_meet
        exact ⟨rfl, rfl⟩
      case rest =>
      obtain ⟨rfl, rfl⟩ := hcut
      apply_assumption
      go_cut [10, 11, 12] from 24 to 136 (fun s10 s11 _ wx => ∃ ok q', s10 = .bool ok ∧ s11 = .bool ok ∧ Two w b hi r wx q')
      case first =>
        go_upto_if 91 with fail
        go_cut [91] (fun v wx => wc = wx ∧ v = .bool (decide (y0 % 8 ≤ 4)))
        case first =>
          have hv : y0 % 8 = 0 ∨ y0 % 8 = 1 ∨ y0 % 8 = 2 ∨ y0 % 8 = 3 ∨ y0 % 8 = 4 ∨ (4 < y0 % 8) := by omega
          rcases hv with hv | hv | hv | hv | hv | hv
          iterate 5
           · go_wp2
             go_meet
             exact ⟨rfl, by simp [hv]⟩
          · have e0 : (y0 % 8 == 0) = false := by simp; omega
            have e1 : (y0 % 8 == 1) = false := by simp; omega
            have e2 : (y0 % 8 == 2) = false := by simp; omega
            have e3 : (y0 % 8 == 3) = false := by simp; omega
            have e4 : (y0 % 8 == 4) = false := by simp; omega
            go_wp2
            go_meet
            exact ⟨rfl, by simp; omega⟩
        case rest =>
        obtain ⟨rfl, rfl⟩ := hcut
        by_cases h4 : y0 % 8 ≤ 4
        · go_wp2_with (first
            | (go_at_call 10; refine (ctouch_any hF.c _ _ hx9).mono ?_; rintro e w5 ⟨hx, hC5, t5⟩; subst hx)
            | (go_at_call 20; refine (rtouch_any (hF.u' t5) _ _).mono ?_; rintro e w6 ⟨hx, hU6, t6⟩; subst hx))
          go_meet
          exact ⟨_, _, rfl, rfl, hF.step hC5 t5 hU6 t6⟩
        · have hv : y0 % 8 = 5 ∨ y0 % 8 = 6 ∨ y0 % 8 = 7 := by omega
          clear h4
          rcases hv with hv | hv | hv
          · go_wp2_with (first
              | (go_at_call 17; refine (cevict_any hF.c _ _ hx9).mono ?_; rintro e w5 ⟨hx, hC5, t5⟩; subst hx)
              | (go_at_call 21; refine (revict_any (hF.u' t5) _ _).mono ?_; rintro e w6 ⟨hx, hU6, t6⟩; subst hx))
            go_meet
            exact ⟨_, _, rfl, rfl, hF.step hC5 t5 hU6 t6⟩
          · go_wp2_with (first
              | (go_at_call 16; refine (cclear_any hF.c _ hx9).mono ?_; rintro e w5 ⟨hx, hC5, t5⟩; subst hx)
              | (go_at_call 22; refine (rclear_any (hF.u' t5) _).mono ?_; rintro e w6 ⟨hx, hU6, t6⟩; subst hx))
            go_meet
            exact ⟨_, _, rfl, rfl, hF.step hC5 t5 hU6 t6⟩
          · go_wp2_with (first
              | (go_at_call 23; refine (cclone_any hF.c).mono ?_; rintro e w5 ⟨b5, hx, hK, hT⟩; subst hx; generalize w5.heap.size = h5 at hK)
              | (go_at_call 24; refine (csame_any hK (hF.away hT).u).mono ?_; rintro e w6 ⟨hx, t6⟩; subst hx; replace hK := hK.touch t6 (fun _ _ _ e => e); replace hT := hT.trans t6)
              | (go_at_call 10; refine (ctouch_any hK _ _ (by omega)).mono ?_; rintro e w7 ⟨hx, hK7, t7⟩; subst hx; replace hT := hT.transNew t7 (fun i h e => by omega))
              | (go_at_call 16; refine (cclear_any hK7 _ (by omega)).mono ?_; rintro e w8 ⟨hx, hK8, t8⟩; subst hx; replace hT := hT.transNew t8 (fun i h e => by omega))
              | (go_at_call 15; refine (cnear_t (hF.away hT).c _ _ hx9).mono ?_; rintro e w9 ⟨hx, t9⟩; subst hx; replace hT := hT.trans t9)
              | (go_at_call 25; refine (rnear_any (hF.away hT).u _ _).mono ?_; rintro e w10 ⟨hx, rfl⟩; subst hx))
            go_meet
            exact ⟨_, _, rfl, rfl, hF.away hT⟩
      case rest =>
      clear hF c0
      obtain ⟨ok, q', rfl, rfl, hF⟩ := hcut
      go_wp2_with (first
        | (go_at_call 15; refine (cnear_t hF.c _ _ hx9).mono ?_; rintro e w9 ⟨hx, t9⟩; subst hx; replace hF := hF.away t9)
        | (go_at_call 25; refine (rnear_any hF.u _ _).mono ?_; rintro e w10 ⟨hx, rfl⟩; subst hx))
      go_roundg (98 - k)
      case measure => omega
      case rel => exact ⟨k + 2, by omega, by omega, by go_num, _, hF⟩
    · by_cases hl : k + 1 < len1
      · have k1 : (k : Int) + 1 < len1 := by omega
        have k2 : decide ((k : Int) < 100) = false := by simp; omega
        go_wp2_with (first
          | (go_at_call 24; refine (csame_any hF.c hF.u).mono ?_; rintro e w4 ⟨hx, t4⟩; subst hx; replace hF := hF.away t4)
          | (go_at_call 18; refine (wakes4_any _).mono ?_; rintro e w9 ⟨rfl, t9⟩; replace hF := hF.away t9))
        go_ret
        exact ⟨rfl, hF.bel⟩
      · have k1 : decide ((k : Int) + 1 < len1) = false := by simp; omega
        go_wp2_with (first
          | (go_at_call 24; refine (csame_any hF.c hF.u).mono ?_; rintro e w4 ⟨hx, t4⟩; subst hx; replace hF := hF.away t4)
          | (go_at_call 18; refine (wakes4_any _).mono ?_; rintro e w9 ⟨rfl, t9⟩; replace hF := hF.away t9))
        go_ret
        exact ⟨rfl, hF.bel⟩
end Go.Proofs.Ytjfdjlinjghddaa

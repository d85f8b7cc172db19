/-
  AreaPlays: its walk.
-/
import Derived.Test.YtcjfdgkhlidakaaAreaPa
namespace Go.Proofs.Ytcjfdgkhlidakaa
open Go.ChangeShapes Go.WideShapes Go.ChangeAt Go.RowKit

set_option maxRecDepth 20000 in
set_option maxHeartbeats 16000000 in
theorem areaPlays_walk (a0 : Option Addr) (len0 cap0 : Nat) (z0 : List Int) (w : World) (r0 : Row .i64 w a0 len0 cap0 z0) :
    Calls Try.prog 3 #[.slice a0 len0 cap0] w fun e w' => e = .returned (.bool true) ∧ Touch Nil w w' := by
  obtain ⟨hm0, p0⟩ := r0.plain
  unfold maxLen at hm0
  clear r0
  go_enter Try.func3, Try.ntmps3
  go_wp2_with fail
  with_reducible refine (anew_any w).mono ?_
  rintro e w1 ⟨rfl, h1, T1, s1⟩
  go_wp2_with fail
  with_reducible refine (rnew_any w1).mono ?_
  rintro e w2 ⟨rfl, k2, t2⟩
  have h2 := h1.touch t2 (by simp [Nil])
  have T2 := T1.trans t2
  rw [s1] at k2
  rw [s1]
  generalize hB : w.heap.size = B at h2 k2 s1 ⊢
  clear h1 T1 t2 s1
  go_wp2_with fail
  go_loopg [5] 80 (fun g i wr => ∃ (k : Nat) (R : Nat → Int), g + k = 80 ∧ k % 4 = 0 ∧ i = .int .i64 k ∧ Aside (AAt wr B R) ∧ Aside (RAt wr (B + 1) R) ∧ Aside (Touch Nil w wr))
  case atStart => exact ⟨0, _, by omega, by omega, rfl, h2, k2, T2⟩
  case round =>
    clear h2 k2 T2
    obtain ⟨k, R, hgk, hk4, rfl, hA, hR, tk⟩ := hrel
    by_cases hgo : k + 3 < len0 ∧ k < 80
    · obtain ⟨g1, g2⟩ := hgo
      rcases p0 with p0 | ⟨b0, o0, rfl, hb0, hc0⟩
      · omega
      have cz := fun j (hj : j < len0) wx (t : Touch Nil wr wx) => Plain.cell hc0 hb0 ((tk.out.trans t).below (Nat.le_refl _) (fun _ e => e.elim)) j hj
      have cw := fun j (hj : j < len0) => bounds_i64 (hc0 j hj).2
      have z0' := cz k (by omega)
      have z1' := cz (k + 1) (by omega)
      have z2' := cz (k + 2) (by omega)
      have z3' := cz (k + 3) (by omega)
      have b1 := cw (k + 1) (by omega)
      have b2 := cw (k + 2) (by omega)
      clear cz cw hc0
      generalize z0.getD k 0 = y0 at *
      generalize z0.getD (k + 1) 0 = y1 at *
      generalize z0.getD (k + 2) 0 = y2 at *
      generalize z0.getD (k + 3) 0 = y3 at *
      have k1 : (k : Int) + 3 < len0 := by omega
      have k2 : (k : Int) < 80 := by omega
      have k3 : (k : Int) < len0 := by omega
      have k4 : (k : Int) + 1 < len0 := by omega
      have k5 : (k : Int) + 2 < len0 := by omega
      have k6 : (0 : Int) ≤ (k : Int) + 1 := by omega
      have k7 : (0 : Int) ≤ (k : Int) + 2 := by omega
      have k8 : (0 : Int) ≤ (k : Int) + 3 := by omega
      have q1 : IntKind.i64.wrap ((k : Int) + 1) = (k : Int) + 1 := by rw [IntKind.wrap_i64]; omega
      have q2 : IntKind.i64.wrap ((k : Int) + 2) = (k : Int) + 2 := by rw [IntKind.wrap_i64]; omega
      have q3 : IntKind.i64.wrap ((k : Int) + 3) = (k : Int) + 3 := by rw [IntKind.wrap_i64]; omega
      replace z0' : Hid _ := z0'
      replace z1' : Hid _ := z1'
      replace z2' : Hid _ := z2'
      replace z3' : Hid _ := z3'
      go_upto_region 7 with fail
      refine area7 b0 o0 len0 cap0 k _ _ _ _ _ _ _ _ _ _ _ _ _ _ _ _ _ _ _ _ _ _ _ _ _ _ _ _ _ _ _ _ _ _ _ _ _ _ _ _ _ _ _ _ _ _ _ _ _ _ _ _ _ _ _ _ _ _ _ _ _ _ _ _ _ _ _ _ _ _ _ _ _ _ _ _ _ _ _ _ _ _ _ _ _ _ _ _ _ _ _ _ _ _ _ _ _ _ _ _ _ _ _ _ _ _ _ _ _ _ _ _ _ _ _ _ _ _ _ _ _ _ _ _ _ _ _ _ _ _ _ _ _ _ _ _ _ _ _ _ _ _ _ _ _ _ _ _ _ _ _ _ _ _ _ _ _ _ _ _ _ _ _ _ _ _ _ _ _ _ _ _ _ _ wr y1 y2 y3 (fun _ _ _ _ _ h => h) g1 g2 z1'.out z2'.out z3'.out (fun f n q v31 v32 v33 v34 v35 v36 v37 v38 v39 v40 v41 v42 v43 v44 v45 v46 v47 v48 v49 v50 v51 wc hf tc => ?_)
      replace hf : Aside _ := hf
      replace tc : Aside _ := tc
      apply_assumption
      have c1 := z1'.out wc tc.out
      have c2 := z2'.out wc tc.out
      have c0 := z0'.out wc tc.out
      go_upto_if 58 with fail
      go_cut [6] (fun v wx => ∃ f : Int, v = .int .i64 f ∧ Aside (f ≤ 9223372036854775807) ∧ wx = wc)
      case first =>
        have hW := fun w1 => within_any y2 10 w1 (by decide) (by decide)
        obtain ⟨g, hg, hg'⟩ : ∃ g : Int, (0 ≤ g ∧ g < 10) ∧ y2 % 10 = g := ⟨_, by omega, rfl⟩
        rw [hg'] at hW
        have q4 : IntKind.i64.wrap (250 + g) = 250 + g := by rw [IntKind.wrap_i64]; omega
        have hf2 : Hid (250 + g ≤ 9223372036854775807) := by show _ ≤ _; omega
        replace hf : Hid _ := hf
        clear hA hR tk tc z0' z1' z2' z3' c0 c1 b1 b2 hg' hgk hk4
        cases hb : (y1.tmod 9 == 8)
        · go_wp2
          go_meet
          exact ⟨f, rfl, hf.out, rfl⟩
        · go_wp2_with (refine (hW _).mono ?_; rintro e wq ⟨rfl, rfl⟩)
          go_meet
          exact ⟨_, rfl, hf2.out, rfl⟩
      case rest =>
      obtain ⟨f, rfl, hf, rfl⟩ := hcut
      go_upto_if 71 with fail
      go_cut [6, 7, 8] (fun v6 v7 v8 wx => ∃ f n q : Int, v6 = .int .i64 f ∧ v7 = .int .i64 n ∧ v8 = .int .i64 q ∧ Aside (f ≤ 9223372036854775807) ∧ Aside (Touch Nil wr wx))
      case first =>
        have c3 := z3'.out wc tc.out
        have hf2 : Hid (y1 ≤ 9223372036854775807) := by show _ ≤ _; omega
        replace hf : Hid _ := hf
        have td : ∀ m, Hid (Touch Nil wr (wc.drewN m)) := fun m => tc.out.drews m
        have t0 : Hid (Touch Nil wr wc) := tc.out
        clear hA hR tk tc z0' z1' z2' z3' b1 b2 hgk hk4
        cases hb : (y0.tmod 31 == 30)
        · go_wp2
          go_meet
          exact ⟨_, _, _, rfl, rfl, rfl, hf.out, t0.out⟩
        · go_upto_region 11 with fail
          go_quiet (fail)
          go_wp2
          go_meet
          exact ⟨_, _, _, rfl, rfl, rfl, hf2.out, (td _).out⟩
      case rest =>
      obtain ⟨f, n, q, rfl, rfl, rfl, hf, tc⟩ := hcut
      have c0 := z0'.out wc tc.out
      have hAc := hA.out.touch tc.out (by simp [Nil])
      have hRc := hR.out.touch tc.out (by simp [Nil])
      have Tc := tk.out.trans tc.out
      have hV := fun w1 => within_any y0 9 w1 (by decide) (by decide)
      obtain ⟨v, hv, hv'⟩ : ∃ v : Nat, v < 9 ∧ y0 % 9 = v := ⟨(y0 % 9).toNat, by omega, by omega⟩
      rw [hv'] at hV
      clear hv' hA hR tk tc z0' z1' z2' z3' b1 b2 k4 k5 k6 k7 k8 q1 q2 q3
      replace hf : Hid _ := hf
      have wB : w.heap.size = B := hB
      rcases (by omega : v = 0 ∨ v = 1 ∨ v = 2 ∨ v = 3 ∨ v = 4 ∨ v = 5 ∨ v = 6 ∨ v = 7 ∨ v = 8) with rfl | rfl | rfl | rfl | rfl | rfl | rfl | rfl | rfl
      · obtain ⟨⟨c, R2⟩, ec⟩ : ∃ z, addA R f n q = z := ⟨_, rfl⟩
        have hd := add_k hAc f n q ec hf.out
        go_wp2_with fail
        with_reducible refine (hV _).mono ?_
        rintro e wq ⟨rfl, rfl⟩
        clear c0 hV
        go_wp2_with fail
        with_reducible refine hd.mono ?_
        rintro e w4 ⟨rfl, h4, t4⟩
        have k4 := hRc.touch t4 (by omega)
        have T4 := Tc.transNew t4 (fun i hi e => by omega)
        have he := radd_k k4 f n q ec
        clear hd hAc hRc Tc t4 k4 ec
        go_wp2_with fail
        with_reducible refine he.mono ?_
        rintro e w5 ⟨rfl, k5, t5⟩
        have h5 := h4.touch t5 (by omega)
        have T5 := T4.transNew t5 (fun i hi e => by omega)
        clear he h4 t5 T4
        obtain ⟨⟨x, b⟩, er⟩ : ∃ z, rtsA R2 f = z := ⟨_, rfl⟩
        have hr1 := rts_k h5 f er hf.out
        go_wp2_with fail
        with_reducible refine hr1.mono ?_
        rintro e w6 ⟨rfl, t6⟩
        have hr2 := rrts_k (k5.touch t6 (by simp [Nil])) f er
        have h6 := h5.touch t6 (by simp [Nil])
        have k6 := k5.touch t6 (by simp [Nil])
        have T6 := T5.trans t6
        clear hr1 h5 k5 T5 t6 er
        go_wp2_with fail
        with_reducible refine hr2.mono ?_
        rintro e w7 ⟨rfl, t7⟩
        have h7 : Aside (AAt w7 B R2) := h6.touch t7 (by simp [Nil])
        have k7 : Aside (RAt w7 (B + 1) R2) := k6.touch t7 (by simp [Nil])
        have T7 : Aside (Touch Nil w w7) := T6.trans t7
        clear hr2 h6 k6 T6 t7
        go_wp2_with fail
        go_roundg (76 - k)
        case measure => omega
        case rel => exact ⟨k + 4, R2, by omega, by omega, by go_num, h7, k7, T7⟩
      · obtain ⟨⟨c, R2⟩, ec⟩ : ∃ z, addA R f n q = z := ⟨_, rfl⟩
        have hd := add_k hAc f n q ec hf.out
        go_wp2_with fail
        with_reducible refine (hV _).mono ?_
        rintro e wq ⟨rfl, rfl⟩
        clear c0 hV
        go_wp2_with fail
        with_reducible refine hd.mono ?_
        rintro e w4 ⟨rfl, h4, t4⟩
        have k4 := hRc.touch t4 (by omega)
        have T4 := Tc.transNew t4 (fun i hi e => by omega)
        have he := radd_k k4 f n q ec
        clear hd hAc hRc Tc t4 k4 ec
        go_wp2_with fail
        with_reducible refine he.mono ?_
        rintro e w5 ⟨rfl, k5, t5⟩
        have h5 := h4.touch t5 (by omega)
        have T5 := T4.transNew t5 (fun i hi e => by omega)
        clear he h4 t5 T4
        obtain ⟨⟨x, b⟩, er⟩ : ∃ z, rtsA R2 f = z := ⟨_, rfl⟩
        have hr1 := rts_k h5 f er hf.out
        go_wp2_with fail
        with_reducible refine hr1.mono ?_
        rintro e w6 ⟨rfl, t6⟩
        have hr2 := rrts_k (k5.touch t6 (by simp [Nil])) f er
        have h6 := h5.touch t6 (by simp [Nil])
        have k6 := k5.touch t6 (by simp [Nil])
        have T6 := T5.trans t6
        clear hr1 h5 k5 T5 t6 er
        go_wp2_with fail
        with_reducible refine hr2.mono ?_
        rintro e w7 ⟨rfl, t7⟩
        have h7 : Aside (AAt w7 B R2) := h6.touch t7 (by simp [Nil])
        have k7 : Aside (RAt w7 (B + 1) R2) := k6.touch t7 (by simp [Nil])
        have T7 : Aside (Touch Nil w w7) := T6.trans t7
        clear hr2 h6 k6 T6 t7
        go_wp2_with fail
        go_roundg (76 - k)
        case measure => omega
        case rel => exact ⟨k + 4, R2, by omega, by omega, by go_num, h7, k7, T7⟩
      · obtain ⟨⟨c, R2⟩, ec⟩ : ∃ z, addA R f n q = z := ⟨_, rfl⟩
        have hd := add_k hAc f n q ec hf.out
        go_wp2_with fail
        with_reducible refine (hV _).mono ?_
        rintro e wq ⟨rfl, rfl⟩
        clear c0 hV
        go_wp2_with fail
        with_reducible refine hd.mono ?_
        rintro e w4 ⟨rfl, h4, t4⟩
        have k4 := hRc.touch t4 (by omega)
        have T4 := Tc.transNew t4 (fun i hi e => by omega)
        have he := radd_k k4 f n q ec
        clear hd hAc hRc Tc t4 k4 ec
        go_wp2_with fail
        with_reducible refine he.mono ?_
        rintro e w5 ⟨rfl, k5, t5⟩
        have h5 := h4.touch t5 (by omega)
        have T5 := T4.transNew t5 (fun i hi e => by omega)
        clear he h4 t5 T4
        obtain ⟨⟨x, b⟩, er⟩ : ∃ z, rtsA R2 f = z := ⟨_, rfl⟩
        have hr1 := rts_k h5 f er hf.out
        go_wp2_with fail
        with_reducible refine hr1.mono ?_
        rintro e w6 ⟨rfl, t6⟩
        have hr2 := rrts_k (k5.touch t6 (by simp [Nil])) f er
        have h6 := h5.touch t6 (by simp [Nil])
        have k6 := k5.touch t6 (by simp [Nil])
        have T6 := T5.trans t6
        clear hr1 h5 k5 T5 t6 er
        go_wp2_with fail
        with_reducible refine hr2.mono ?_
        rintro e w7 ⟨rfl, t7⟩
        have h7 : Aside (AAt w7 B R2) := h6.touch t7 (by simp [Nil])
        have k7 : Aside (RAt w7 (B + 1) R2) := k6.touch t7 (by simp [Nil])
        have T7 : Aside (Touch Nil w w7) := T6.trans t7
        clear hr2 h6 k6 T6 t7
        go_wp2_with fail
        go_roundg (76 - k)
        case measure => omega
        case rel => exact ⟨k + 4, R2, by omega, by omega, by go_num, h7, k7, T7⟩
      · obtain ⟨⟨c, R2⟩, ec⟩ : ∃ z, addA R f n q = z := ⟨_, rfl⟩
        have hd := add_k hAc f n q ec hf.out
        go_wp2_with fail
        with_reducible refine (hV _).mono ?_
        rintro e wq ⟨rfl, rfl⟩
        clear c0 hV
        go_wp2_with fail
        with_reducible refine hd.mono ?_
        rintro e w4 ⟨rfl, h4, t4⟩
        have k4 := hRc.touch t4 (by omega)
        have T4 := Tc.transNew t4 (fun i hi e => by omega)
        have he := radd_k k4 f n q ec
        clear hd hAc hRc Tc t4 k4 ec
        go_wp2_with fail
        with_reducible refine he.mono ?_
        rintro e w5 ⟨rfl, k5, t5⟩
        have h5 := h4.touch t5 (by omega)
        have T5 := T4.transNew t5 (fun i hi e => by omega)
        clear he h4 t5 T4
        obtain ⟨⟨x, b⟩, er⟩ : ∃ z, rtsA R2 f = z := ⟨_, rfl⟩
        have hr1 := rts_k h5 f er hf.out
        go_wp2_with fail
        with_reducible refine hr1.mono ?_
        rintro e w6 ⟨rfl, t6⟩
        have hr2 := rrts_k (k5.touch t6 (by simp [Nil])) f er
        have h6 := h5.touch t6 (by simp [Nil])
        have k6 := k5.touch t6 (by simp [Nil])
        have T6 := T5.trans t6
        clear hr1 h5 k5 T5 t6 er
        go_wp2_with fail
        with_reducible refine hr2.mono ?_
        rintro e w7 ⟨rfl, t7⟩
        have h7 : Aside (AAt w7 B R2) := h6.touch t7 (by simp [Nil])
        have k7 : Aside (RAt w7 (B + 1) R2) := k6.touch t7 (by simp [Nil])
        have T7 : Aside (Touch Nil w w7) := T6.trans t7
        clear hr2 h6 k6 T6 t7
        go_wp2_with fail
        go_roundg (76 - k)
        case measure => omega
        case rel => exact ⟨k + 4, R2, by omega, by omega, by go_num, h7, k7, T7⟩
      · obtain ⟨⟨c, R2⟩, ec⟩ : ∃ z, cutA R f n = z := ⟨_, rfl⟩
        have hd := cut_k hAc f n ec hf.out
        go_wp2_with fail
        with_reducible refine (hV _).mono ?_
        rintro e wq ⟨rfl, rfl⟩
        clear c0 hV
        go_wp2_with fail
        with_reducible refine hd.mono ?_
        rintro e w4 ⟨rfl, h4, t4⟩
        have k4 := hRc.touch t4 (by omega)
        have T4 := Tc.transNew t4 (fun i hi e => by omega)
        have he := rcut_k k4 f n ec
        clear hd hAc hRc Tc t4 k4 ec
        go_wp2_with fail
        with_reducible refine he.mono ?_
        rintro e w5 ⟨rfl, k5, t5⟩
        have h5 := h4.touch t5 (by omega)
        have T5 := T4.transNew t5 (fun i hi e => by omega)
        clear he h4 t5 T4
        obtain ⟨⟨x, b⟩, er⟩ : ∃ z, rtsA R2 f = z := ⟨_, rfl⟩
        have hr1 := rts_k h5 f er hf.out
        go_wp2_with fail
        with_reducible refine hr1.mono ?_
        rintro e w6 ⟨rfl, t6⟩
        have hr2 := rrts_k (k5.touch t6 (by simp [Nil])) f er
        have h6 := h5.touch t6 (by simp [Nil])
        have k6 := k5.touch t6 (by simp [Nil])
        have T6 := T5.trans t6
        clear hr1 h5 k5 T5 t6 er
        go_wp2_with fail
        with_reducible refine hr2.mono ?_
        rintro e w7 ⟨rfl, t7⟩
        have h7 : Aside (AAt w7 B R2) := h6.touch t7 (by simp [Nil])
        have k7 : Aside (RAt w7 (B + 1) R2) := k6.touch t7 (by simp [Nil])
        have T7 : Aside (Touch Nil w w7) := T6.trans t7
        clear hr2 h6 k6 T6 t7
        go_wp2_with fail
        go_roundg (76 - k)
        case measure => omega
        case rel => exact ⟨k + 4, R2, by omega, by omega, by go_num, h7, k7, T7⟩
      · obtain ⟨⟨c, R2⟩, ec⟩ : ∃ z, cutA R f n = z := ⟨_, rfl⟩
        have hd := cut_k hAc f n ec hf.out
        go_wp2_with fail
        with_reducible refine (hV _).mono ?_
        rintro e wq ⟨rfl, rfl⟩
        clear c0 hV
        go_wp2_with fail
        with_reducible refine hd.mono ?_
        rintro e w4 ⟨rfl, h4, t4⟩
        have k4 := hRc.touch t4 (by omega)
        have T4 := Tc.transNew t4 (fun i hi e => by omega)
        have he := rcut_k k4 f n ec
        clear hd hAc hRc Tc t4 k4 ec
        go_wp2_with fail
        with_reducible refine he.mono ?_
        rintro e w5 ⟨rfl, k5, t5⟩
        have h5 := h4.touch t5 (by omega)
        have T5 := T4.transNew t5 (fun i hi e => by omega)
        clear he h4 t5 T4
        obtain ⟨⟨x, b⟩, er⟩ : ∃ z, rtsA R2 f = z := ⟨_, rfl⟩
        have hr1 := rts_k h5 f er hf.out
        go_wp2_with fail
        with_reducible refine hr1.mono ?_
        rintro e w6 ⟨rfl, t6⟩
        have hr2 := rrts_k (k5.touch t6 (by simp [Nil])) f er
        have h6 := h5.touch t6 (by simp [Nil])
        have k6 := k5.touch t6 (by simp [Nil])
        have T6 := T5.trans t6
        clear hr1 h5 k5 T5 t6 er
        go_wp2_with fail
        with_reducible refine hr2.mono ?_
        rintro e w7 ⟨rfl, t7⟩
        have h7 : Aside (AAt w7 B R2) := h6.touch t7 (by simp [Nil])
        have k7 : Aside (RAt w7 (B + 1) R2) := k6.touch t7 (by simp [Nil])
        have T7 : Aside (Touch Nil w w7) := T6.trans t7
        clear hr2 h6 k6 T6 t7
        go_wp2_with fail
        go_roundg (76 - k)
        case measure => omega
        case rel => exact ⟨k + 4, R2, by omega, by omega, by go_num, h7, k7, T7⟩
      · obtain ⟨⟨c, R2⟩, ec⟩ : ∃ z, chgA R f n q = z := ⟨_, rfl⟩
        have hd := chg_k hAc f n q ec hf.out
        go_wp2_with fail
        with_reducible refine (hV _).mono ?_
        rintro e wq ⟨rfl, rfl⟩
        clear c0 hV
        go_wp2_with fail
        with_reducible refine hd.mono ?_
        rintro e w4 ⟨rfl, h4, t4⟩
        have k4 := hRc.touch t4 (by omega)
        have T4 := Tc.transNew t4 (fun i hi e => by omega)
        have he := rchg_k k4 f n q ec
        clear hd hAc hRc Tc t4 k4 ec
        go_wp2_with fail
        with_reducible refine he.mono ?_
        rintro e w5 ⟨rfl, k5, t5⟩
        have h5 := h4.touch t5 (by omega)
        have T5 := T4.transNew t5 (fun i hi e => by omega)
        clear he h4 t5 T4
        obtain ⟨⟨x, b⟩, er⟩ : ∃ z, rtsA R2 f = z := ⟨_, rfl⟩
        have hr1 := rts_k h5 f er hf.out
        go_wp2_with fail
        with_reducible refine hr1.mono ?_
        rintro e w6 ⟨rfl, t6⟩
        have hr2 := rrts_k (k5.touch t6 (by simp [Nil])) f er
        have h6 := h5.touch t6 (by simp [Nil])
        have k6 := k5.touch t6 (by simp [Nil])
        have T6 := T5.trans t6
        clear hr1 h5 k5 T5 t6 er
        go_wp2_with fail
        with_reducible refine hr2.mono ?_
        rintro e w7 ⟨rfl, t7⟩
        have h7 : Aside (AAt w7 B R2) := h6.touch t7 (by simp [Nil])
        have k7 : Aside (RAt w7 (B + 1) R2) := k6.touch t7 (by simp [Nil])
        have T7 : Aside (Touch Nil w w7) := T6.trans t7
        clear hr2 h6 k6 T6 t7
        go_wp2_with fail
        go_roundg (76 - k)
        case measure => omega
        case rel => exact ⟨k + 4, R2, by omega, by omega, by go_num, h7, k7, T7⟩
      · obtain ⟨⟨c, R2⟩, ec⟩ : ∃ z, chgA R f n q = z := ⟨_, rfl⟩
        have hd := chg_k hAc f n q ec hf.out
        go_wp2_with fail
        with_reducible refine (hV _).mono ?_
        rintro e wq ⟨rfl, rfl⟩
        clear c0 hV
        go_wp2_with fail
        with_reducible refine hd.mono ?_
        rintro e w4 ⟨rfl, h4, t4⟩
        have k4 := hRc.touch t4 (by omega)
        have T4 := Tc.transNew t4 (fun i hi e => by omega)
        have he := rchg_k k4 f n q ec
        clear hd hAc hRc Tc t4 k4 ec
        go_wp2_with fail
        with_reducible refine he.mono ?_
        rintro e w5 ⟨rfl, k5, t5⟩
        have h5 := h4.touch t5 (by omega)
        have T5 := T4.transNew t5 (fun i hi e => by omega)
        clear he h4 t5 T4
        obtain ⟨⟨x, b⟩, er⟩ : ∃ z, rtsA R2 f = z := ⟨_, rfl⟩
        have hr1 := rts_k h5 f er hf.out
        go_wp2_with fail
        with_reducible refine hr1.mono ?_
        rintro e w6 ⟨rfl, t6⟩
        have hr2 := rrts_k (k5.touch t6 (by simp [Nil])) f er
        have h6 := h5.touch t6 (by simp [Nil])
        have k6 := k5.touch t6 (by simp [Nil])
        have T6 := T5.trans t6
        clear hr1 h5 k5 T5 t6 er
        go_wp2_with fail
        with_reducible refine hr2.mono ?_
        rintro e w7 ⟨rfl, t7⟩
        have h7 : Aside (AAt w7 B R2) := h6.touch t7 (by simp [Nil])
        have k7 : Aside (RAt w7 (B + 1) R2) := k6.touch t7 (by simp [Nil])
        have T7 : Aside (Touch Nil w w7) := T6.trans t7
        clear hr2 h6 k6 T6 t7
        go_wp2_with fail
        go_roundg (76 - k)
        case measure => omega
        case rel => exact ⟨k + 4, R2, by omega, by omega, by go_num, h7, k7, T7⟩
      · have hcl := aclone_any hAc
        go_wp2_with fail
        with_reducible refine (hV _).mono ?_
        rintro e wq ⟨rfl, rfl⟩
        clear c0 hV
        go_wp2_with fail
        with_reducible refine hcl.mono ?_
        rintro e w4 ⟨rfl, d4, t4, s4⟩
        have hD : B + 1 < wc.heap.size := hRc.lt
        have h4 := hAc.touch t4 (by simp [Nil])
        have k4 := hRc.touch t4 (by simp [Nil])
        have T4 := Tc.trans t4
        have hs := asame_any d4 k4
        clear hcl hAc hRc Tc t4 s4
        generalize wc.heap.size = D at *
        go_wp2_with fail
        with_reducible refine hs.mono ?_
        rintro e w8 ⟨rfl, t8⟩
        have d8 := d4.touch t8 (by simp [Nil])
        have h8 := h4.touch t8 (by simp [Nil])
        have k8 := k4.touch t8 (by simp [Nil])
        have T8 := T4.trans t8
        have ha := add_any d8 0 256 1 (by omega)
        clear hs d4 h4 k4 T4 t8 d8
        go_wp2_with fail
        with_reducible refine ha.mono ?_
        rintro e w9 ⟨rfl, d9, t9⟩
        have h9 := h8.touch t9 (by omega)
        have k9 := k8.touch t9 (by omega)
        have T9 := T8.transNew t9 (fun i hi e => by omega)
        have hc := cut_any d9 0 1 (by omega)
        clear ha h8 k8 T8 t9 d9
        go_wp2_with fail
        with_reducible refine hc.mono ?_
        rintro e w5 ⟨rfl, d5, t5⟩
        have h5 := h9.touch t5 (by omega)
        have k5 := k9.touch t5 (by omega)
        have T5 := T9.transNew t5 (fun i hi e => by omega)
        clear hc h9 k9 T9 t5 d5
        obtain ⟨⟨x, b⟩, er⟩ : ∃ z, rtsA R f = z := ⟨_, rfl⟩
        have hr1 := rts_k h5 f er hf.out
        go_wp2_with fail
        with_reducible refine hr1.mono ?_
        rintro e w6 ⟨rfl, t6⟩
        have hr2 := rrts_k (k5.touch t6 (by simp [Nil])) f er
        have h6 := h5.touch t6 (by simp [Nil])
        have k6 := k5.touch t6 (by simp [Nil])
        have T6 := T5.trans t6
        clear hr1 h5 k5 T5 t6 er
        go_wp2_with fail
        with_reducible refine hr2.mono ?_
        rintro e w7 ⟨rfl, t7⟩
        have h7 : Aside (AAt w7 B R) := h6.touch t7 (by simp [Nil])
        have k7 : Aside (RAt w7 (B + 1) R) := k6.touch t7 (by simp [Nil])
        have T7 : Aside (Touch Nil w w7) := T6.trans t7
        clear hr2 h6 k6 T6 t7
        go_wp2_with fail
        go_roundg (76 - k)
        case measure => omega
        case rel => exact ⟨k + 4, R, by omega, by omega, by go_num, h7, k7, T7⟩
    · have hq : (¬ k + 3 < len0 ∧ decide ((k : Int) + 3 < len0) = false) ∨ (k + 3 < len0 ∧ (k : Int) + 3 < len0 ∧ decide ((k : Int) < 80) = false) := by
        by_cases hl : k + 3 < len0
        · exact Or.inr ⟨hl, by omega, by simp; omega⟩
        · exact Or.inl ⟨hl, by simp; omega⟩
      have hs := asame_any hA.out hR.out
      have T0 := tk.out
      have q3 : IntKind.i64.wrap ((k : Int) + 3) = (k : Int) + 3 := by rw [IntKind.wrap_i64]; omega
      clear p0 hgo hA hR tk
      rcases hq with ⟨q0, q1⟩ | ⟨q0, q1, q2⟩ <;>
      · go_wp2_with fail
        with_reducible refine hs.mono ?_
        rintro e w5 ⟨rfl, t5⟩
        have T5 := T0.trans t5
        clear hs T0 t5
        go_wp2_with fail
        with_reducible refine (wakes12 _).mono ?_
        rintro e w6 ⟨rfl, t6⟩
        have T6 := T5.trans t6
        go_wp2_with fail
        go_ret
        exact ⟨rfl, T6⟩
end Go.Proofs.Ytcjfdgkhlidakaa

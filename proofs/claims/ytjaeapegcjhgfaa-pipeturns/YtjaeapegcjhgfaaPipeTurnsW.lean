/-
  PipeTurns: its walk.
-/
import Derived.Test.YtjaeapegcjhgfaaPipeC
import Derived.Test.YtjaeapegcjhgfaaSlices
namespace Go.Proofs.Ytjaeapegcjhgfaa
open Go.ChangeShapes Go.WideShapes Go.ChangeAt Go.RowKit

theorem seqL_more (x : Int) {i o : Nat} (h : o ≤ i) : (seqL x i).drop o ++ [IntKind.u64.wrap (x + i)] = (seqL x (i + 1)).drop o := by
  rw [seqL_succ, List.drop_append_of_le_length (by rw [seqL_len]; exact h)]
theorem seqL_wait (x : Int) (i o : Nat) : ((seqL x i).drop o).length = i - o := by rw [List.length_drop, seqL_len]
set_option maxRecDepth 20000 in
set_option maxHeartbeats 4000000 in
theorem pipeTurns_walk (a0 : Option Addr) (len0 cap0 : Nat) (z0 : List Int) (a1 : Int) (w : World) (r0 : Row .i64 w a0 len0 cap0 z0) :
    Calls Try.prog 5 #[.slice a0 len0 cap0, .int .u64 a1] w fun e w' => e = .returned (.bool true) ∧ Touch Nil w w' := by
  obtain ⟨hm0, p0⟩ := r0.plain
  unfold maxLen at hm0
  clear r0
  go_enter Try.func5, Try.ntmps5
  go_wp2_with fail
  with_reducible refine (pnew_any w).mono ?_
  rintro e x1 ⟨rfl, h1, T1, s1⟩
  obtain ⟨B, hB, hB1⟩ : ∃ B, w.heap.size = B ∧ w.heap.size ≤ B := ⟨_, rfl, by omega⟩
  rw [hB] at h1 ⊢
  clear s1 hB
  go_wp2_with fail
  go_loopg [6, 7, 8] 40 (fun g vi vo ii wr => ∃ k i o : Nat, g + k = 40 ∧ vi = .int .u64 i ∧ vo = .int .u64 o ∧ ii = .int .i64 k ∧ Aside (o ≤ i ∧ i ≤ o + 4 ∧ i ≤ 5 * k) ∧ Aside (PAt wr (B + 1) B ((seqL a1 i).drop o)) ∧ Aside (Touch Nil w wr))
  case atStart => exact ⟨0, 0, 0, by omega, rfl, rfl, rfl, ⟨by omega, by omega, by omega⟩, h1, T1⟩
  case round =>
    clear h1 T1
    obtain ⟨k, i, o, hgk, rfl, rfl, rfl, hio, hP, tk⟩ := hrel
    have hio1 := hio.out
    have hP1 := hP.out
    have t1 := tk.out
    clear hio hP tk
    obtain ⟨io1, io2, io3⟩ := hio1
    by_cases hgo : k < len0 ∧ k < 40
    · obtain ⟨g1, g2⟩ := hgo
      rcases p0 with p0 | ⟨b0, o0, rfl, hb0, hc0⟩
      · omega
      have cz : Hid (∀ wx, Touch Nil w wx → wx.cell? ⟨b0, o0 + k, none⟩ = some (.int .i64 (z0.getD k 0))) := fun wx t => Plain.cell hc0 hb0 (t.below (Nat.le_refl _) (fun _ e => e.elim)) k g1
      have bz := bounds_i64 (hc0 k g1).2
      clear hc0
      generalize z0.getD k 0 = y0 at cz bz
      have k1 : (k : Int) < len0 := by omega
      have k2 : (k : Int) < 40 := by omega
      obtain ⟨n, hn, hn6⟩ : ∃ n : Nat, y0 % 6 = n ∧ n < 6 := ⟨(y0 % 6).toNat, by omega, by omega⟩
      have hW1 := fun w1 => within_any y0 6 w1 (by decide) (by decide)
      rw [hn] at hW1
      obtain ⟨q, hq⟩ : ∃ q, wrap64 (y0.tdiv 6) = q := ⟨_, rfl⟩
      obtain ⟨m, hm, hm6⟩ : ∃ m : Nat, q % 6 = m ∧ m < 6 := ⟨(q % 6).toNat, by omega, by omega⟩
      have hW2 := fun w1 => within_any q 6 w1 (by decide) (by decide)
      rw [hm] at hW2
      replace hq : Hid _ := hq
      clear hn hm bz
      go_wp2_with fail
      go_loopg [6, 9] n (fun g vi jj wr => ∃ j i : Nat, g + j = n ∧ vi = .int .u64 i ∧ jj = .int .i64 j ∧ Aside (o ≤ i ∧ i ≤ o + 4 ∧ i ≤ 5 * k + j) ∧ Aside (PAt wr (B + 1) B ((seqL a1 i).drop o)) ∧ Aside (Touch Nil w wr))
      case atStart => exact ⟨0, i, by omega, rfl, rfl, ⟨by omega, by omega, by omega⟩, hP1, t1⟩
      case round =>
        clear hP1 t1 io1 io2 io3
        obtain ⟨j, i, hgj, rfl, rfl, hio, hP, tk⟩ := hrel
        have hio1 := hio.out
        have hP1 := hP.out
        have t1 := tk.out
        clear hio hP tk
        obtain ⟨io1, io2, io3⟩ := hio1
        have c0 := cz.out wr t1
        by_cases hj : j < n
        · have j1 : (j : Int) < n := by omega
          have hs := psend_any hP1 (IntKind.u64.wrap (a1 + i))
          rw [seqL_wait, seqL_more a1 io1] at hs
          clear hP1
          go_wp2_with fail
          with_reducible refine (hW1 _).mono ?_
          rintro e wq ⟨rfl, rfl⟩
          go_wp2_with fail
          with_reducible refine hs.mono ?_
          rintro e w2 ⟨rfl, hP2, t2⟩
          have T2 := t1.transNew t2 (fun i hi e => by omega)
          clear hs t1 t2 c0
          have u1 : IntKind.u64.wrap ((i : Int) + 1) = (i : Int) + 1 := by rw [IntKind.wrap_u64]; omega
          by_cases hl : i - o < 4
          · rw [if_pos hl] at hP2
            simp only [hl, decide_true]
            go_wp2_with fail
            go_roundg (n - (j + 1))
            case measure => omega
            case rel => exact ⟨j + 1, i + 1, by omega, by go_num, by go_num, ⟨by omega, by omega, by omega⟩, hP2, T2⟩
          · rw [if_neg hl] at hP2
            simp only [hl, decide_false]
            go_wp2_with fail
            go_roundg (n - (j + 1))
            case measure => omega
            case rel => exact ⟨j + 1, i, by omega, rfl, by go_num, ⟨by omega, by omega, by omega⟩, hP2, T2⟩
        · have e : j = n := by omega
          subst e
          go_wp2_with fail
          with_reducible refine (hW1 _).mono ?_
          rintro e wq ⟨rfl, rfl⟩
          clear c0 hW1
          go_wp2_with fail
          clear g1
          go_loopg [7, 10] m (fun g vo jj wr => ∃ j o : Nat, g + j = m ∧ vo = .int .u64 o ∧ jj = .int .i64 j ∧ Aside (o ≤ i ∧ i ≤ o + 4 ∧ i ≤ 5 * k + 5) ∧ Aside (PAt wr (B + 1) B ((seqL a1 i).drop o)) ∧ Aside (Touch Nil w wr))
          case atStart => exact ⟨0, o, by omega, rfl, rfl, ⟨by omega, by omega, by omega⟩, hP1, t1⟩
          case round =>
            clear hP1 t1 io1 io2 io3
            obtain ⟨l, o, hgl, rfl, rfl, hio, hP, tk⟩ := hrel
            have hio1 := hio.out
            have hP1 := hP.out
            have t1 := tk.out
            clear hio hP tk
            obtain ⟨io1, io2, io3⟩ := hio1
            have c0 := cz.out wr t1
            have hq1 := hq.out
            by_cases hl : l < m
            · have l1 : (l : Int) < m := by omega
              by_cases hoi : o < i
              · rw [seqL_drop a1 hoi] at hP1
                have hr := precv_some hP1
                clear hP1
                go_wp2_with fail
                with_reducible refine (hW2 _).mono ?_
                rintro e wq ⟨rfl, rfl⟩
                go_wp2_with fail
                with_reducible refine hr.mono ?_
                rintro e w2 ⟨rfl, hP2, t2⟩
                have T2 := t1.transNew t2 (fun i hi e => by omega)
                clear hr t1 t2 c0 hq1
                have u1 : IntKind.u64.wrap ((o : Int) + 1) = (o : Int) + 1 := by rw [IntKind.wrap_u64]; omega
                go_wp2_with fail
                go_roundg (m - (l + 1))
                case measure => omega
                case rel => exact ⟨l + 1, o + 1, by omega, by go_num, by go_num, ⟨by omega, by omega, by omega⟩, hP2, T2⟩
              · rw [List.drop_of_length_le (by rw [seqL_len]; omega)] at hP1
                have hr := precv_none hP1
                have e : o = i := by omega
                subst e
                go_wp2_with fail
                with_reducible refine (hW2 _).mono ?_
                rintro e wq ⟨rfl, rfl⟩
                go_wp2_with fail
                with_reducible refine hr.mono ?_
                rintro e wq ⟨rfl, rfl⟩
                clear hr c0 hq1
                rw [← List.drop_of_length_le (l := seqL a1 o) (i := o) (by rw [seqL_len]; omega)] at hP1
                go_wp2_with fail
                go_roundg (m - (l + 1))
                case measure => omega
                case rel => exact ⟨l + 1, o, by omega, rfl, by go_num, ⟨by omega, by omega, by omega⟩, hP1, t1⟩
            · have e : l = m := by omega
              subst e
              have hl := plen_any hP1
              obtain ⟨d, hd, hd4⟩ : ∃ d : Nat, i - o = d ∧ d ≤ 4 := ⟨i - o, rfl, by omega⟩
              rw [seqL_wait, hd] at hl
              have u1 : (i : Int) - o = d := by omega
              have u2 : IntKind.u64.wrap (d : Int) = d := by rw [IntKind.wrap_u64]; omega
              have u3 : IntKind.i64.wrap (d : Int) = d := by rw [IntKind.wrap_i64]; omega
              have u4 : decide ((i : Int) < o) = false := by simp; omega
              have u5 : decide ((4 : Int) < d) = false := by simp; omega
              have hio3 : Hid (o ≤ i ∧ i ≤ o + 4 ∧ i ≤ 5 * (k + 1)) := ⟨by omega, by omega, by omega⟩
              clear io1 io2 io3 hd hd4
              go_wp2_with fail
              with_reducible refine (hW2 _).mono ?_
              rintro e wq ⟨rfl, rfl⟩
              clear c0 hq1 hW2
              go_wp2_with fail
              with_reducible refine hl.mono ?_
              rintro e wq ⟨rfl, rfl⟩
              go_wp2_with fail
              go_roundg (40 - (k + 1))
              case measure => omega
              case rel => exact ⟨k + 1, i, o, by omega, rfl, rfl, by go_num, hio3.out, hP1, t1⟩
    · have hq : (¬ k < len0 ∧ decide ((k : Int) < len0) = false) ∨ (k < len0 ∧ (k : Int) < len0 ∧ decide ((k : Int) < 40) = false) := by
        by_cases hl : k < len0
        · exact Or.inr ⟨hl, by omega, by simp; omega⟩
        · exact Or.inl ⟨hl, by simp; omega⟩
      clear p0 hgo
      rcases hq with ⟨q0, q1⟩ | ⟨q0, q1, q2⟩ <;>
      · go_wp2_with fail
        go_loopg [7] (i - o) (fun g vo wr => ∃ o : Nat, g = i - o ∧ vo = .int .u64 o ∧ Aside (o ≤ i ∧ i ≤ 5 * k) ∧ Aside (PAt wr (B + 1) B ((seqL a1 i).drop o)) ∧ Aside (Touch Nil w wr))
        case atStart => exact ⟨o, rfl, rfl, ⟨io1, io3⟩, hP1, t1⟩
        case round =>
          clear hP1 t1 io1 io2 io3
          obtain ⟨o, hgo, rfl, hio, hP, tk⟩ := hrel
          have hio1 := hio.out
          have hP1 := hP.out
          have t1 := tk.out
          clear hio hP tk
          obtain ⟨io1, io3⟩ := hio1
          by_cases hoi : o < i
          · have o1 : (o : Int) < i := by omega
            rw [seqL_drop a1 hoi] at hP1
            have hr := precv_some hP1
            clear hP1
            go_wp2_with fail
            with_reducible refine hr.mono ?_
            rintro e w2 ⟨rfl, hP2, t2⟩
            have T2 := t1.transNew t2 (fun i hi e => by omega)
            clear hr t1 t2
            have u1 : IntKind.u64.wrap ((o : Int) + 1) = (o : Int) + 1 := by rw [IntKind.wrap_u64]; omega
            go_wp2_with fail
            go_roundg (i - (o + 1))
            case measure => omega
            case rel => exact ⟨o + 1, rfl, by go_num, ⟨by omega, by omega⟩, hP2, T2⟩
          · rw [List.drop_of_length_le (by rw [seqL_len]; omega)] at hP1
            have hl := plen_any hP1
            have o1 : decide ((o : Int) < i) = false := by simp; omega
            clear io1 io3 hP1
            go_wp2_with fail
            with_reducible refine hl.mono ?_
            rintro e wq ⟨rfl, rfl⟩
            go_wp2_with fail
            with_reducible refine (wakes13 _).mono ?_
            rintro e w6 ⟨rfl, t6⟩
            have T6 := t1.trans t6
            go_wp2_with fail
            go_ret
            exact ⟨rfl, T6⟩
end Go.Proofs.Ytjaeapegcjhgfaa

/-
  PipeApart: its walk.
-/
import Derived.Test.YtjaeapegcjhgfaaPipeC
namespace Go.Proofs.Ytjaeapegcjhgfaa
open Go.ChangeShapes Go.WideShapes Go.ChangeAt Go.RowKit

set_option maxHeartbeats 4000000 in
theorem pipeApart_walk (a0 a1 : Int) (w : World) :
    Calls Try.prog 3 #[.int .i64 a0, .int .u64 a1] w fun e w' => e = .returned (.bool true) ∧ Touch Nil w w' := by
  go_enter Try.func3, Try.ntmps3
  go_wp2_with fail
  with_reducible refine (pnew_any w).mono ?_
  rintro e x1 ⟨rfl, h1, t1, s1⟩
  go_wp2_with fail
  with_reducible refine (pnew_any x1).mono ?_
  rintro e x2 ⟨rfl, k2, t2, s2⟩
  have h2 := h1.touch t2 (by simp [Nil]) (by simp [Nil])
  have T2 := t1.trans t2
  rw [s1] at k2
  rw [s1]
  obtain ⟨B, hB, hB1⟩ : ∃ B, w.heap.size = B ∧ w.heap.size ≤ B := ⟨_, rfl, by omega⟩
  rw [hB] at h2 k2 ⊢
  clear h1 t1 t2 s1 s2 hB
  have n1 : (B + 1 : Nat) ≠ B + 2 + 1 := by omega
  go_wp2_with fail
  with_reducible refine (within_any a0 7 x2 (by decide) (by decide)).mono ?_
  rintro e wq ⟨rfl, rfl⟩
  obtain ⟨n, hn, hn7⟩ : ∃ n : Nat, a0 % 7 = n ∧ n < 7 := ⟨(a0 % 7).toNat, by omega, by omega⟩
  rw [hn]
  clear hn
  go_wp2_with fail
  go_loopg [7] n (fun g i wr => ∃ k : Nat, g + k = n ∧ i = .int .i64 k ∧ Aside (PAt wr (B + 1) B (seqL a1 (min k 4))) ∧ Aside (PAt wr (B + 2 + 1) (B + 2) []) ∧ Aside (Touch Nil w wr))
  case atStart => exact ⟨0, by omega, rfl, h2, k2, T2⟩
  case round =>
    clear h2 k2 T2
    obtain ⟨k, hgk, rfl, hP, hQ, tk⟩ := hrel
    by_cases hk : k < n
    · have k1 : (k : Int) < n := by omega
      have hs := psend_any hP.out (IntKind.u64.wrap (a1 + k))
      rw [seqL_len] at hs
      have hP1 : (if min k 4 < 4 then seqL a1 (min k 4) ++ [IntKind.u64.wrap (a1 + k)] else seqL a1 (min k 4)) = seqL a1 (min (k + 1) 4) := by
        split
        · rw [show min k 4 = k by omega, show min (k + 1) 4 = k + 1 by omega, seqL_succ]
        · rw [show min k 4 = min (k + 1) 4 by omega]
      rw [hP1] at hs
      have hd : decide (min k 4 < 4) = decide ((k : Int) < 4) := by
        by_cases q : k < 4
        · simp; omega
        · simp; omega
      rw [hd] at hs
      have hQ1 := hQ.out
      have tk1 := tk.out
      clear hP hQ tk hP1 hd
      go_wp2_with fail
      with_reducible refine hs.mono ?_
      rintro e w2 ⟨rfl, hP2, t2⟩
      have hQ2 := hQ1.touch t2 (by omega) (by omega)
      have T2 := tk1.transNew t2 (fun i hi e => by omega)
      clear hs hQ1 tk1 t2
      go_wp2_with fail
      go_roundg (n - (k + 1))
      case measure => omega
      case rel => exact ⟨k + 1, by omega, by go_num, hP2, hQ2, T2⟩
    · obtain ⟨m, hm, hm4⟩ : ∃ m : Nat, min k 4 = m ∧ m ≤ 4 := ⟨_, rfl, by omega⟩
      have hmn : min (n : Int) 4 = m := by omega
      rw [hm] at hP
      have hP1 := hP.out
      have hQ1 := hQ.out
      have tk1 := tk.out
      have hw := pwords_any hP1
      rw [seqL_len] at hw
      clear hP hQ tk hm
      go_wp2_with fail
      with_reducible refine hw.mono ?_
      rintro e w2 ⟨⟨v, rfl, hO⟩, hP2, t2⟩
      obtain ⟨a, cap, rfl, hcap, hmax, ha⟩ := own_shape hO
      have hQ2 := hQ1.touch t2 (by omega) (by omega)
      have T2 := tk1.transNew t2 (fun i hi e => by omega)
      have hBl := hQ1.row.lt
      have hRow : m = 0 ∨ ∃ g, a = some ⟨g, 0, none⟩ ∧ B + 2 + 1 < g ∧ ∃ f, rowHas w2 g 22 m f := by
        rcases Nat.eq_zero_or_pos m with q | q
        · exact Or.inl q
        · obtain ⟨g, rfl⟩ := ha q
          obtain ⟨hg, hr⟩ := own_row hO
          exact Or.inr ⟨g, rfl, by omega, _, hr⟩
      clear hw hO hQ1 tk1 t2 ha hBl
      have hl := plen_any hQ2
      have hv := pwords_any hQ2
      have hK : (m : Int) ≤ cap := by omega
      clear hcap
      unfold maxLen at hmax
      go_wp2_with fail
      with_reducible refine hl.mono ?_
      rintro e wq ⟨rfl, rfl⟩
      go_wp2_with fail
      with_reducible refine hv.mono ?_
      rintro e w3 ⟨⟨v, rfl, hO⟩, hQ3, t3⟩
      obtain ⟨aq, cq, rfl, _, _, _⟩ := own_shape hO
      have hP3 := hP2.touch t3 (by omega) (by omega)
      have T3 := T2.transNew t3 (fun i hi e => by omega)
      have hRow3 : m = 0 ∨ ∃ g, a = some ⟨g, 0, none⟩ ∧ B + 2 + 1 < g ∧ ∃ f, rowHas w3 g 22 m f := by
        rcases hRow with q | ⟨g, h1, h2, f, hr⟩
        · exact Or.inl q
        · exact Or.inr ⟨g, h1, h2, f, hr.touch t3 (by omega)⟩
      clear hl hv hO hQ2 t3 T2 hP2 hRow
      go_wp2_with fail
      go_loopg [60] m (fun g i wr => ∃ j : Nat, g + j = m ∧ i = .int .i64 j ∧ Aside (PAt wr (B + 1) B (seqL a1 m)) ∧ Aside (PAt wr (B + 2 + 1) (B + 2) []) ∧ Aside (m = 0 ∨ ∃ g, a = some ⟨g, 0, none⟩ ∧ B + 2 + 1 < g ∧ ∃ f, rowHas wr g 22 m f) ∧ Aside (Touch Nil w wr))
      case atStart => exact ⟨0, by omega, rfl, hP3, hQ3, hRow3, T3⟩
      case round =>
        clear hP3 hQ3 hRow3 T3
        obtain ⟨j, hgj, rfl, hP, hQ, hR, tk⟩ := hrel
        have hP1 := hP.out
        have hQ1 := hQ.out
        have t1 := tk.out
        have hR1 := hR.out
        clear hP hQ tk hR
        by_cases hj : j < m
        · have j1 : (j : Int) < m := by omega
          obtain ⟨g, rfl, hg, f, hr⟩ := hR1.resolve_left (by omega)
          have c1 := hr.cell hj
          have f1 := hr.frozen j
          have hr2 := hr.set j (.int .u64 99)
          have hP2 := hP1.touch ((Touch.refl (· = g) wr).setCell (p := ⟨g, j, none⟩) rfl (.int .u64 99)) (by omega) (by omega)
          have hQ2 := hQ1.touch ((Touch.refl (· = g) wr).setCell (p := ⟨g, j, none⟩) rfl (.int .u64 99)) (by omega) (by omega)
          have t2 := t1.setNew (p := ⟨g, j, none⟩) (by have := t1; show w.heap.size ≤ g; omega) (.int .u64 99)
          go_wp2_with fail
          go_roundg (m - (j + 1))
          case measure => omega
          case rel => exact ⟨j + 1, by omega, by go_num, hP2, hQ2, Or.inr ⟨g, rfl, hg, _, hr2⟩, t2⟩
        · clear hR1
          go_wp2_with fail
          go_loopg [10] m (fun g i wr => ∃ j : Nat, g + j = m ∧ i = .int .i64 j ∧ Aside (PAt wr (B + 1) B ((seqL a1 m).drop j)) ∧ Aside (PAt wr (B + 2 + 1) (B + 2) []) ∧ Aside (Touch Nil w wr))
          case atStart => exact ⟨0, by omega, rfl, hP1, hQ1, t1⟩
          case round =>
            clear hP1 hQ1 t1
            obtain ⟨i, hgi, rfl, hP, hQ, tk⟩ := hrel
            have hP1 := hP.out
            have hQ1 := hQ.out
            have t1 := tk.out
            clear hP hQ tk
            by_cases hi : i < m
            · have i1 : (i : Int) < m := by omega
              rw [seqL_drop a1 hi] at hP1
              have hr := precv_some hP1
              clear hP1
              go_wp2_with fail
              with_reducible refine hr.mono ?_
              rintro e w4 ⟨rfl, hP4, t4⟩
              have hQ4 := hQ1.touch t4 (by omega) (by omega)
              have T4 := t1.transNew t4 (fun i hi e => by omega)
              have hl := plen_any hP4
              rw [show ((seqL a1 m).drop (i + 1)).length = m - (i + 1) by rw [List.length_drop, seqL_len], show ((m - (i + 1) : Nat) : Int) = m - i - 1 by omega] at hl
              clear hr hQ1 t1 t4
              have q1 : IntKind.i64.wrap ((m : Int) - i) = m - i := by rw [IntKind.wrap_i64]; omega
              have q2 : IntKind.i64.wrap ((m : Int) - i - 1) = m - i - 1 := by rw [IntKind.wrap_i64]; omega
              have q3 : IntKind.u64.wrap (i : Int) = i := by rw [IntKind.wrap_u64]; omega
              go_wp2_with fail
              with_reducible refine hl.mono ?_
              rintro e wq ⟨rfl, rfl⟩
              go_wp2_with fail
              go_roundg (m - (i + 1))
              case measure => omega
              case rel => exact ⟨i + 1, by omega, by go_num, hP4, hQ4, T4⟩
            · have e : i = m := by omega
              subst e
              rw [show (seqL a1 i).drop i = [] from List.drop_of_length_le (by rw [seqL_len]; omega)] at hP1
              have hr := precv_none hP1
              go_wp2_with fail
              with_reducible refine hr.mono ?_
              rintro e wq ⟨rfl, rfl⟩
              have hs := psend_any hQ1 a1
              simp only [List.length_nil, List.nil_append, show (0 : Nat) < 4 from by omega, if_true, decide_true] at hs
              clear hr hQ1
              go_wp2_with fail
              with_reducible refine hs.mono ?_
              rintro e w4 ⟨rfl, hQ4, t4⟩
              have hP4 := hP1.touch t4 (by omega) (by omega)
              have T4 := t1.transNew t4 (fun i hi e => by omega)
              have hl := plen_any hP4
              clear hs hQ4 t1 t4 hP1 hP4
              go_wp2_with fail
              with_reducible refine hl.mono ?_
              rintro e wq ⟨rfl, rfl⟩
              go_wp2_with fail
              with_reducible refine (wakes13 _).mono ?_
              rintro e w5 ⟨rfl, t5⟩
              have T5 := T4.trans t5
              go_wp2_with fail
              go_ret
              exact ⟨rfl, T5⟩
end Go.Proofs.Ytjaeapegcjhgfaa

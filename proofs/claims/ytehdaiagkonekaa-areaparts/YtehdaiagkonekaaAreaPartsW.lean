/-
  AreaParts: its walk.
-/
import Derived.Test.YtehdaiagkonekaaAreaErrorsW
import Derived.Sort.AtCall
namespace Go.Proofs.Ytehdaiagkonekaa
open Go.ChangeShapes Go.WideShapes Go.ChangeAt Go.RowKit

theorem pgs_one (f n : Nat) (r : Int) (hr : 0 ≤ r) (hfn : f + n ≤ 256) : (pgsA (setA noA f n r) 256).length = n := by
  have a0 := pgsA_skip (setA noA f n r) 0 f (fun i _ => by unfold setA noA; (repeat' split) <;> omega)
  rw [Nat.zero_add] at a0
  have a1 := pgsA_seg (setA noA f n r) f n (fun i _ => by unfold setA noA; (repeat' split) <;> omega)
  have a2 := pgsA_skip (setA noA f n r) (f + n) (256 - (f + n)) (fun i _ => by unfold setA noA; (repeat' split) <;> omega)
  rw [show f + n + (256 - (f + n)) = 256 by omega] at a2
  rw [a2, a1, a0]; simp [pgsA]
/-- A row with a gap. -/
def gapA (F M C m : Nat) (r : Int) : Nat → Int := setA (setA noA F M r) (F + C) m (-1)
theorem pgs_gap (F M C m : Nat) (r : Int) (hr : 0 ≤ r) (hfn : F + M ≤ 256) (hm : C + m ≤ M) : (pgsA (gapA F M C m r) 256).length = M - m := by
  have a0 := pgsA_skip (gapA F M C m r) 0 F (fun i _ => by unfold gapA setA noA; (repeat' split) <;> omega)
  rw [Nat.zero_add] at a0
  have a1 := pgsA_seg (gapA F M C m r) F C (fun i _ => by unfold gapA setA noA; (repeat' split) <;> omega)
  have a2 := pgsA_skip (gapA F M C m r) (F + C) m (fun i _ => by unfold gapA setA noA; (repeat' split) <;> omega)
  have a3 := pgsA_seg (gapA F M C m r) (F + C + m) (M - C - m) (fun i _ => by unfold gapA setA noA; (repeat' split) <;> omega)
  have a4 := pgsA_skip (gapA F M C m r) (F + C + m + (M - C - m)) (256 - (F + C + m + (M - C - m))) (fun i _ => by unfold gapA setA noA; (repeat' split) <;> omega)
  rw [show F + C + m + (M - C - m) + (256 - (F + C + m + (M - C - m))) = 256 by omega] at a4
  rw [a4, a3, a2, a1, a0]; simp [pgsA]; omega
theorem gap_fill (F M C m : Nat) (r : Int) (hm : C + m ≤ M) : setA (gapA F M C m r) (F + C) m r = setA noA F M r := by
  funext i; unfold gapA setA noA; (repeat' split) <;> omega
theorem gap_all (F M : Nat) (r : Int) : setA (gapA F M 0 M r) F M r = setA noA F M r := by
  funext i; unfold gapA setA noA; (repeat' split) <;> omega
theorem down_step (F M j : Nat) (r : Int) (hj : j < M) : setA (setA noA (F + (j + 1)) (M - (j + 1)) r) (F + j) 1 r = setA noA (F + j) (M - j) r := by
  funext i; unfold setA noA; (repeat' split) <;> omega
set_option maxRecDepth 20000 in
set_option maxHeartbeats 16000000 in
theorem areaParts_walk (a0 a1 a2 a3 a4 : Int) (w : World) : Calls Try.prog 7 #[.int .i64 a0, .int .i64 a1, .int .i64 a2, .int .i64 a3, .int .i64 a4] w fun e w' => e = .returned (.bool true) ∧ Touch Nil w w' := by
  have hW0 := fun w1 => within_any a0 200 w1 (by decide) (by decide)
  have hW1 := fun w1 => within_any a1 20 w1 (by decide) (by decide)
  have hW4 := fun w1 => within_any a4 3 w1 (by decide) (by decide)
  obtain ⟨F, hF, hF'⟩ : ∃ F : Nat, F < 200 ∧ a0 % 200 = F := ⟨(a0 % 200).toNat, by omega, by omega⟩
  obtain ⟨M0, hM, hM'⟩ : ∃ M0 : Nat, M0 < 20 ∧ a1 % 20 = M0 := ⟨(a1 % 20).toNat, by omega, by omega⟩
  obtain ⟨k, hk, hk'⟩ : ∃ k : Nat, k < 3 ∧ a4 % 3 = k := ⟨(a4 % 3).toNat, by omega, by omega⟩
  rw [hF'] at hW0
  rw [hM'] at hW1
  rw [hk'] at hW4
  clear hF' hM' hk'
  obtain ⟨M, hMM, hM1, hM2⟩ : ∃ M : Nat, Hid (M0 + 1 = M) ∧ 1 ≤ M ∧ M ≤ 20 := ⟨M0 + 1, rfl, by omega, by omega⟩
  have qM : IntKind.i64.wrap (1 + (M0 : Int)) = M := by rw [IntKind.wrap_i64]; have := hMM.out; omega
  obtain ⟨r, hr, hr3⟩ : ∃ r : Int, Hid ((k = 0 ∧ r = 0) ∨ (k = 1 ∧ r = 1) ∨ (k = 2 ∧ r = 3)) ∧ (r = 0 ∨ r = 1 ∨ r = 3) := by
    rcases (by omega : k = 0 ∨ k = 1 ∨ k = 2) with e | e | e
    · exact ⟨0, Or.inl ⟨e, rfl⟩, Or.inl rfl⟩
    · exact ⟨1, Or.inr (Or.inl ⟨e, rfl⟩), Or.inr (Or.inl rfl)⟩
    · exact ⟨3, Or.inr (Or.inr ⟨e, rfl⟩), Or.inr (Or.inr rfl)⟩
  go_enter Try.func7, Try.ntmps7
  go_upto_region 1 with fail
  go_cut [0, 1, 4] (fun v0 v1 v4 wx => v0 = .int .i64 F ∧ v1 = .int .i64 M ∧ v4 = .int .i64 r ∧ Aside (Touch Nil w wx))
  case first =>
    rcases hr.out with ⟨rfl, rfl⟩ | ⟨rfl, rfl⟩ | ⟨rfl, rfl⟩ <;>
    · clear hr
      go_region_with (first
        | (go_at_call_has 9 (Value.int .i64 a0); refine (hW0 _).mono ?_; rintro e wq ⟨rfl, rfl⟩)
        | (go_at_call_has 9 (Value.int .i64 a1); refine (hW1 _).mono ?_; rintro e wq ⟨rfl, rfl⟩)
        | (go_at_call_has 9 (Value.int .i64 a4); refine (hW4 _).mono ?_; rintro e wq ⟨rfl, rfl⟩))
      all_goals go_wp2
      all_goals go_meet
      all_goals exact ⟨rfl, rfl, rfl, ((Touch.refl Nil w).alloc _).drew⟩
  case rest =>
  obtain ⟨rfl, rfl, rfl, T0⟩ := hcut
  have hr0 : 0 ≤ r := by omega
  clear hr hW0 hW1 hW4 qM hMM hM hk
  have sw := T0.out.size
  go_wp2_with fail
  with_reducible refine (anew_any wc).mono ?_
  rintro e w1 ⟨rfl, hA1, t1, s1⟩
  go_wp2_with fail
  with_reducible refine (anew_any w1).mono ?_
  rintro e w2 ⟨rfl, hB2, t2, s2⟩
  have hA2 := hA1.touch t2 (by simp [Nil])
  have T2 := (T0.out.transNew t1 (fun i hi e => e.elim)).transNew t2 (fun i hi e => e.elim)
  generalize wc.heap.size = A at *
  rw [s1] at hB2
  rw [s1]
  clear t1 t2 hA1
  have hc := add_k hA2 F M r (show _ = (0, setA noA F M r) from addA_ok (F := F) (M := M) rfl rfl hM1 (by omega) hr3 (fun k hk => by show (-1 : Int) < 0; omega)) (by omega)
  go_wp2_with fail
  with_reducible refine hc.mono ?_
  rintro e w3 ⟨rfl, hA3, t⟩
  have hB3 := hB2.touch t (by omega)
  have T3 := T2.transNew t (fun i hi e => by omega)
  clear hc t hA2 hB2 T2
  have eM : IntKind.i64.wrap ((M : Int) - 1) = (M : Int) - 1 := by rw [IntKind.wrap_i64]; omega
  have eR : setA noA (F + M) 0 r = noA := setA_zero _ _ _
  go_wp2_with fail
  go_loopg [13] M (fun g v wr => ∃ i : Int, g ≤ M ∧ v = .int .i64 i ∧ i = (g : Int) - 1 ∧ Aside (AAt wr A (setA noA F M r)) ∧ Aside (AAt wr (A + 1) (setA noA (F + g) (M - g) r)) ∧ Aside (Touch Nil w wr))
  case atStart => exact ⟨(M : Int) - 1, Nat.le_refl _, rfl, rfl, hA3, (show AAt _ _ _ from by rw [Nat.sub_self, eR]; exact hB3), T3⟩
  case round =>
    clear hA3 hB3 T3 eM eR
    obtain ⟨i, hg, rfl, hi0, hA, hB, T⟩ := hrel
    by_cases h0 : 1 ≤ gk
    · obtain ⟨j, rfl⟩ : ∃ j, gk = j + 1 := ⟨gk - 1, by omega⟩
      have hi : i = (j : Int) := by omega
      clear hi0
      subst hi
      have j0 : (0 : Int) ≤ j := by omega
      have q1 : IntKind.i64.wrap ((F : Int) + j) = (F : Int) + j := by rw [IntKind.wrap_i64]; omega
      have q2 : IntKind.i64.wrap ((j : Int) - 1) = (j : Int) - 1 := by rw [IntKind.wrap_i64]; omega
      have hc := add_k hB.out ((F : Int) + j) 1 r (show _ = (0, setA noA (F + j) (M - j) r) from (addA_ok (F := F + j) (M := 1) (by omega) rfl (by omega) (by omega) hr3 (fun k hk => by unfold setA noA; (repeat' split) <;> omega)).trans (by rw [down_step F M j r (by omega)])) (by omega)
      go_wp2_with fail
      with_reducible refine hc.mono ?_
      rintro e w5 ⟨rfl, h5, t5⟩
      have hA5 : Aside (AAt w5 A (setA noA F M r)) := hA.out.touch t5 (by omega)
      have hB5 : Aside (AAt w5 (A + 1) (setA noA (F + j) (M - j) r)) := h5
      have T5 : Aside (Touch Nil w w5) := T.out.transNew t5 (fun i hi e => by omega)
      clear hc t5 h5 hA hB T
      go_wp2_with fail
      go_roundg j
      case measure => omega
      case rel => exact ⟨(j : Int) - 1, by omega, rfl, rfl, hA5, hB5, T5⟩
    · have e : gk = 0 := by omega
      subst e
      have hi : i = -1 := by omega
      clear hi0
      subst hi
      have h1 : AAt wr A (setA noA F M r) := hA.out
      have k1 : AAt wr (A + 1) (setA noA F M r) := hB.out
      have T1 := T.out
      clear hA hB T hg
      have hl := list_k h1 (runsK_one F M r hM1 hr0 (by omega)) (n := 1) rfl
      go_wp2_with fail
      with_reducible refine hl.mono ?_
      rintro e v2 ⟨la2, cap2, rfl, r2, t, _, _⟩
      have h2 := h1.touch t (by simp [Nil])
      have k2 := k1.touch t (by simp [Nil])
      have T2 := T1.transNew t (fun i hi e => e.elim)
      clear hl h1 k1 T1 t
      have hl := list_k k2 (runsK_one F M r hM1 hr0 (by omega)) (n := 1) rfl
      go_wp2_with fail
      with_reducible refine hl.mono ?_
      rintro e v3 ⟨la3, cap3, rfl, r3, t, _, _⟩
      have h3 := h2.touch t (by simp [Nil])
      have k3 := k2.touch t (by simp [Nil])
      have T3 := T2.transNew t (fun i hi e => e.elim)
      have r2 := r2.touch t
      clear hl h2 k2 T2 t
      have hS := rsame_any r2 r3 1 rfl (by omega) cap2 cap3
      clear r2 r3
      go_wp2_with fail
      with_reducible refine hS.mono ?_
      rintro e v4 ⟨rfl, t⟩
      have h4 := h3.touch t (by simp [Nil])
      have k4 := k3.touch t (by simp [Nil])
      have T4 := T3.transNew t (fun i hi e => e.elim)
      clear hS t h3 k3 T3
      have hl := list_k h4 (runsK_one F M r hM1 hr0 (by omega)) (n := 1) rfl
      go_wp2_with fail
      with_reducible refine hl.mono ?_
      rintro e v5 ⟨la5, cap5, rfl, r5, t, _, _⟩
      have h5 := h4.touch t (by simp [Nil])
      have k5 := k4.touch t (by simp [Nil])
      have T5 := T4.transNew t (fun i hi e => e.elim)
      clear hl h4 k4 T4 t r5
      have hl := pages_k h5 (pgs_one F M r hr0 (by omega))
      go_wp2_with fail
      with_reducible refine hl.mono ?_
      rintro e v6 ⟨la6, cap6, rfl, _, t, _, _⟩
      have h6 := h5.touch t (by simp [Nil])
      have k6 := k5.touch t (by simp [Nil])
      have T6 := T5.transNew t (fun i hi e => e.elim)
      clear hl h5 k5 T5 t
      have hW2 := fun w1 => within_any a2 M w1 (by omega) (by omega)
      obtain ⟨C, hC, hC'⟩ : ∃ C : Nat, C < M ∧ a2 % M = C := ⟨(a2 % M).toNat, by
        have := Int.emod_nonneg a2 (b := (M : Int)) (by omega)
        have := Int.emod_lt_of_pos a2 (b := (M : Int)) (by omega)
        omega, by
        have := Int.emod_nonneg a2 (b := (M : Int)) (by omega)
        omega⟩
      rw [hC'] at hW2
      clear hC'
      go_wp2_with fail
      with_reducible refine (hW2 _).mono ?_
      rintro e wq ⟨rfl, rfl⟩
      clear hW2
      obtain ⟨D, hD, hD1, hD2⟩ : ∃ D : Nat, Hid (M = C + D) ∧ 1 ≤ D ∧ (C : Int) + D = M := ⟨M - C, (show M = _ by omega), by omega, by omega⟩
      have qD : IntKind.i64.wrap ((M : Int) - C) = D := by rw [IntKind.wrap_i64]; omega
      have hD20 : D ≤ 20 := by omega
      have hW3 := fun w1 => within_any a3 D w1 (by omega) (by omega)
      obtain ⟨m0, hm0, hm'⟩ : ∃ m0 : Nat, m0 < D ∧ a3 % D = m0 := ⟨(a3 % D).toNat, by
        have := Int.emod_nonneg a3 (b := (D : Int)) (by omega)
        have := Int.emod_lt_of_pos a3 (b := (D : Int)) (by omega)
        omega, by
        have := Int.emod_nonneg a3 (b := (D : Int)) (by omega)
        omega⟩
      rw [hm'] at hW3
      clear hm'
      go_wp2_with fail
      with_reducible refine (hW3 _).mono ?_
      rintro e wq ⟨rfl, rfl⟩
      clear hW3
      obtain ⟨m, hm, hm1, hm2⟩ : ∃ m : Nat, Hid (m = m0 + 1) ∧ 1 ≤ m ∧ m ≤ D := ⟨m0 + 1, rfl, by omega, by omega⟩
      have qm : IntKind.i64.wrap (1 + (m0 : Int)) = m := by rw [IntKind.wrap_i64]; have := hm.out; omega
      have qC : IntKind.i64.wrap ((F : Int) + C) = (F : Int) + C := by rw [IntKind.wrap_i64]; omega
      obtain ⟨E, hE, hE2⟩ : ∃ E : Nat, M - m = E ∧ (E : Int) + m = M := ⟨M - m, rfl, by omega⟩
      have qE : IntKind.i64.wrap ((M : Int) - m) = E := by rw [IntKind.wrap_i64]; omega
      have hpg := pgs_gap F M C m r hr0 (by omega) (by omega)
      rw [hE] at hpg
      have hc := cut_k h6 ((F : Int) + C) m (show _ = (0, gapA F M C m r) from cutA_ok (F := F + C) (M := m) (by omega) rfl hm1 (by omega) (fun k hk => by unfold setA noA; (repeat' split) <;> omega)) (by omega)
      go_wp2_with fail
      with_reducible refine hc.mono ?_
      rintro e v7 ⟨rfl, h7, t⟩
      have k7 := k6.touch t (by omega)
      have T7 := T6.transNew t (fun i hi e => by omega)
      clear hc t h6 k6 T6
      have hl := pages_k h7 hpg
      go_wp2_with fail
      with_reducible refine hl.mono ?_
      rintro e v8 ⟨la8, cap8, rfl, _, t, _, _⟩
      have h8 := h7.touch t (by simp [Nil])
      have k8 := k7.touch t (by simp [Nil])
      have T8 := T7.transNew t (fun i hi e => e.elim)
      clear hl h7 k7 T7 t
      have hc := cut_k h8 ((F : Int) + C) m (show _ = (3, gapA F M C m r) from cutA_none (F := F + C) (M := m) (by omega) rfl hm1 (by omega) 0 (by omega) (by unfold gapA setA noA; (repeat' split) <;> omega)) (by omega)
      go_wp2_with fail
      with_reducible refine hc.mono ?_
      rintro e v9 ⟨rfl, h9, t⟩
      have k9 := k8.touch t (by omega)
      have T9 := T8.transNew t (fun i hi e => by omega)
      clear hc t h8 k8 T8
      have hc := chg_k h9 F M r (show _ = (3, gapA F M C m r) from chgA_none (F := F) (M := M) rfl rfl hM1 (by omega) hr3 C hC (by unfold gapA setA noA; (repeat' split) <;> omega)) (by omega)
      go_wp2_with fail
      with_reducible refine hc.mono ?_
      rintro e v10 ⟨rfl, h10, t⟩
      have k10 := k9.touch t (by omega)
      have T10 := T9.transNew t (fun i hi e => by omega)
      clear hc t h9 k9 T9
      have hl := pages_k h10 hpg
      go_wp2_with fail
      with_reducible refine hl.mono ?_
      rintro e v11 ⟨la11, cap11, rfl, _, t, _, _⟩
      have h11 := h10.touch t (by simp [Nil])
      have k11 := k10.touch t (by simp [Nil])
      have T11 := T10.transNew t (fun i hi e => e.elim)
      clear hl h10 k10 T10 t
      go_upto_region 16 with fail
      have hCm : C + m ≤ M := by omega
      clear hE hE2 qE qD hD hD1 hD2 hD20 hm0 hm hm2 qm hpg
      by_cases hmM : m = M
      · have hC0 : C = 0 := by omega
        subst hC0
        subst hmM
        clear hCm hC qC
        have hc := add_k h11 F m r (show _ = (0, setA noA F m r) from (addA_ok (F := F) (M := m) rfl rfl hm1 (by omega) hr3 (fun k hk => by unfold gapA setA noA; (repeat' split) <;> omega)).trans (by rw [gap_all])) (by omega)
        go_wp2_with fail
        with_reducible refine hc.mono ?_
        rintro e v12 ⟨rfl, h12, t⟩
        have k12 := k11.touch t (by omega)
        have T12 := T11.transNew t (fun i hi e => by omega)
        clear hc t h11 k11 T11
        have hl := list_k h12 (runsK_one F m r hm1 hr0 (by omega)) (n := 1) rfl
        go_wp2_with fail
        with_reducible refine hl.mono ?_
        rintro e v13 ⟨la13, cap13, rfl, r13, t, _, _⟩
        have h13 := h12.touch t (by simp [Nil])
        have k13 := k12.touch t (by simp [Nil])
        have T13 := T12.transNew t (fun i hi e => e.elim)
        clear hl h12 k12 T12 t
        have hl := list_k k13 (runsK_one F m r hm1 hr0 (by omega)) (n := 1) rfl
        go_wp2_with fail
        with_reducible refine hl.mono ?_
        rintro e v14 ⟨la14, cap14, rfl, r14, t, _, _⟩
        have h14 := h13.touch t (by simp [Nil])
        have k14 := k13.touch t (by simp [Nil])
        have T14 := T13.transNew t (fun i hi e => e.elim)
        have r13 := r13.touch t
        clear hl h13 k13 T13 t
        have hS := rsame_any r13 r14 1 rfl (by omega) cap13 cap14
        clear r13 r14
        go_wp2_with fail
        with_reducible refine hS.mono ?_
        rintro e v15 ⟨rfl, t⟩
        have h15 := h14.touch t (by simp [Nil])
        have k15 := k14.touch t (by simp [Nil])
        have T15 := T14.transNew t (fun i hi e => e.elim)
        clear hS t h14 k14 T14
        go_wp2_with fail
        with_reducible refine (wakes12 _).mono ?_
        rintro e v16 ⟨rfl, t⟩
        have T16 := T15.transNew t (fun i hi e => e.elim)
        clear t T15
        go_wp2_with fail
        go_ret
        exact ⟨rfl, T16⟩
      · have hne : ((m : Int) == (M : Int)) = false := by simp; omega
        obtain ⟨kk, hkk, hkp⟩ : ∃ kk, kk < M ∧ 0 ≤ gapA F M C m r (F + kk) := by
          by_cases hC0 : C = 0
          · exact ⟨m, by omega, by unfold gapA setA noA; (repeat' split) <;> omega⟩
          · exact ⟨0, by omega, by unfold gapA setA noA; (repeat' split) <;> omega⟩
        have hc := add_k h11 F M r (show _ = (4, gapA F M C m r) from addA_there (F := F) (M := M) rfl rfl hM1 (by omega) hr3 kk hkk hkp) (by omega)
        go_wp2_with fail
        with_reducible refine hc.mono ?_
        rintro e v12 ⟨rfl, h12, t⟩
        have k12 := k11.touch t (by omega)
        have T12 := T11.transNew t (fun i hi e => by omega)
        clear hc t h11 k11 T11
        have hc := add_k h12 ((F : Int) + C) m r (show _ = (0, setA noA F M r) from (addA_ok (F := F + C) (M := m) (by omega) rfl hm1 (by omega) hr3 (fun k hk => by unfold gapA setA noA; (repeat' split) <;> omega)).trans (by rw [gap_fill F M C m r (by omega)])) (by omega)
        go_wp2_with fail
        with_reducible refine hc.mono ?_
        rintro e v13 ⟨rfl, h13, t⟩
        have k13 := k12.touch t (by omega)
        have T13 := T12.transNew t (fun i hi e => by omega)
        clear hc t h12 k12 T12
        have hl := list_k h13 (runsK_one F M r hM1 hr0 (by omega)) (n := 1) rfl
        go_wp2_with fail
        with_reducible refine hl.mono ?_
        rintro e v14 ⟨la14, cap14, rfl, r14, t, _, _⟩
        have h14 := h13.touch t (by simp [Nil])
        have k14 := k13.touch t (by simp [Nil])
        have T14 := T13.transNew t (fun i hi e => e.elim)
        clear hl h13 k13 T13 t
        have hl := list_k k14 (runsK_one F M r hM1 hr0 (by omega)) (n := 1) rfl
        go_wp2_with fail
        with_reducible refine hl.mono ?_
        rintro e v15 ⟨la15, cap15, rfl, r15, t, _, _⟩
        have h15 := h14.touch t (by simp [Nil])
        have k15 := k14.touch t (by simp [Nil])
        have T15 := T14.transNew t (fun i hi e => e.elim)
        have r14 := r14.touch t
        clear hl h14 k14 T14 t
        have hS := rsame_any r14 r15 1 rfl (by omega) cap14 cap15
        clear r14 r15
        go_wp2_with fail
        with_reducible refine hS.mono ?_
        rintro e v16 ⟨rfl, t⟩
        have h16 := h15.touch t (by simp [Nil])
        have k16 := k15.touch t (by simp [Nil])
        have T16 := T15.transNew t (fun i hi e => e.elim)
        clear hS t h15 k15 T15
        go_wp2_with fail
        with_reducible refine (wakes12 _).mono ?_
        rintro e v17 ⟨rfl, t⟩
        have T17 := T16.transNew t (fun i hi e => e.elim)
        clear t T16
        go_wp2_with fail
        go_ret
        exact ⟨rfl, T17⟩
end Go.Proofs.Ytehdaiagkonekaa

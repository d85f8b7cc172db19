/-
  The walk of SwapSlots.
-/
import Derived.Test.YtaofkedcdeocjaaSwapD
import Derived.Test.YtaofkedcdeocjaaKeep
namespace Go.Proofs.Ytaofkedcdeocjaa
open Go.ChangeShapes Go.WideShapes Go.ChangeAt Go.RowKit

/-- Behind f frames that went out. -/
structure SlI (o f : Nat) (q : QS) (s : MS) : Prop where
  n : s.n = 4
  u : ∀ k, 1 ≤ k → k < 8 → q.U k = decide (k ≤ f)
  w : ∀ k : Nat, 1 ≤ k → k ≤ f → q.W k o = 9 + k
  z : 1 ≤ f → s.frame 0 o = 10
theorem SlI.start (o : Nat) : SlI o 0 QS.fresh (MS.fresh 4) := ⟨rfl, fun k h _ => by rw [decide_eq_false (by omega)]; rfl, fun k h1 h2 => by omega, fun h => by omega⟩
theorem SlI.free {o f : Nat} {q : QS} {s : MS} (h : SlI o f q s) (hf : f < 4) : q.Free (f + 1) :=
  ⟨by omega, by omega, by rw [h.u _ (by omega) (by omega)]; simp, fun g h1 h2 => by rw [h.u _ h1 (by omega)]; simp; omega⟩
theorem SlI.step {o f : Nat} {q : QS} {s : MS} (h : SlI o f q s) (hf : f < 4) (ho : o < 8) :
    SlI o (f + 1) (q.lay (f + 1) true ((s.write (8 * f + o) (10 + f)).frame f)) (s.write (8 * f + o) (10 + f)) := by
  have hW : s.hasW (8 * (f : Int) + o) = true := (s.hasW_iff _).2 (by have := h.n; omega)
  refine ⟨by rw [MS.write_n]; exact h.n, fun k k1 k2 => ?_, fun k k1 k2 => ?_, fun _ => ?_⟩
  · rw [QS.lay_U]
    by_cases e : k = f + 1
    · rw [if_pos e, decide_eq_true (by omega)]
    · rw [if_neg e, h.u k k1 k2]; exact decide_eq_decide.2 (by omega)
  · rw [QS.lay_W]
    by_cases e : k = f + 1
    · rw [if_pos e, MS.frame_write _ _ _ _ _ hW, if_pos (by omega)]; omega
    · rw [if_neg e]; exact h.w k k1 (by omega)
  · rw [MS.frame_write _ _ _ _ _ hW]
    by_cases e : f = 0
    · rw [if_pos (by omega)]; omega
    · rw [if_neg (by omega)]; exact h.z (by omega)

set_option maxRecDepth 20000 in
set_option maxHeartbeats 4000000 in
theorem swapSlots_walk (a0 a1 : Int) (w : World) :
    Calls Try.prog 6 #[.int .i64 a0, .int .i64 a1] w fun e w' => e = .returned (.bool true) ∧ Touch Nil w w' := by
  go_enter Try.func6, Try.ntmps6
  have hN := new_any 4 w
  rw [show MS.many 4 = 4 from rfl] at hN
  go_wp2_with fail
  with_reducible refine hN.mono ?_
  rintro e w1 ⟨rfl, hM, t1, s1⟩
  clear hN
  go_wp2_with fail
  with_reducible refine (snew_any w1).mono ?_
  rintro e w2 ⟨rfl, hQ, t2, s2⟩
  have hM2 := hM.touch t2 (fun h => h) (fun h => h)
  have T2 := t1.trans t2
  have hne : w1.heap.size ≠ w.heap.size + 1 ∧ w1.heap.size ≠ w.heap.size := by omega
  have hge : w.heap.size ≤ w1.heap.size := by omega
  clear t1 t2 s1 s2 hM
  generalize w1.heap.size = P at *
  have d0 := Int.emod_nonneg a0 (b := 4) (by omega)
  have d1 := Int.emod_lt_of_pos a0 (b := 4) (by omega)
  have o0 := Int.emod_nonneg a1 (b := 8) (by omega)
  have o1 := Int.emod_lt_of_pos a1 (b := 8) (by omega)
  have hW4 := within_any a0 4 w2 (by decide) (by decide)
  have hW8 := within_any a1 8 w2 (by decide) (by decide)
  obtain ⟨o, ho⟩ : ∃ o : Nat, a1 % 8 = o := ⟨(a1 % 8).toNat, by omega⟩
  obtain ⟨D, hD⟩ : ∃ D : Nat, 1 + a0 % 4 = D := ⟨(1 + a0 % 4).toNat, by omega⟩
  have ho8 : o < 8 := by omega
  have hD1 : 1 ≤ D := by omega
  have hD4 : D ≤ 4 := by omega
  rw [ho] at hW8
  go_wp2_with fail
  with_reducible refine hW4.mono ?_
  rintro e wq ⟨rfl, rfl⟩
  go_wp2_with fail
  with_reducible refine hW8.mono ?_
  rintro e wq ⟨rfl, rfl⟩
  go_wp2_with fail
  clear hW4 hW8 d0 d1 o0 o1
  go_loopg [7] 4 (fun g i wr => ∃ (f : Nat) (q : QS) (s : MS), g + f = 4 ∧ i = .int .i64 f ∧ SlI o f q s ∧ QAt wr P q ∧ MemAt wr (w.heap.size + 1) w.heap.size s ∧ Touch Nil w wr)
  case atStart => exact ⟨0, _, _, by omega, rfl, SlI.start o, hQ, hM2, T2⟩
  case round =>
    clear hQ hM2 T2
    obtain ⟨f, q, s, hgf, rfl, hI, hQ, hM, T⟩ := hrel
    by_cases hf : f < 4
    · have f1 : (f : Int) < 4 := by omega
      have hW := write_any hM (8 * (f : Int) + o) (10 + f) (by omega)
      have hS := hI.step hf ho8
      have hFr := hI.free hf
      obtain ⟨s', hs'⟩ : ∃ s', Hid (s.write (8 * (f : Int) + o) (10 + f) = s') := ⟨_, rfl⟩
      rw [hs'.out] at hW hS
      have hF' : s'.hasF (f : Int) = true := (s'.hasF_iff _).2 (by have := hS.n; omega)
      have f5 : ((f + 1 : Nat) : Int) = (f : Int) + 1 := by omega
      go_wp2_with fail
      with_reducible refine hW.mono ?_
      rintro e w4 ⟨rfl, hM4, t4⟩
      have hQ4 := hQ.touch t4 (fun e => hne.2 e)
      have T4 := T.transNew t4 (fun i hi e => by omega)
      clear hQ hM T t4 hW
      go_wp2_with fail
      with_reducible refine (sout_yes hQ4 hM4 hFr (f : Int) hF').mono ?_
      rintro e w5 ⟨rfl, hQ5, t5⟩
      have hM5 := hM4.touch t5 (fun e => hne.1 e.symm) (fun e => hne.2 e.symm)
      have T5 := T4.transNew t5 (fun i hi e => by omega)
      clear hQ4 hM4 T4 t5
      go_wp2_with fail
      go_roundg (3 - f)
      case measure => omega
      case rel => exact ⟨f + 1, _, _, by omega, by go_num, hS, hQ5, hM5, T5⟩
    · have h4 : f = 4 := by omega
      subst h4
      have hn := hI.n
      have hUD := hI.u D hD1 (by omega)
      rw [decide_eq_true hD4] at hUD
      have hwd := hI.w D hD1 hD4
      have e1 : q.wok (D : Int) (o : Int) = true := by rw [QS.wok_at q D o hD1 (by omega) ho8]; exact hUD
      have e2 : q.wd (D : Int) (o : Int) = 9 + D := by rw [QS.wd_at q D o hD1 (by omega) ho8, hUD]; exact hwd
      have e3 : q.isOut (D : Int) = true := by rw [QS.isOut_at q D hD1 (by omega)]; exact hUD
      have hWd := sword_any hQ (D : Int) (o : Int)
      rw [e1, e2] at hWd
      have hDr := sdrop_any hQ (D : Int)
      rw [e3, if_pos rfl, Int.toNat_natCast] at hDr
      have hl0 : q.left = 3 := by
        have h1 := hI.u 1 (by omega) (by omega)
        have h2 := hI.u 2 (by omega) (by omega)
        have h3 := hI.u 3 (by omega) (by omega)
        have h4 := hI.u 4 (by omega) (by omega)
        have h5 := hI.u 5 (by omega) (by omega)
        have h6 := hI.u 6 (by omega) (by omega)
        have h7 := hI.u 7 (by omega) (by omega)
        unfold QS.left
        simp [QS.cnt, h1, h2, h3, h4, h5, h6, h7]
      obtain ⟨q1, hq1⟩ : ∃ q1, Hid (q.lay D false (fun _ => 0) = q1) := ⟨_, rfl⟩
      have u1 : ∀ k, q1.U k = if k = D then false else q.U k := fun k => by rw [← hq1.out]; rfl
      have l1 : q1.left = 4 := by
        have := q.left_lay D false (fun _ => 0) hD1 (by omega)
        rw [hq1.out, hUD, hl0] at this; simpa using this
      have f1 : q1.Free D := ⟨hD1, by omega, by rw [u1]; simp, fun g g1 g2 => by rw [u1, if_neg (by omega), hI.u g g1 (by omega)]; simp; omega⟩
      rw [hq1.out] at hDr
      have i1 : q1.isOut (D : Int) = false := by rw [QS.isOut_at q1 D hD1 (by omega), u1]; simp
      obtain ⟨n1, n2⟩ := QS.wok_no (q := q1) (k := D) (o := o) (by rw [i1]; simp)
      have hF0 : s.hasF 0 = true := (s.hasF_iff _).2 (by omega)
      have hF3 : s.hasF 3 = true := (s.hasF_iff _).2 (by omega)
      obtain ⟨q2, hq2⟩ : ∃ q2, Hid (q1.lay D true (s.frame 0) = q2) := ⟨_, rfl⟩
      have u2 : q2.U D = true := by rw [← hq2.out, QS.lay_U]; simp
      have i2 : q2.isOut (D : Int) = true := by rw [QS.isOut_at q2 D hD1 (by omega)]; exact u2
      have m1 : q2.wok (D : Int) (o : Int) = true := by rw [QS.wok_at q2 D o hD1 (by omega) ho8]; exact u2
      have m2 : q2.wd (D : Int) (o : Int) = 10 := by rw [QS.wd_at q2 D o hD1 (by omega) ho8, u2, if_pos rfl, ← hq2.out, QS.lay_W, if_pos rfl]; exact hI.z (by omega)
      obtain ⟨m3, m4⟩ := QS.wok_no (q := q2) (k := D) (o := 8) (by omega)
      obtain ⟨q3, hq3⟩ : ∃ q3, Hid (q2.lay D false (fun _ => 0) = q3) := ⟨_, rfl⟩
      have l2 : q2.left = 3 := by
        have := q1.left_lay D true (s.frame 0) hD1 (by omega)
        rw [hq2.out, u1 D, l1] at this; simp at this; omega
      have l3 : q3.left = 4 := by
        have := q2.left_lay D false (fun _ => 0) hD1 (by omega)
        rw [hq3.out, u2, l2] at this; simpa using this
      have i3 : q3.isOut (D : Int) = false := by rw [QS.isOut_at q3 D hD1 (by omega), ← hq3.out, QS.lay_U]; simp
      clear u1 u2
      go_wp2_with fail
      with_reducible refine hWd.mono ?_
      rintro e wq ⟨rfl, rfl⟩
      go_wp2_with fail
      with_reducible refine hDr.mono ?_
      rintro e w4 ⟨rfl, hQ4, t4⟩
      have hM4 := hM.touch t4 (fun e => hne.1 e.symm) (fun e => hne.2 e.symm)
      have T4 := T.transNew t4 (fun i hi e => by omega)
      clear hQ hM T t4 hDr hWd
      have hDr := sdrop_any hQ4 (D : Int)
      rw [i1, if_neg (by decide)] at hDr
      go_wp2_with fail
      with_reducible refine hDr.mono ?_
      rintro e w5 ⟨rfl, hQ5, t5⟩
      have hM5 := hM4.touch t5 (fun e => hne.1 e.symm) (fun e => hne.2 e.symm)
      have T5 := T4.transNew t5 (fun i hi e => by omega)
      clear hQ4 hM4 T4 t5 hDr
      have hL := sleft_any hQ5
      rw [l1] at hL
      go_wp2_with fail
      with_reducible refine hL.mono ?_
      rintro e wq ⟨rfl, rfl⟩
      have hWd := sword_any hQ5 (D : Int) (o : Int)
      rw [n1, n2] at hWd
      go_wp2_with fail
      with_reducible refine hWd.mono ?_
      rintro e wq ⟨rfl, rfl⟩
      have hO := sout_yes hQ5 hM5 f1 0 hF0
      rw [hq2.out] at hO
      go_wp2_with fail
      with_reducible refine hO.mono ?_
      rintro e w6 ⟨rfl, hQ6, t6⟩
      have hM6 := hM5.touch t6 (fun e => hne.1 e.symm) (fun e => hne.2 e.symm)
      have T6 := T5.transNew t6 (fun i hi e => by omega)
      clear hQ5 hM5 T5 t6 hO hWd hL
      have hWd := sword_any hQ6 (D : Int) (o : Int)
      rw [m1, m2] at hWd
      go_wp2_with fail
      with_reducible refine hWd.mono ?_
      rintro e wq ⟨rfl, rfl⟩
      clear hWd
      have hWd := sword_any hQ6 (D : Int) 8
      rw [m3, m4] at hWd
      go_wp2_with fail
      with_reducible refine hWd.mono ?_
      rintro e wq ⟨rfl, rfl⟩
      clear hWd
      have hIn := sin_yes hQ6 hM6 hne (D : Int) 3 i2 hF3
      rw [Int.toNat_natCast, hq3.out] at hIn
      go_wp2_with fail
      with_reducible refine hIn.mono ?_
      rintro e w7 ⟨rfl, hQ7, hM7, t7⟩
      have T7 := T6.transNew t7 (fun i hi e => by omega)
      clear hQ6 hM6 T6 t7 hIn
      go_wp2_with fail
      with_reducible refine (sin_no hQ7 hM7 (D : Int) 3 (by rw [i3, Bool.false_and])).mono ?_
      rintro e wq ⟨rfl, rfl⟩
      go_wp2_with fail
      with_reducible refine (sin_no hQ7 hM7 0 0 (by rw [QS.isOut_off _ _ (by omega), Bool.false_and])).mono ?_
      rintro e wq ⟨rfl, rfl⟩
      go_wp2_with fail
      with_reducible refine (sin_no hQ7 hM7 8 0 (by rw [QS.isOut_off _ _ (by omega), Bool.false_and])).mono ?_
      rintro e wq ⟨rfl, rfl⟩
      have hL := sleft_any hQ7
      rw [l3] at hL
      go_wp2_with fail
      with_reducible refine hL.mono ?_
      rintro e wq ⟨rfl, rfl⟩
      go_wp2_with fail
      with_reducible refine (wakes10 _).mono ?_
      rintro e w8 ⟨rfl, t8⟩
      have T8 := T7.trans t8
      go_wp2_with fail
      go_ret
      exact ⟨rfl, T8⟩
end Go.Proofs.Ytaofkedcdeocjaa

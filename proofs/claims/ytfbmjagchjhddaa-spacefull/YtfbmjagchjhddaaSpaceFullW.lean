/-
  The law SpaceFull, walked.
-/
import Derived.Test.YtfbmjagchjhddaaSpK
import Derived.Test.YtfbmjagchjhddaaKeep
namespace Go.Proofs.Ytfbmjagchjhddaa
open Go.ChangeShapes Go.WideShapes Go.ChangeAt Go.RowKit

set_option maxRecDepth 20000 in
set_option maxHeartbeats 4000000 in
theorem spaceFull_walk (kpti : Bool) (page leave : Int) (w : World) :
    Calls Try.prog 5 #[.bool kpti, .int .i64 page, .int .i64 leave] w fun e w' => e = .returned (.bool true) ∧ Touch Nil w w' := by
  cases kpti with
  | true =>
    go_enter Try.func5, Try.ntmps5
    go_upto_region 2 with fail
    have hg : (w.alloc (.cells #[.int .i64 24, .int .i64 1, .bool true, .bool false] 23)).heap[w.heap.size]? = some (.cells #[.int .i64 24, .int .i64 1, .bool true, .bool false] 23 (0, 0)) := heap_alloc_new w _
    have t0 := (Touch.refl Nil w).alloc (.cells #[.int .i64 24, .int .i64 1, .bool true, .bool false] 23)
    have hs0 : w.heap.size < (w.alloc (.cells #[.int .i64 24, .int .i64 1, .bool true, .bool false] 23)).heap.size := by simp
    generalize w.alloc (.cells #[.int .i64 24, .int .i64 1, .bool true, .bool false] 23) = W at *
    have HG : ∀ (B : Nat) wx, w.heap.size < B → Touch (fun x => B ≤ x) W wx → wx.cell? ⟨w.heap.size, 0, none⟩ = some (.int .i64 24) ∧ wx.cell? ⟨w.heap.size, 1, none⟩ = some (.int .i64 1) ∧ wx.cell? ⟨w.heap.size, 2, none⟩ = some (.bool true) ∧ wx.cell? ⟨w.heap.size, 3, none⟩ = some (.bool false) := fun B wx hB tx => by
      have := (tx.block w.heap.size hs0 (by omega)).trans hg
      simp [World.cell?, this]
    have hM := new_any (24 : Int) W
    rw [show MS.many (24 : Int) = 24 by decide] at hM
    go_upto_region 3 with (go_at_call 16; refine hM.mono ?_; rintro e w1 ⟨rfl, m1, t1, hs1⟩)
    clear hM
    obtain ⟨c, hc⟩ : ∃ c, Hid (W.heap.size = c) := ⟨_, rfl⟩
    rw [hc.out] at m1 hs1 hs0
    rw [hc.out]
    have T1 : Touch (fun x => c ≤ x) W w1 := t1.mono (fun _ _ h => h.elim)
    have hB := boot_yes m1 1 true false (by decide) (by decide)
    rw [fresh_n] at hB
    unfold cfV at hB
    obtain ⟨a0, a1, a2, a3⟩ := HG c w1 (by omega) T1
    go_upto_region 5 with fail
    go_upto_region 6 with (go_at_call 17; refine hB.mono ?_; rintro e w2 ⟨rfl, m2, t2⟩)
    clear a0 a1 a2 a3 hB
    have t2a := t2.alloc (.cells #[.int .i64 3, .int .i64 13] 45)
    have m2a := m2.touch ((Touch.refl Nil w2).alloc (.cells #[.int .i64 3, .int .i64 13] 45)) (fun h => h) (fun h => h)
    have hf : (w2.alloc (.cells #[.int .i64 3, .int .i64 13] 45)).heap[w2.heap.size]? = some (.cells #[.int .i64 3, .int .i64 13] 45 (0, 0)) := heap_alloc_new w2 _
    have hcF : c + 2 ≤ w2.heap.size := by have := t2.size; omega
    generalize w2.alloc (.cells #[.int .i64 3, .int .i64 13] 45) = W2 at *
    generalize w2.heap.size = Fx at *
    have T2 : Touch (fun x => c ≤ x) W W2 := T1.trans (t2a.mono (fun x _ e => by omega))
    go_upto_region 7 with (go_at_call 18; refine (pnew_any (c + 1)).mono ?_; rintro e w3 ⟨rfl, p3, t3, hs3⟩)
    have m3 := m2a.touch t3 (fun h => h) (fun h => h)
    have T3 : Touch (fun x => c ≤ x) W w3 := T2.trans (t3.mono (fun _ _ h => h.elim))
    have hFl : Fx < W2.heap.size := lt_of_block' hf
    obtain ⟨p, hp⟩ : ∃ p, Hid (W2.heap.size = p) := ⟨_, rfl⟩
    rw [hp.out] at p3 hs3 hFl
    rw [hp.out]
    have HF : ∀ wx, Touch (fun x => x = p ∨ x = c ∨ p + 1 ≤ x) w3 wx → wx.cell? ⟨Fx, 0, none⟩ = some (.int .i64 3) ∧ wx.cell? ⟨Fx, 1, none⟩ = some (.int .i64 13) := fun wx tx => by
      have hf3 := (t3.block Fx (lt_of_block' hf) (fun h => h)).trans hf
      have := (tx.block Fx (lt_of_block' hf3) (by omega)).trans hf3
      simp [World.cell?, this]
    have HC : ∀ wx, Touch (fun x => x = p ∨ x = c ∨ p + 1 ≤ x) w3 wx → wx.cell? ⟨w.heap.size, 0, none⟩ = some (.int .i64 24) ∧ wx.cell? ⟨w.heap.size, 1, none⟩ = some (.int .i64 1) ∧ wx.cell? ⟨w.heap.size, 2, none⟩ = some (.bool true) ∧ wx.cell? ⟨w.heap.size, 3, none⟩ = some (.bool false) := fun wx tx =>
      HG c wx (by omega) (T3.trans (tx.mono (fun x _ e => by omega)))
    obtain ⟨a0, a1, a2, a3⟩ := HC w3 (Touch.refl _ _)
    obtain ⟨f0, f1⟩ := HF w3 (Touch.refl _ _)
    have hN := new_yes (s := (MS.fresh 24).boot true) p3 m3 24 1 true false 0 (by decide +kernel)
    unfold cfV at hN
    go_upto_region 9 with fail
    go_upto_region 10 with (go_at_call 20; refine hN.mono ?_; rintro e w4 ⟨q, rfl, hq, h4, t4⟩)
    clear a0 a1 a2 a3 f0 f1 hN
    have U4 : Touch (fun x => x = p ∨ x = c ∨ p + 1 ≤ x) w3 w4 := t4.mono (fun x _ e => by omega)
    have hqp : p + 1 ≤ q := by omega
    have BB : ∀ wx, Touch (fun x => x = p ∨ x = c ∨ p + 1 ≤ x) w3 wx → Touch Nil w wx := fun wx tx => t0.transNew (T3.trans (tx.mono (fun x _ e => (by omega : c ≤ x)))) (fun i hi e => by omega)
    have eS : (YS.new 0 true (fun _ => 0) ((MS.fresh 24).boot true)).S = ⟨0, 15, 16, fun _ => 0, fun _ => 0⟩ := by kernel_rfl
    have hl4 : (YS.new 0 true (fun _ => 0) ((MS.fresh 24).boot true)).s.left = 7 := by decide +kernel
    have hn4 : (YS.new 0 true (fun _ => 0) ((MS.fresh 24).boot true)).s.n = 24 := by decide +kernel
    have ok : SS.ok ⟨0, 15, 16, fun _ => 0, fun _ => 0⟩ := ⟨by decide, by decide, fun _ => ⟨Int.le_refl 0, by show (0 : Int) < 64; decide⟩, fun _ => ⟨Int.le_refl 0, by show (0 : Int) < 64; decide⟩⟩
    have h4' : Sys w4 q p (c + 1) c ⟨0, 15, 16, fun _ => 0, fun _ => 0⟩ (YS.new 0 true (fun _ => 0) ((MS.fresh 24).boot true)).R (YS.new 0 true (fun _ => 0) ((MS.fresh 24).boot true)).s := by have := h4; unfold YAt at this; rw [eS] at this; exact this
    clear h4 eS
    generalize (YS.new 0 true (fun _ => 0) ((MS.fresh 24).boot true)).R = R4 at *
    generalize (YS.new 0 true (fun _ => 0) ((MS.fresh 24).boot true)).s = s4 at *
    go_upto_region 12 with fail
    have hW1 := within_any page 256 w4 (by decide) (by decide)
    have hW2 := within_any leave 4 w4 (by decide) (by decide)
    have p0 := Int.emod_nonneg page (b := 256) (by omega)
    have p1 := Int.emod_lt_of_pos page (b := 256) (by omega)
    have v0 := Int.emod_nonneg leave (b := 4) (by omega)
    have v1 := Int.emod_lt_of_pos leave (b := 4) (by omega)
    generalize page % 256 = pg at *
    obtain ⟨lv, hlv⟩ : ∃ lv : Nat, leave % 4 = lv := ⟨(leave % 4).toNat, by omega⟩
    rw [hlv] at hW2 v0 v1
    clear hlv
    go_upto_block 0 with (go_at_call 11; first | (with_reducible refine hW1.mono ?_; rintro e wq ⟨rfl, rfl⟩) | (with_reducible refine hW2.mono ?_; rintro e wq ⟨rfl, rfl⟩))
    clear hW1 hW2
    go_cut [13] (fun _ wx => ∃ R s, Sys wx q p (c + 1) c ⟨0, 15, 16, fun _ => 0, fun _ => 0⟩ R s ∧ s.left = lv ∧ s.n = 24 ∧ Touch (fun x => x = p ∨ x = c ∨ p + 1 ≤ x) w3 wx)
    case first =>
      go_wp2_with fail
      go_loopg [13] 24 (fun g i wr => ∃ (k : Nat) (R : Nat → Int) (s : MS), g + k = 24 ∧ i = .int .i64 k ∧ Sys wr q p (c + 1) c ⟨0, 15, 16, fun _ => 0, fun _ => 0⟩ R s ∧ s.left + k = 7 ∧ lv ≤ s.left ∧ s.n = 24 ∧ Touch (fun x => x = p ∨ x = c ∨ p + 1 ≤ x) w3 wr)
      case atStart => exact ⟨0, R4, s4, by omega, rfl, h4', by omega, by omega, hn4, U4⟩
      case round =>
        clear h4' hl4 hn4 U4
        obtain ⟨k, R, s, hg, rfl, h5, hl5, hge, hn5, U5⟩ := hrel
        have k1 : (k : Int) < 24 := by omega
        have hLf := pleft_any h5.po h5.me
        by_cases hlt : lv < s.left
        · have k2 : (lv : Int) < (s.left : Int) := by omega
          have hL := least_left (s := s) (by omega)
          have hT := ptake_least h5.po h5.me 2 0 (Or.inr rfl) hL
          have hml := mark_left2 (c := 2) (Or.inr rfl) hL 0
          go_wp2_with (first | (go_at_call 19; refine hLf.mono ?_; rintro e wq ⟨rfl, rfl⟩) | (go_at_call 23; refine hT.mono ?_; rintro e w6 ⟨rfl, p6, m6, t6⟩))
          go_roundg (24 - (k + 1))
          case measure => omega
          case rel => exact ⟨k + 1, _, _, by omega, by go_num, ⟨h5.sp.touch t6 (by rintro (e | e); exact h5.qp e; exact h5.qc e), p6, m6⟩, by omega, by omega, by rw [MS.mark_n]; exact hn5, U5.trans (t6.mono (fun x _ e => by omega))⟩
        · have k2 : ¬ ((lv : Int) < (s.left : Int)) := by omega
          go_wp2_with (go_at_call 19; refine hLf.mono ?_; rintro e wq ⟨rfl, rfl⟩)
          go_meet
          exact ⟨R, s, h5, by omega, hn5, U5⟩
    case rest =>
      clear h4' hl4 hn4 U4
      obtain ⟨R, s, h5, hl5, hn5, U5⟩ := hcut
      have hTb := tables_any h5.sp
      obtain ⟨was, hwas⟩ : ∃ n, Hid ((SS.tabs ⟨0, 15, 16, fun _ => 0, fun _ => 0⟩).length = n) := ⟨_, rfl⟩
      have hnd : SS.need ⟨0, 15, 16, fun _ => 0, fun _ => 0⟩ [pg] = 2 := by
        rw [need_is ((hasP_iff _ _).2 ⟨by show (15 : Int) ≠ 0; decide, p0, p1⟩)]; rfl
      have hmay : (YS.mk ⟨0, 15, 16, fun _ => 0, fun _ => 0⟩ R s).may pg = decide (2 ≤ lv) := by
        unfold YS.may
        rw [(hasP_iff _ _).2 ⟨by show (15 : Int) ≠ 0; decide, p0, p1⟩]
        show (true && decide (SS.need ⟨0, 15, 16, fun _ => 0, fun _ => 0⟩ [pg] ≤ s.left)) = _
        rw [hnd, hl5]; rfl
      rw [hwas.out] at hTb
      go_upto_region 18 with (go_at_call 12; refine hTb.mono ?_; rintro e w6 ⟨a6, c6, rfl, _, b6⟩)
      clear hTb
      have t6 : Touch Nil wc w6 := Touch.ofBelow b6
      have h6 := h5.nil t6
      have U6 := U5.trans (t6.mono (fun _ _ h => h.elim))
      have hSt := set_any (y := ⟨⟨0, 15, 16, fun _ => 0, fun _ => 0⟩, R, s⟩) h6 ok pg 7
      rw [hmay] at hSt
      clear h5 U5 b6
      by_cases h2 : 2 ≤ lv
      · have v2 : (2 : Int) ≤ (lv : Int) := by omega
        have v3 : ¬ ((lv : Int) < 2) := by omega
        rw [decide_eq_true h2] at hSt hmay
        simp only [if_true] at hSt
        obtain ⟨y2, hy2⟩ : ∃ y, Hid (YS.set ⟨⟨0, 15, 16, fun _ => 0, fun _ => 0⟩, R, s⟩ pg 7 = y) := ⟨_, rfl⟩
        have hF := set_facts hmay (by show s.n ≤ 64; omega) 7
        have hNw := set_new hmay rfl 7
        have ok2 := set_ok ok hmay (by show s.n ≤ 64; omega) 7
        have hss := set_s ⟨⟨0, 15, 16, fun _ => 0, fun _ => 0⟩, R, s⟩ pg 7
        have hzn : ((YS.up1 ⟨⟨0, 15, 16, fun _ => 0, fun _ => 0⟩, R, s⟩ (pg / 64).toNat).la1 (pg / 64).toNat (pg / 8 % 8).toNat).s.n = 24 := by rw [la1_n, up1_n]; exact hn5
        generalize ((YS.up1 ⟨⟨0, 15, 16, fun _ => 0, fun _ => 0⟩, R, s⟩ (pg / 64).toNat).la1 (pg / 64).toNat (pg / 8 % 8).toNat).s = sz at *
        rw [hy2.out] at hSt hF hNw ok2 hss
        have hN2 : SS.need (YS.mk ⟨0, 15, 16, fun _ => 0, fun _ => 0⟩ R s).S [pg] = 2 := hnd
        rw [hN2] at hF
        obtain ⟨hF1, hF2, hF3, hF4, hF5⟩ := hF
        have hF4' : y2.s.n = 24 := hF4.trans hn5
        have hF5' : y2.s.left + 2 = lv := hF5.trans hl5
        have hNw' : y2.S.la ((pg / 64).toNat * 8 + (pg / 8 % 8).toNat) < 24 := by have := hNw.2; rw [show (YS.mk ⟨0, 15, 16, fun _ => 0, fun _ => 0⟩ R s).s.n = 24 from hn5] at this; exact this
        have hNw0 := hNw.1
        have hk2 : y2.S.kern ≠ 0 := by rw [hF3]; show (15 : Int) ≠ 0; decide
        clear hy2 hF3 hF4 hF5 hNw hN2 hmay hnd
        obtain ⟨pg', hx, q0, q1, e64, e8, e1⟩ := xor_one pg p0 p1
        have hasA : ∀ P : Int, P / 64 = pg / 64 → P / 8 % 8 = pg / 8 % 8 → 0 ≤ P → sz.hasW (y2.S.pl P) = true ∧ 0 ≤ y2.S.pl P := fun P h64 h8 hP => by
          have e : y2.S.pl P = y2.S.la ((pg / 64).toNat * 8 + (pg / 8 % 8).toNat) * 8 + P % 8 := by unfold SS.pl; rw [h64, h8]
          rw [e]
          refine ⟨(sz.hasW_iff _).2 ⟨by omega, by rw [hzn]; omega⟩, by omega⟩
        have nd : ∀ P : Int, P / 64 = pg / 64 → P / 8 % 8 = pg / 8 % 8 → y2.S.need [P] = 0 := fun P h64 h8 => need_zero (by rw [h64]; exact hF1) (by rw [h64, h8]; exact hF2)
        have ne : y2.S.pl pg' ≠ y2.S.pl pg := by unfold SS.pl; rw [e64, e8]; omega
        have g1 : getP y2.S y2.s pg = 7 := by
          unfold getP; rw [if_pos ⟨(hasP_iff _ _).2 ⟨hk2, p0, p1⟩, nd pg rfl rfl⟩, hss]
          exact rd_write (hasA pg rfl rfl p0).1 7
        have hmay2 : y2.may pg' = true := by
          unfold YS.may
          rw [(hasP_iff _ _).2 ⟨hk2, q0, q1⟩, nd pg' e64 e8]; simp
        have e3 : y2.set pg' 9 = ⟨y2.S, y2.R, y2.s.write (y2.S.pl pg') 9⟩ := set_there (by rw [e64]; exact hF1) (by rw [e64, e8]; exact hF2) 9
        have g2 : getP y2.S (y2.s.write (y2.S.pl pg') 9) pg = 7 := by
          unfold getP; rw [if_pos ⟨(hasP_iff _ _).2 ⟨hk2, p0, p1⟩, nd pg rfl rfl⟩, rd_other (hasA pg' e64 e8 q0).2 (hasA pg rfl rfl p0).2 ne.symm, hss]
          exact rd_write (hasA pg rfl rfl p0).1 7
        have g3 : getP y2.S (y2.s.write (y2.S.pl pg') 9) pg' = 9 := by
          unfold getP; rw [if_pos ⟨(hasP_iff _ _).2 ⟨hk2, q0, q1⟩, nd pg' e64 e8⟩]
          exact rd_write (by rw [hasW_n (s := sz) (by rw [hF4', hzn])]; exact (hasA pg' e64 e8 q0).1) 9
        clear hss hasA nd ne e64 e8 e1 hF1 hF2
        go_upto_region 24 with (go_at_call 21; refine hSt.mono ?_; rintro e w7 ⟨rfl, h7, t7⟩)
        have U7 := U6.trans (t7.mono (fun x _ e => by omega))
        have hG1 := get_any h7 ok2 pg
        rw [g1] at hG1
        go_wp2_with fail
        refine hG1.mono ?_
        rintro e w8 ⟨rfl, t8⟩
        have h8 := h7.nil t8
        have U8 := U7.trans (t8.mono (fun _ _ h => h.elim))
        have hLf := pleft_any h8.po h8.me
        have hsub : IntKind.i64.wrap ((lv : Int) - 2) = (lv : Int) - 2 := by rw [IntKind.wrap_i64]; omega
        have heq : (y2.s.left : Int) = (lv : Int) - 2 := by omega
        rw [heq] at hLf
        go_wp2_with fail
        refine hLf.mono ?_
        rintro e wq ⟨rfl, rfl⟩
        have hS2 := set_any h8 ok2 pg' 9
        rw [hmay2, e3] at hS2
        simp only [if_true] at hS2
        go_wp2_with fail
        refine hS2.mono ?_
        rintro e w9 ⟨rfl, h9, t9⟩
        have U9 := U8.trans (t9.mono (fun x _ e => by omega))
        have hG2 := get_any h9 ok2 pg
        have g2' : getP (YS.mk y2.S y2.R (y2.s.write (y2.S.pl pg') 9)).S (YS.mk y2.S y2.R (y2.s.write (y2.S.pl pg') 9)).s pg = 7 := g2
        rw [g2'] at hG2
        go_wp2_with fail
        refine hG2.mono ?_
        rintro e w10 ⟨rfl, t10⟩
        have h10 := h9.nil t10
        have U10 := U9.trans (t10.mono (fun _ _ h => h.elim))
        have hG3 := get_any h10 ok2 pg'
        have g3' : getP (YS.mk y2.S y2.R (y2.s.write (y2.S.pl pg') 9)).S (YS.mk y2.S y2.R (y2.s.write (y2.S.pl pg') 9)).s pg' = 9 := g3
        rw [g3'] at hG3
        go_wp2_with fail
        refine hG3.mono ?_
        rintro e w11 ⟨rfl, t11⟩
        have h11 := h10.nil t11
        have U11 := U10.trans (t11.mono (fun _ _ h => h.elim))
        have hLf2 := pleft_any h11.po h11.me
        have heq2 : ((y2.s.write (y2.S.pl pg') 9).left : Int) = (lv : Int) - 2 := by rw [write_left]; exact heq
        rw [heq2] at hLf2
        go_wp2_with fail
        refine hLf2.mono ?_
        rintro e wq ⟨rfl, rfl⟩
        go_wp2_with fail
        refine (wakes9 _).mono ?_
        rintro e w12 ⟨rfl, t12⟩
        go_wp2_with fail
        go_ret
        exact ⟨rfl, (BB _ U11).trans t12⟩
      · have v2 : ¬ ((2 : Int) ≤ (lv : Int)) := by omega
        have v3 : (lv : Int) < 2 := by omega
        rw [decide_eq_false h2] at hSt
        simp only [if_false, Bool.false_eq_true] at hSt
        have hgz : ∀ s' : MS, getP ⟨0, 15, 16, fun _ => 0, fun _ => 0⟩ s' pg = 0 := fun s' => by unfold getP; rw [if_neg (by rw [hnd]; simp)]
        go_upto_region 21 with (go_at_call 21; refine hSt.mono ?_; rintro e w7 ⟨rfl, h7, t7⟩)
        have U7 := U6.trans (t7.mono (fun x _ e => by omega))
        obtain ⟨a0, a1, a2, a3⟩ := HC w7 U7
        obtain ⟨f0, f1⟩ := HF w7 U7
        clear hSt hmay
        rcases (by omega : lv = 0 ∨ lv = 1) with h0 | h0
        · subst h0
          have hN := new_no h7.po h7.me 24 1 true false 1 _ rfl (by show s.left < _; simp only [if_true]; omega)
          unfold cfV at hN
          go_upto_region 22 with (go_at_call 20; refine hN.mono ?_; rintro e w8 ⟨rfl, t8⟩)
          have h8 := h7.nil t8
          have U8 := U7.trans (t8.mono (fun _ _ h => h.elim))
          clear a0 a1 a2 a3 f0 f1 hN
          generalize hs8 : s = s8 at *
          generalize R = R8 at *
          have hG := get_any h8 ok pg
          have hgz' := hgz s8
          clear hgz
          rw [hgz'] at hG
          go_upto_region 23 with fail
          go_wp2_with fail
          refine hG.mono ?_
          rintro e w9 ⟨rfl, t9⟩
          have h9 := h8.nil t9
          have U9 := U8.trans (t9.mono (fun _ _ h => h.elim))
          have hTb := tables_any h9.sp
          rw [hwas.out] at hTb
          go_wp2_with fail
          refine hTb.mono ?_
          rintro e w10 ⟨a10, c10, rfl, _, b10⟩
          have t10 : Touch Nil w9 w10 := Touch.ofBelow b10
          have h10 := h9.nil t10
          have U10 := U9.trans (t10.mono (fun _ _ h => h.elim))
          have hN1 := need_one h10.sp pg
          rw [hnd] at hN1
          go_wp2_with fail
          refine hN1.mono ?_
          rintro e w11 ⟨rfl, t11⟩
          have U11 := U10.trans (t11.mono (fun _ _ h => h.elim))
          go_wp2_with fail
          refine (wakes9 _).mono ?_
          rintro e w12 ⟨rfl, t12⟩
          go_wp2_with fail
          go_ret
          exact ⟨rfl, (BB _ U11).trans t12⟩
        · subst h0
          have hN := new_no h7.po h7.me 24 1 true false 1 _ rfl (by show s.left < _; simp only [if_true]; omega)
          unfold cfV at hN
          go_upto_region 22 with (go_at_call 20; refine hN.mono ?_; rintro e w8 ⟨rfl, t8⟩)
          have h8 := h7.nil t8
          have U8 := U7.trans (t8.mono (fun _ _ h => h.elim))
          clear a0 a1 a2 a3 f0 f1 hN
          generalize hs8 : s = s8 at *
          generalize R = R8 at *
          have hG := get_any h8 ok pg
          have hgz' := hgz s8
          clear hgz
          rw [hgz'] at hG
          go_upto_region 23 with fail
          go_wp2_with fail
          refine hG.mono ?_
          rintro e w9 ⟨rfl, t9⟩
          have h9 := h8.nil t9
          have U9 := U8.trans (t9.mono (fun _ _ h => h.elim))
          have hTb := tables_any h9.sp
          rw [hwas.out] at hTb
          go_wp2_with fail
          refine hTb.mono ?_
          rintro e w10 ⟨a10, c10, rfl, _, b10⟩
          have t10 : Touch Nil w9 w10 := Touch.ofBelow b10
          have h10 := h9.nil t10
          have U10 := U9.trans (t10.mono (fun _ _ h => h.elim))
          have hN1 := need_one h10.sp pg
          rw [hnd] at hN1
          go_wp2_with fail
          refine hN1.mono ?_
          rintro e w11 ⟨rfl, t11⟩
          have U11 := U10.trans (t11.mono (fun _ _ h => h.elim))
          go_wp2_with fail
          refine (wakes9 _).mono ?_
          rintro e w12 ⟨rfl, t12⟩
          go_wp2_with fail
          go_ret
          exact ⟨rfl, (BB _ U11).trans t12⟩

  | false =>
    go_enter Try.func5, Try.ntmps5
    go_upto_region 2 with fail
    have hg : (w.alloc (.cells #[.int .i64 24, .int .i64 1, .bool false, .bool false] 23)).heap[w.heap.size]? = some (.cells #[.int .i64 24, .int .i64 1, .bool false, .bool false] 23 (0, 0)) := heap_alloc_new w _
    have t0 := (Touch.refl Nil w).alloc (.cells #[.int .i64 24, .int .i64 1, .bool false, .bool false] 23)
    have hs0 : w.heap.size < (w.alloc (.cells #[.int .i64 24, .int .i64 1, .bool false, .bool false] 23)).heap.size := by simp
    generalize w.alloc (.cells #[.int .i64 24, .int .i64 1, .bool false, .bool false] 23) = W at *
    have HG : ∀ (B : Nat) wx, w.heap.size < B → Touch (fun x => B ≤ x) W wx → wx.cell? ⟨w.heap.size, 0, none⟩ = some (.int .i64 24) ∧ wx.cell? ⟨w.heap.size, 1, none⟩ = some (.int .i64 1) ∧ wx.cell? ⟨w.heap.size, 2, none⟩ = some (.bool false) ∧ wx.cell? ⟨w.heap.size, 3, none⟩ = some (.bool false) := fun B wx hB tx => by
      have := (tx.block w.heap.size hs0 (by omega)).trans hg
      simp [World.cell?, this]
    have hM := new_any (24 : Int) W
    rw [show MS.many (24 : Int) = 24 by decide] at hM
    go_upto_region 3 with (go_at_call 16; refine hM.mono ?_; rintro e w1 ⟨rfl, m1, t1, hs1⟩)
    clear hM
    obtain ⟨c, hc⟩ : ∃ c, Hid (W.heap.size = c) := ⟨_, rfl⟩
    rw [hc.out] at m1 hs1 hs0
    rw [hc.out]
    have T1 : Touch (fun x => c ≤ x) W w1 := t1.mono (fun _ _ h => h.elim)
    have hB := boot_yes m1 1 false false (by decide) (by decide)
    rw [fresh_n] at hB
    unfold cfV at hB
    obtain ⟨a0, a1, a2, a3⟩ := HG c w1 (by omega) T1
    go_upto_region 5 with fail
    go_upto_region 6 with (go_at_call 17; refine hB.mono ?_; rintro e w2 ⟨rfl, m2, t2⟩)
    clear a0 a1 a2 a3 hB
    have t2a := t2.alloc (.cells #[.int .i64 3, .int .i64 13] 45)
    have m2a := m2.touch ((Touch.refl Nil w2).alloc (.cells #[.int .i64 3, .int .i64 13] 45)) (fun h => h) (fun h => h)
    have hf : (w2.alloc (.cells #[.int .i64 3, .int .i64 13] 45)).heap[w2.heap.size]? = some (.cells #[.int .i64 3, .int .i64 13] 45 (0, 0)) := heap_alloc_new w2 _
    have hcF : c + 2 ≤ w2.heap.size := by have := t2.size; omega
    generalize w2.alloc (.cells #[.int .i64 3, .int .i64 13] 45) = W2 at *
    generalize w2.heap.size = Fx at *
    have T2 : Touch (fun x => c ≤ x) W W2 := T1.trans (t2a.mono (fun x _ e => by omega))
    go_upto_region 7 with (go_at_call 18; refine (pnew_any (c + 1)).mono ?_; rintro e w3 ⟨rfl, p3, t3, hs3⟩)
    have m3 := m2a.touch t3 (fun h => h) (fun h => h)
    have T3 : Touch (fun x => c ≤ x) W w3 := T2.trans (t3.mono (fun _ _ h => h.elim))
    have hFl : Fx < W2.heap.size := lt_of_block' hf
    obtain ⟨p, hp⟩ : ∃ p, Hid (W2.heap.size = p) := ⟨_, rfl⟩
    rw [hp.out] at p3 hs3 hFl
    rw [hp.out]
    have HF : ∀ wx, Touch (fun x => x = p ∨ x = c ∨ p + 1 ≤ x) w3 wx → wx.cell? ⟨Fx, 0, none⟩ = some (.int .i64 3) ∧ wx.cell? ⟨Fx, 1, none⟩ = some (.int .i64 13) := fun wx tx => by
      have hf3 := (t3.block Fx (lt_of_block' hf) (fun h => h)).trans hf
      have := (tx.block Fx (lt_of_block' hf3) (by omega)).trans hf3
      simp [World.cell?, this]
    have HC : ∀ wx, Touch (fun x => x = p ∨ x = c ∨ p + 1 ≤ x) w3 wx → wx.cell? ⟨w.heap.size, 0, none⟩ = some (.int .i64 24) ∧ wx.cell? ⟨w.heap.size, 1, none⟩ = some (.int .i64 1) ∧ wx.cell? ⟨w.heap.size, 2, none⟩ = some (.bool false) ∧ wx.cell? ⟨w.heap.size, 3, none⟩ = some (.bool false) := fun wx tx =>
      HG c wx (by omega) (T3.trans (tx.mono (fun x _ e => by omega)))
    obtain ⟨a0, a1, a2, a3⟩ := HC w3 (Touch.refl _ _)
    obtain ⟨f0, f1⟩ := HF w3 (Touch.refl _ _)
    have hN := new_yes (s := (MS.fresh 24).boot false) p3 m3 24 1 false false 0 (by decide +kernel)
    unfold cfV at hN
    go_upto_region 9 with fail
    go_upto_region 10 with (go_at_call 20; refine hN.mono ?_; rintro e w4 ⟨q, rfl, hq, h4, t4⟩)
    clear a0 a1 a2 a3 f0 f1 hN
    have U4 : Touch (fun x => x = p ∨ x = c ∨ p + 1 ≤ x) w3 w4 := t4.mono (fun x _ e => by omega)
    have hqp : p + 1 ≤ q := by omega
    have BB : ∀ wx, Touch (fun x => x = p ∨ x = c ∨ p + 1 ≤ x) w3 wx → Touch Nil w wx := fun wx tx => t0.transNew (T3.trans (tx.mono (fun x _ e => (by omega : c ≤ x)))) (fun i hi e => by omega)
    have eS : (YS.new 0 false (fun _ => 0) ((MS.fresh 24).boot false)).S = ⟨0, 15, 15, fun _ => 0, fun _ => 0⟩ := by kernel_rfl
    have hl4 : (YS.new 0 false (fun _ => 0) ((MS.fresh 24).boot false)).s.left = 8 := by decide +kernel
    have hn4 : (YS.new 0 false (fun _ => 0) ((MS.fresh 24).boot false)).s.n = 24 := by decide +kernel
    have ok : SS.ok ⟨0, 15, 15, fun _ => 0, fun _ => 0⟩ := ⟨by decide, by decide, fun _ => ⟨Int.le_refl 0, by show (0 : Int) < 64; decide⟩, fun _ => ⟨Int.le_refl 0, by show (0 : Int) < 64; decide⟩⟩
    have h4' : Sys w4 q p (c + 1) c ⟨0, 15, 15, fun _ => 0, fun _ => 0⟩ (YS.new 0 false (fun _ => 0) ((MS.fresh 24).boot false)).R (YS.new 0 false (fun _ => 0) ((MS.fresh 24).boot false)).s := by have := h4; unfold YAt at this; rw [eS] at this; exact this
    clear h4 eS
    generalize (YS.new 0 false (fun _ => 0) ((MS.fresh 24).boot false)).R = R4 at *
    generalize (YS.new 0 false (fun _ => 0) ((MS.fresh 24).boot false)).s = s4 at *
    go_upto_region 12 with fail
    have hW1 := within_any page 256 w4 (by decide) (by decide)
    have hW2 := within_any leave 4 w4 (by decide) (by decide)
    have p0 := Int.emod_nonneg page (b := 256) (by omega)
    have p1 := Int.emod_lt_of_pos page (b := 256) (by omega)
    have v0 := Int.emod_nonneg leave (b := 4) (by omega)
    have v1 := Int.emod_lt_of_pos leave (b := 4) (by omega)
    generalize page % 256 = pg at *
    obtain ⟨lv, hlv⟩ : ∃ lv : Nat, leave % 4 = lv := ⟨(leave % 4).toNat, by omega⟩
    rw [hlv] at hW2 v0 v1
    clear hlv
    go_upto_block 0 with (go_at_call 11; first | (with_reducible refine hW1.mono ?_; rintro e wq ⟨rfl, rfl⟩) | (with_reducible refine hW2.mono ?_; rintro e wq ⟨rfl, rfl⟩))
    clear hW1 hW2
    go_cut [13] (fun _ wx => ∃ R s, Sys wx q p (c + 1) c ⟨0, 15, 15, fun _ => 0, fun _ => 0⟩ R s ∧ s.left = lv ∧ s.n = 24 ∧ Touch (fun x => x = p ∨ x = c ∨ p + 1 ≤ x) w3 wx)
    case first =>
      go_wp2_with fail
      go_loopg [13] 24 (fun g i wr => ∃ (k : Nat) (R : Nat → Int) (s : MS), g + k = 24 ∧ i = .int .i64 k ∧ Sys wr q p (c + 1) c ⟨0, 15, 15, fun _ => 0, fun _ => 0⟩ R s ∧ s.left + k = 8 ∧ lv ≤ s.left ∧ s.n = 24 ∧ Touch (fun x => x = p ∨ x = c ∨ p + 1 ≤ x) w3 wr)
      case atStart => exact ⟨0, R4, s4, by omega, rfl, h4', by omega, by omega, hn4, U4⟩
      case round =>
        clear h4' hl4 hn4 U4
        obtain ⟨k, R, s, hg, rfl, h5, hl5, hge, hn5, U5⟩ := hrel
        have k1 : (k : Int) < 24 := by omega
        have hLf := pleft_any h5.po h5.me
        by_cases hlt : lv < s.left
        · have k2 : (lv : Int) < (s.left : Int) := by omega
          have hL := least_left (s := s) (by omega)
          have hT := ptake_least h5.po h5.me 2 0 (Or.inr rfl) hL
          have hml := mark_left2 (c := 2) (Or.inr rfl) hL 0
          go_wp2_with (first | (go_at_call 19; refine hLf.mono ?_; rintro e wq ⟨rfl, rfl⟩) | (go_at_call 23; refine hT.mono ?_; rintro e w6 ⟨rfl, p6, m6, t6⟩))
          go_roundg (24 - (k + 1))
          case measure => omega
          case rel => exact ⟨k + 1, _, _, by omega, by go_num, ⟨h5.sp.touch t6 (by rintro (e | e); exact h5.qp e; exact h5.qc e), p6, m6⟩, by omega, by omega, by rw [MS.mark_n]; exact hn5, U5.trans (t6.mono (fun x _ e => by omega))⟩
        · have k2 : ¬ ((lv : Int) < (s.left : Int)) := by omega
          go_wp2_with (go_at_call 19; refine hLf.mono ?_; rintro e wq ⟨rfl, rfl⟩)
          go_meet
          exact ⟨R, s, h5, by omega, hn5, U5⟩
    case rest =>
      clear h4' hl4 hn4 U4
      obtain ⟨R, s, h5, hl5, hn5, U5⟩ := hcut
      have hTb := tables_any h5.sp
      obtain ⟨was, hwas⟩ : ∃ n, Hid ((SS.tabs ⟨0, 15, 15, fun _ => 0, fun _ => 0⟩).length = n) := ⟨_, rfl⟩
      have hnd : SS.need ⟨0, 15, 15, fun _ => 0, fun _ => 0⟩ [pg] = 2 := by
        rw [need_is ((hasP_iff _ _).2 ⟨by show (15 : Int) ≠ 0; decide, p0, p1⟩)]; rfl
      have hmay : (YS.mk ⟨0, 15, 15, fun _ => 0, fun _ => 0⟩ R s).may pg = decide (2 ≤ lv) := by
        unfold YS.may
        rw [(hasP_iff _ _).2 ⟨by show (15 : Int) ≠ 0; decide, p0, p1⟩]
        show (true && decide (SS.need ⟨0, 15, 15, fun _ => 0, fun _ => 0⟩ [pg] ≤ s.left)) = _
        rw [hnd, hl5]; rfl
      rw [hwas.out] at hTb
      go_upto_region 18 with (go_at_call 12; refine hTb.mono ?_; rintro e w6 ⟨a6, c6, rfl, _, b6⟩)
      clear hTb
      have t6 : Touch Nil wc w6 := Touch.ofBelow b6
      have h6 := h5.nil t6
      have U6 := U5.trans (t6.mono (fun _ _ h => h.elim))
      have hSt := set_any (y := ⟨⟨0, 15, 15, fun _ => 0, fun _ => 0⟩, R, s⟩) h6 ok pg 7
      rw [hmay] at hSt
      clear h5 U5 b6
      by_cases h2 : 2 ≤ lv
      · have v2 : (2 : Int) ≤ (lv : Int) := by omega
        have v3 : ¬ ((lv : Int) < 2) := by omega
        rw [decide_eq_true h2] at hSt hmay
        simp only [if_true] at hSt
        obtain ⟨y2, hy2⟩ : ∃ y, Hid (YS.set ⟨⟨0, 15, 15, fun _ => 0, fun _ => 0⟩, R, s⟩ pg 7 = y) := ⟨_, rfl⟩
        have hF := set_facts hmay (by show s.n ≤ 64; omega) 7
        have hNw := set_new hmay rfl 7
        have ok2 := set_ok ok hmay (by show s.n ≤ 64; omega) 7
        have hss := set_s ⟨⟨0, 15, 15, fun _ => 0, fun _ => 0⟩, R, s⟩ pg 7
        have hzn : ((YS.up1 ⟨⟨0, 15, 15, fun _ => 0, fun _ => 0⟩, R, s⟩ (pg / 64).toNat).la1 (pg / 64).toNat (pg / 8 % 8).toNat).s.n = 24 := by rw [la1_n, up1_n]; exact hn5
        generalize ((YS.up1 ⟨⟨0, 15, 15, fun _ => 0, fun _ => 0⟩, R, s⟩ (pg / 64).toNat).la1 (pg / 64).toNat (pg / 8 % 8).toNat).s = sz at *
        rw [hy2.out] at hSt hF hNw ok2 hss
        have hN2 : SS.need (YS.mk ⟨0, 15, 15, fun _ => 0, fun _ => 0⟩ R s).S [pg] = 2 := hnd
        rw [hN2] at hF
        obtain ⟨hF1, hF2, hF3, hF4, hF5⟩ := hF
        have hF4' : y2.s.n = 24 := hF4.trans hn5
        have hF5' : y2.s.left + 2 = lv := hF5.trans hl5
        have hNw' : y2.S.la ((pg / 64).toNat * 8 + (pg / 8 % 8).toNat) < 24 := by have := hNw.2; rw [show (YS.mk ⟨0, 15, 15, fun _ => 0, fun _ => 0⟩ R s).s.n = 24 from hn5] at this; exact this
        have hNw0 := hNw.1
        have hk2 : y2.S.kern ≠ 0 := by rw [hF3]; show (15 : Int) ≠ 0; decide
        clear hy2 hF3 hF4 hF5 hNw hN2 hmay hnd
        obtain ⟨pg', hx, q0, q1, e64, e8, e1⟩ := xor_one pg p0 p1
        have hasA : ∀ P : Int, P / 64 = pg / 64 → P / 8 % 8 = pg / 8 % 8 → 0 ≤ P → sz.hasW (y2.S.pl P) = true ∧ 0 ≤ y2.S.pl P := fun P h64 h8 hP => by
          have e : y2.S.pl P = y2.S.la ((pg / 64).toNat * 8 + (pg / 8 % 8).toNat) * 8 + P % 8 := by unfold SS.pl; rw [h64, h8]
          rw [e]
          refine ⟨(sz.hasW_iff _).2 ⟨by omega, by rw [hzn]; omega⟩, by omega⟩
        have nd : ∀ P : Int, P / 64 = pg / 64 → P / 8 % 8 = pg / 8 % 8 → y2.S.need [P] = 0 := fun P h64 h8 => need_zero (by rw [h64]; exact hF1) (by rw [h64, h8]; exact hF2)
        have ne : y2.S.pl pg' ≠ y2.S.pl pg := by unfold SS.pl; rw [e64, e8]; omega
        have g1 : getP y2.S y2.s pg = 7 := by
          unfold getP; rw [if_pos ⟨(hasP_iff _ _).2 ⟨hk2, p0, p1⟩, nd pg rfl rfl⟩, hss]
          exact rd_write (hasA pg rfl rfl p0).1 7
        have hmay2 : y2.may pg' = true := by
          unfold YS.may
          rw [(hasP_iff _ _).2 ⟨hk2, q0, q1⟩, nd pg' e64 e8]; simp
        have e3 : y2.set pg' 9 = ⟨y2.S, y2.R, y2.s.write (y2.S.pl pg') 9⟩ := set_there (by rw [e64]; exact hF1) (by rw [e64, e8]; exact hF2) 9
        have g2 : getP y2.S (y2.s.write (y2.S.pl pg') 9) pg = 7 := by
          unfold getP; rw [if_pos ⟨(hasP_iff _ _).2 ⟨hk2, p0, p1⟩, nd pg rfl rfl⟩, rd_other (hasA pg' e64 e8 q0).2 (hasA pg rfl rfl p0).2 ne.symm, hss]
          exact rd_write (hasA pg rfl rfl p0).1 7
        have g3 : getP y2.S (y2.s.write (y2.S.pl pg') 9) pg' = 9 := by
          unfold getP; rw [if_pos ⟨(hasP_iff _ _).2 ⟨hk2, q0, q1⟩, nd pg' e64 e8⟩]
          exact rd_write (by rw [hasW_n (s := sz) (by rw [hF4', hzn])]; exact (hasA pg' e64 e8 q0).1) 9
        clear hss hasA nd ne e64 e8 e1 hF1 hF2
        go_upto_region 24 with (go_at_call 21; refine hSt.mono ?_; rintro e w7 ⟨rfl, h7, t7⟩)
        have U7 := U6.trans (t7.mono (fun x _ e => by omega))
        have hG1 := get_any h7 ok2 pg
        rw [g1] at hG1
        go_wp2_with fail
        refine hG1.mono ?_
        rintro e w8 ⟨rfl, t8⟩
        have h8 := h7.nil t8
        have U8 := U7.trans (t8.mono (fun _ _ h => h.elim))
        have hLf := pleft_any h8.po h8.me
        have hsub : IntKind.i64.wrap ((lv : Int) - 2) = (lv : Int) - 2 := by rw [IntKind.wrap_i64]; omega
        have heq : (y2.s.left : Int) = (lv : Int) - 2 := by omega
        rw [heq] at hLf
        go_wp2_with fail
        refine hLf.mono ?_
        rintro e wq ⟨rfl, rfl⟩
        have hS2 := set_any h8 ok2 pg' 9
        rw [hmay2, e3] at hS2
        simp only [if_true] at hS2
        go_wp2_with fail
        refine hS2.mono ?_
        rintro e w9 ⟨rfl, h9, t9⟩
        have U9 := U8.trans (t9.mono (fun x _ e => by omega))
        have hG2 := get_any h9 ok2 pg
        have g2' : getP (YS.mk y2.S y2.R (y2.s.write (y2.S.pl pg') 9)).S (YS.mk y2.S y2.R (y2.s.write (y2.S.pl pg') 9)).s pg = 7 := g2
        rw [g2'] at hG2
        go_wp2_with fail
        refine hG2.mono ?_
        rintro e w10 ⟨rfl, t10⟩
        have h10 := h9.nil t10
        have U10 := U9.trans (t10.mono (fun _ _ h => h.elim))
        have hG3 := get_any h10 ok2 pg'
        have g3' : getP (YS.mk y2.S y2.R (y2.s.write (y2.S.pl pg') 9)).S (YS.mk y2.S y2.R (y2.s.write (y2.S.pl pg') 9)).s pg' = 9 := g3
        rw [g3'] at hG3
        go_wp2_with fail
        refine hG3.mono ?_
        rintro e w11 ⟨rfl, t11⟩
        have h11 := h10.nil t11
        have U11 := U10.trans (t11.mono (fun _ _ h => h.elim))
        have hLf2 := pleft_any h11.po h11.me
        have heq2 : ((y2.s.write (y2.S.pl pg') 9).left : Int) = (lv : Int) - 2 := by rw [write_left]; exact heq
        rw [heq2] at hLf2
        go_wp2_with fail
        refine hLf2.mono ?_
        rintro e wq ⟨rfl, rfl⟩
        go_wp2_with fail
        refine (wakes9 _).mono ?_
        rintro e w12 ⟨rfl, t12⟩
        go_wp2_with fail
        go_ret
        exact ⟨rfl, (BB _ U11).trans t12⟩
      · have v2 : ¬ ((2 : Int) ≤ (lv : Int)) := by omega
        have v3 : (lv : Int) < 2 := by omega
        rw [decide_eq_false h2] at hSt
        simp only [if_false, Bool.false_eq_true] at hSt
        have hgz : ∀ s' : MS, getP ⟨0, 15, 15, fun _ => 0, fun _ => 0⟩ s' pg = 0 := fun s' => by unfold getP; rw [if_neg (by rw [hnd]; simp)]
        go_upto_region 21 with (go_at_call 21; refine hSt.mono ?_; rintro e w7 ⟨rfl, h7, t7⟩)
        have U7 := U6.trans (t7.mono (fun x _ e => by omega))
        obtain ⟨a0, a1, a2, a3⟩ := HC w7 U7
        obtain ⟨f0, f1⟩ := HF w7 U7
        clear hSt hmay
        rcases (by omega : lv = 0 ∨ lv = 1) with h0 | h0
        · subst h0
          have hN := new_no h7.po h7.me 24 1 false false 1 _ rfl (by show s.left < _; simp only [Bool.false_eq_true, if_false]; omega)
          unfold cfV at hN
          go_upto_region 22 with (go_at_call 20; refine hN.mono ?_; rintro e w8 ⟨rfl, t8⟩)
          have h8 := h7.nil t8
          have U8 := U7.trans (t8.mono (fun _ _ h => h.elim))
          clear a0 a1 a2 a3 f0 f1 hN
          generalize hs8 : s = s8 at *
          generalize R = R8 at *
          have hG := get_any h8 ok pg
          have hgz' := hgz s8
          clear hgz
          rw [hgz'] at hG
          go_upto_region 23 with fail
          go_wp2_with fail
          refine hG.mono ?_
          rintro e w9 ⟨rfl, t9⟩
          have h9 := h8.nil t9
          have U9 := U8.trans (t9.mono (fun _ _ h => h.elim))
          have hTb := tables_any h9.sp
          rw [hwas.out] at hTb
          go_wp2_with fail
          refine hTb.mono ?_
          rintro e w10 ⟨a10, c10, rfl, _, b10⟩
          have t10 : Touch Nil w9 w10 := Touch.ofBelow b10
          have h10 := h9.nil t10
          have U10 := U9.trans (t10.mono (fun _ _ h => h.elim))
          have hN1 := need_one h10.sp pg
          rw [hnd] at hN1
          go_wp2_with fail
          refine hN1.mono ?_
          rintro e w11 ⟨rfl, t11⟩
          have U11 := U10.trans (t11.mono (fun _ _ h => h.elim))
          go_wp2_with fail
          refine (wakes9 _).mono ?_
          rintro e w12 ⟨rfl, t12⟩
          go_wp2_with fail
          go_ret
          exact ⟨rfl, (BB _ U11).trans t12⟩
        · subst h0
          have hN := new_yes (s := s) h7.po h7.me 24 1 false false 1 (by simp only [Bool.false_eq_true, if_false]; omega)
          unfold cfV at hN
          go_upto_region 22 with (go_at_call 20; refine hN.mono ?_; rintro e w8 ⟨q8, rfl, hq8, hy8, t8⟩)
          have U8 := U7.trans (t8.mono (fun x _ e => by omega))
          have h8 : Sys w8 q p (c + 1) c ⟨0, 15, 15, fun _ => 0, fun _ => 0⟩ _ _ := ⟨h7.sp.touch t8 (by rintro (e | e); exact h7.qp e; exact h7.qc e), hy8.po, hy8.me⟩
          clear a0 a1 a2 a3 f0 f1 hN hy8
          generalize (YS.new 1 false R s).s = s8 at *
          generalize (YS.new 1 false R s).R = R8 at *
          have hG := get_any h8 ok pg
          have hgz' := hgz s8
          clear hgz
          rw [hgz'] at hG
          go_upto_region 23 with fail
          go_wp2_with fail
          refine hG.mono ?_
          rintro e w9 ⟨rfl, t9⟩
          have h9 := h8.nil t9
          have U9 := U8.trans (t9.mono (fun _ _ h => h.elim))
          have hTb := tables_any h9.sp
          rw [hwas.out] at hTb
          go_wp2_with fail
          refine hTb.mono ?_
          rintro e w10 ⟨a10, c10, rfl, _, b10⟩
          have t10 : Touch Nil w9 w10 := Touch.ofBelow b10
          have h10 := h9.nil t10
          have U10 := U9.trans (t10.mono (fun _ _ h => h.elim))
          have hN1 := need_one h10.sp pg
          rw [hnd] at hN1
          go_wp2_with fail
          refine hN1.mono ?_
          rintro e w11 ⟨rfl, t11⟩
          have U11 := U10.trans (t11.mono (fun _ _ h => h.elim))
          go_wp2_with fail
          refine (wakes9 _).mono ?_
          rintro e w12 ⟨rfl, t12⟩
          go_wp2_with fail
          go_ret
          exact ⟨rfl, (BB _ U11).trans t12⟩

end Go.Proofs.Ytfbmjagchjhddaa

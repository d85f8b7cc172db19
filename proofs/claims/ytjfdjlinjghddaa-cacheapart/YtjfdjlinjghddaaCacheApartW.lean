/-
  The walk of CacheApart.
-/
import Derived.Test.YtjfdjlinjghddaaCacheG
import Derived.Test.YtjfdjlinjghddaaCacheH
import Derived.Test.YtjfdjlinjghddaaSlices
namespace Go.Proofs.Ytjfdjlinjghddaa
open Go.ChangeShapes Go.WideShapes Go.ChangeAt Go.RowKit

theorem CAt.ok {w : World} {b lo hi : Nat} {q : CQ} (h : CAt w b lo hi q) : (∀ i, SOK 4 2 (q.F i)) ∧ SOK 8 4 q.Sh := by
  obtain ⟨cf, cs, capf, caps, C, capC, h⟩ := h
  exact ⟨h.okF, h.okS⟩
theorem CAt.bhi {w : World} {b lo hi : Nat} {q : CQ} (h : CAt w b lo hi q) : lo ≤ b ∧ b < hi := by
  obtain ⟨cf, cs, capf, caps, C, capC, h⟩ := h
  exact h.rb

set_option maxRecDepth 10000 in
set_option maxHeartbeats 4000000 in
theorem cacheApart_walk (a0 : Option Addr) (len0 cap0 : Nat) (z0 : List Int) (w : World) (r0 : Row .i64 w a0 len0 cap0 z0) :
    Calls Try.prog 4 #[.slice a0 len0 cap0] w fun e w' => e = .returned (.bool true) ∧ Below w.heap.size w w' := by
  obtain ⟨hm0, p0⟩ := r0.plain
  unfold maxLen at hm0
  clear r0
  go_enter Try.func4, Try.ntmps4
  go_wp2_with (go_at_call 9; refine (cnew_any _ _).mono ?_; rintro e w1 ⟨rfl, hC, hT⟩; rw [many2] at hC; have hlo := hT.size; generalize w.heap.size + 4 = b at hC; obtain ⟨hi, hhi⟩ : ∃ hi, w1.heap.size = hi := ⟨_, rfl⟩; rw [hhi] at hC hlo)
  go_loopg [4] 30 (fun g i wr => ∃ k : Nat, g + k = 30 ∧ i = .int .i64 k ∧ ∃ q, CAt wr b w.heap.size hi q ∧ q.n = 2 ∧ Touch Nil w wr ∧ hi ≤ wr.heap.size)
  case atStart => exact ⟨0, by omega, rfl, _, hC, rfl, hT, by omega⟩
  case round =>
    clear hC hT hhi
    obtain ⟨k, hgk, rfl, q, hC, hn, hT, hz⟩ := hrel
    by_cases hgo : k < len0 ∧ k < 30
    · obtain ⟨hg1, hg2⟩ := hgo
      rcases p0 with p0 | ⟨b1, o1, rfl, hb1, hc1⟩
      · omega
      have c0 := Plain.cell hc1 hb1 (hT.below (Nat.le_refl _) (fun _ e => e.elim)) k (by omega)
      have f0 := bounds_i64 (hc1 k (by omega)).2
      obtain ⟨y0, hy⟩ : ∃ y, z0.getD k 0 = y := ⟨_, rfl⟩
      rw [hy] at c0 f0
      have k1 : (k : Int) < len0 := by omega
      have k2 : (k : Int) < 30 := by omega
      have v1 : IntKind.i64.wrap (y0.tdiv 2) = y0.tdiv 2 := by
        have := tdiv_two y0 2 (by omega)
        rw [IntKind.wrap_i64]; omega
      have x1 := Int.emod_nonneg (y0.tdiv 2) (b := 40) (by omega)
      have x2 := Int.emod_lt_of_pos (y0.tdiv 2) (b := 40) (by omega)
      go_wp2
      go_quiet ((go_at_call 14; exact Calls.quiet_of_same (within_q' _ _ _ (by omega) (by omega))))
      replace hC := hC.drewN nq
      replace hT := hT.drews nq
      have hz' : hi ≤ (wr.drewN nq).heap.size := hz
      clear hz c0 v1
      generalize wr.drewN nq = wx at *
      generalize y0.tdiv 2 % 40 = x at *
      obtain ⟨u, hu⟩ : ∃ u, y0 % 2 = u := ⟨_, rfl⟩
      rw [hu]
      have hu2 : u = 0 ∨ u = 1 := by omega
      have h1 : q.hasC (1 - u) = true := by rw [CQ.hasC_iff]; omega
      have h2 : q.may u x = true := by simp [CQ.may, CQ.hasC]; omega
      have h3 : (1 - u).toNat ≠ u.toNat := by omega
      go_upto_region 9 with (go_at_call 11; refine (ctags_yes hC _ h1).mono ?_; rintro e w2 ⟨cW, capW, rfl, gW, rW, tW, _, _⟩; replace hC := hC.touch tW (fun _ _ _ e => e); replace gW := Nat.le_trans hz' gW; replace hz' := Nat.le_trans hz' tW.size; replace hT := hT.trans tW)
      have c0 := Plain.cell hc1 hb1 (hT.below (Nat.le_refl _) (fun _ e => e.elim)) k (by omega)
      rw [hy] at c0
      have hoff : ∀ S : Nat → Prop, (∀ k, S k → w.heap.size ≤ k ∧ k < hi) → ¬ S cW := fun S h e => by have := h _ e; omega
      obtain ⟨ok1, ok2⟩ := hC.ok
      have hv : y0.tdiv 80 % 4 = 0 ∨ y0.tdiv 80 % 4 = 1 ∨ y0.tdiv 80 % 4 = 2 ∨ y0.tdiv 80 % 4 = 3 := by omega
      rcases hv with hv | hv | hv | hv
      iterate 3
       · have e1 := CQ.near_touch h2
         have e2 : (q.touch u x).hasC (1 - u) = true := by rw [CQ.hasC_n (q.touch_n u x)]; exact h1
         have e3 : (q.touch u x).F (1 - u).toNat = q.F (1 - u).toNat := q.touch_other u x h3
         have e4 : (q.touch u x).n = 2 := by rw [CQ.touch_n]; exact hn
         have hTo := ctouch_any hC u x (by omega)
         rw [h2] at hTo
         generalize q.touch u x = q' at *
         go_wp2_with (first
           | (go_at_call 14; refine (within_any _ _ _ (by omega) (by omega)).mono ?_; rintro e wq ⟨rfl, rfl⟩)
           | (go_at_call 10; refine hTo.mono ?_; rintro e w3 ⟨hx, hC3, t3⟩; subst hx; replace hC := hC3; clear hC3; replace hz' := Nat.le_trans hz' t3.size; replace rW := rW.touch t3 (by omega); replace hT := hT.transNew t3 (fun i h e => by omega))
           | (go_at_call 15; refine (cnear_t hC _ _ (by omega)).mono ?_; rintro e w4 ⟨rfl, t4⟩; replace hC := hC.touch t4 (fun _ _ _ e => e); replace hz' := Nat.le_trans hz' t4.size; replace rW := rW.touch t4 id; replace hT := hT.trans t4)
           | (go_at_call 11; refine (ctags_yes hC _ e2).mono ?_; rintro e w5 ⟨cN, capN, rfl, gN, rN, tN, _, _⟩; replace hC := hC.touch tN (fun _ _ _ e => e); replace hz' := Nat.le_trans hz' tN.size; replace rW := rW.touch tN id; replace hT := hT.trans tN)
           | (go_at_call 13; refine (isame_t (Ints.of rN) (Ints.of rW) (by omega) (fun i _ => by rw [e3])).mono ?_; rintro e w6 ⟨rfl, t6⟩; replace hC := hC.touch t6 (fun _ _ _ e => e); replace hz' := Nat.le_trans hz' t6.size; replace hT := hT.trans t6))
         go_roundg (29 - k)
         case measure => omega
         case rel => exact ⟨k + 1, by omega, by go_num, _, hC, e4, hT, hz'⟩
      · have e1 := CQ.near_evict (u := u) (x := x) ok1
        have e2 : (q.evict u x).hasC (1 - u) = true := by rw [CQ.hasC_n (q.evict_n u x)]; exact h1
        have e3 : (q.evict u x).F (1 - u).toNat = q.F (1 - u).toNat := q.evict_other u x h3
        have e4 : (q.evict u x).n = 2 := by rw [CQ.evict_n]; exact hn
        have e5 : (q.evict u x).Sh = q.Sh := q.evict_Sh u x
        have hEv := fun wz (h : CAt wz b w.heap.size hi q) => cevict_any h u x (by omega)
        generalize q.evict u x = q' at *
        go_upto_region 12 with (first
           | (go_at_call 14; refine (within_any _ _ _ (by omega) (by omega)).mono ?_; rintro e wq ⟨rfl, rfl⟩)
           | (go_at_call 12; refine (cshared_any hC).mono ?_; rintro e w3 ⟨cS, capS, rfl, gS, rS, t3, _, _⟩; replace hC := hC.touch t3 (fun _ _ _ e => e); replace gS := Nat.le_trans hz' gS; replace hz' := Nat.le_trans hz' t3.size; replace rW := rW.touch t3 id; replace hT := hT.trans t3)
           | (go_at_call 15; refine (cnear_t hC _ _ (by omega)).mono ?_; rintro e w4 ⟨rfl, t4⟩; replace hC := hC.touch t4 (fun _ _ _ e => e); replace hz' := Nat.le_trans hz' t4.size; replace rW := rW.touch t4 id; replace rS := rS.touch t4 id; replace hT := hT.trans t4))
        go_wp2_with (first
           | (go_at_call 17; refine (hEv _ hC).mono ?_; rintro e w5 ⟨hx, hC5, t5⟩; subst hx; replace hC := hC5; clear hC5; replace hz' := Nat.le_trans hz' t5.size; replace rW := rW.touch t5 (by omega); replace rS := rS.touch t5 (by omega); replace hT := hT.transNew t5 (fun i h e => by omega))
           | (go_at_call 15; refine (cnear_t hC _ _ (by omega)).mono ?_; rintro e w6 ⟨rfl, t6⟩; replace hC := hC.touch t6 (fun _ _ _ e => e); replace hz' := Nat.le_trans hz' t6.size; replace rW := rW.touch t6 id; replace rS := rS.touch t6 id; replace hT := hT.trans t6)
           | (go_at_call 12; refine (cshared_any hC).mono ?_; rintro e w7 ⟨cR, capR, rfl, gR, rR, t7, _, _⟩; replace hC := hC.touch t7 (fun _ _ _ e => e); replace hz' := Nat.le_trans hz' t7.size; replace rW := rW.touch t7 id; replace rS := rS.touch t7 id; replace hT := hT.trans t7)
           | (go_at_call_has 13 (Value.slice (some ⟨cR, 0, none⟩) 32 capR); refine (isame_t (Ints.of rR) (Ints.of rS) (by omega) (fun i _ => by rw [e5])).mono ?_; rintro e w8 ⟨rfl, t8⟩; replace hC := hC.touch t8 (fun _ _ _ e => e); replace hz' := Nat.le_trans hz' t8.size; replace rW := rW.touch t8 id; replace hT := hT.trans t8)
           | (go_at_call 11; refine (ctags_yes hC _ e2).mono ?_; rintro e w9 ⟨cN, capN, rfl, gN, rN, tN, _, _⟩; replace hC := hC.touch tN (fun _ _ _ e => e); replace hz' := Nat.le_trans hz' tN.size; replace rW := rW.touch tN id; replace hT := hT.trans tN)
           | (go_at_call_has 13 (Value.slice (some ⟨cN, 0, none⟩) 8 capN); refine (isame_t (Ints.of rN) (Ints.of rW) (by omega) (fun i _ => by rw [e3])).mono ?_; rintro e w10 ⟨rfl, t10⟩; replace hC := hC.touch t10 (fun _ _ _ e => e); replace hz' := Nat.le_trans hz' t10.size; replace hT := hT.trans t10))
        go_roundg (29 - k)
        case measure => omega
        case rel => exact ⟨k + 1, by omega, by go_num, _, hC, e4, hT, hz'⟩
    · by_cases hl : k < len0
      · have k1 : (k : Int) < len0 := by omega
        have k2 : decide ((k : Int) < 30) = false := by simp; omega
        go_wp2_with (go_at_call 18; refine (wakes4_any _).mono ?_; rintro e w9 ⟨rfl, hT9⟩)
        go_ret
        exact ⟨rfl, (hT.trans hT9).below (Nat.le_refl _) (fun _ e => e.elim)⟩
      · have k1 : decide ((k : Int) < len0) = false := by simp; omega
        go_wp2_with (go_at_call 18; refine (wakes4_any _).mono ?_; rintro e w9 ⟨rfl, hT9⟩)
        go_ret
        exact ⟨rfl, (hT.trans hT9).below (Nat.le_refl _) (fun _ e => e.elim)⟩
end Go.Proofs.Ytjfdjlinjghddaa

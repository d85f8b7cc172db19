/-
  The walk of SwapPlays.
-/
import Derived.Test.YtaofkedcdeocjaaRSwapB
import Derived.Test.YtaofkedcdeocjaaRefD
import Derived.Test.YtaofkedcdeocjaaKeep
import Derived.Test.YtaofkedcdeocjaaSlices
namespace Go.Proofs.Ytaofkedcdeocjaa
open Go.ChangeShapes Go.WideShapes Go.ChangeAt Go.RowKit

/-- The program's slots and the document's. -/
structure Rel (q r : QS) : Prop where
  u : ∀ k, 1 ≤ k → k < 8 → q.U k = r.U k
  w : ∀ k, 1 ≤ k → k < 8 → q.U k = true → ∀ o, o < 8 → q.W k o = r.W k o
namespace Rel
variable {q r : QS}
theorem fresh : Rel QS.fresh QS.fresh := ⟨fun _ _ _ => rfl, fun _ _ _ _ _ _ => rfl⟩
theorem free (h : Rel q r) {f : Nat} (hF : q.Free f) : r.Free f :=
  ⟨hF.lo, hF.hi, by rw [← h.u _ hF.lo hF.hi]; exact hF.free, fun g h1 h2 => by rw [← h.u _ h1 (by have := hF.hi; omega)]; exact hF.less g h1 h2⟩
theorem full (h : Rel q r) (hF : q.Full) : r.Full := fun g h1 h2 => by rw [← h.u _ h1 h2]; exact hF g h1 h2
theorem isOut (h : Rel q r) (k : Int) : q.isOut k = r.isOut k := by
  unfold QS.isOut
  by_cases h1 : 1 ≤ k
  · by_cases h2 : k < 8
    · rw [h.u k.toNat (by omega) (by omega)]
    · simp [h2]
  · simp [h1]
theorem cnt (h : Rel q r) : ∀ k, k ≤ 7 → QS.cnt q.U k = QS.cnt r.U k
  | 0, _ => rfl
  | k + 1, hk => by unfold QS.cnt; rw [h.cnt k (by omega), h.u (k + 1) (by omega) (by omega)]
theorem left (h : Rel q r) : q.left = r.left := h.cnt 7 (Nat.le_refl _)
theorem out (h : Rel q r) (f : Nat) (g : Nat → Int) : Rel (q.lay f true g) ((r.setW f g).setU f true) := by
  refine ⟨fun k k1 k2 => ?_, fun k k1 k2 hk o ho => ?_⟩
  · rw [QS.lay_U]; show _ = if k = f then true else r.U k
    rw [h.u k k1 k2]
  · rw [QS.lay_W]; show _ = (if k = f then g else r.W k) o
    rw [QS.lay_U] at hk
    by_cases e : k = f
    · rw [if_pos e, if_pos e]
    · rw [if_neg e] at hk; rw [if_neg e, if_neg e]; exact h.w k k1 k2 hk o ho
theorem del (h : Rel q r) (f : Nat) : Rel (q.lay f false (fun _ => 0)) (r.setU f false) := by
  refine ⟨fun k k1 k2 => ?_, fun k k1 k2 hk o ho => ?_⟩
  · rw [QS.lay_U]; show _ = if k = f then false else r.U k
    rw [h.u k k1 k2]
  · rw [QS.lay_W]; show _ = r.W k o
    rw [QS.lay_U] at hk
    by_cases e : k = f
    · rw [if_pos e] at hk; cases hk
    · rw [if_neg e] at hk; rw [if_neg e]; exact h.w k k1 k2 hk o ho
end Rel

/-- What keeps the two apart. -/
structure Apt (B C P b cw cc co T : Nat) : Prop where
  p : P ≠ B ∧ P ≠ C
  pr : b ≠ P ∧ cw ≠ P ∧ cc ≠ P ∧ co ≠ P ∧ T ≠ P
  cr : b ≠ C ∧ cw ≠ C ∧ cc ≠ C ∧ co ≠ C ∧ T ≠ C
  tr : B ≠ T ∧ C ≠ T ∧ b ≠ T ∧ cw ≠ T ∧ cc ≠ T ∧ co ≠ T
  wr : B ≠ cw
/-- All that the loop keeps. -/
structure PlC (w : World) (B C P b cw cc co T : Nat) (wr : World) (q r : QS) (s : MS) : Prop where
  hq : QAt wr P q
  hr : RQAt wr T r
  hm : MemAt wr B C s
  hf : RefAt wr b cw cc co s
  hl : Rel q r
  hn : s.n = 5
  ht : Touch Nil w wr
/-- Between the program's call and the document's. -/
structure PlH (w : World) (B C P b cw cc co T : Nat) (wr : World) (q r : QS) (s s0 : MS) : Prop where
  hq : QAt wr P q
  hr : RQAt wr T r
  hm : MemAt wr B C s
  hf : RefAt wr b cw cc co s0
  ht : Touch Nil w wr
theorem PlC.half {w wr wx : World} {B C P b cw cc co T : Nat} {q r q' : QS} {s s' : MS} (h : PlC w B C P b cw cc co T wr q r s) (a : Apt B C P b cw cc co T) (hB : w.heap.size ≤ P ∧ w.heap.size ≤ C) (t : Touch (fun x => x = P ∨ x = C) wr wx) (hq : QAt wx P q') (hm : MemAt wx B C s') : PlH w B C P b cw cc co T wx q' r s' s :=
  have ⟨p1, p2, p3, p4, p5⟩ := a.pr
  have ⟨c1, c2, c3, c4, c5⟩ := a.cr
  ⟨hq, h.hr.touch t (by rintro (e | e); exact p5 e; exact c5 e), hm, h.hf.touch t (by rintro (e | e); exact p1 e; exact c1 e) (by rintro (e | e); exact p2 e; exact c2 e) (by rintro (e | e); exact p3 e; exact c3 e) (by rintro (e | e); exact p4 e; exact c4 e), h.ht.transNew t (fun i hi e => by omega)⟩
theorem PlH.whole {w wr wx : World} {B C P b cw cc co T : Nat} {q r r' : QS} {s s0 : MS} (h : PlH w B C P b cw cc co T wr q r s s0) (a : Apt B C P b cw cc co T) (hB : w.heap.size ≤ T ∧ w.heap.size ≤ cw) (t : Touch (fun x => x = T ∨ x = cw) wr wx) (hr : RQAt wx T r') (hf : RefAt wx b cw cc co s) (hl : Rel q r') (hn : s.n = 5) : PlC w B C P b cw cc co T wx q r' s :=
  have ⟨p1, p2, p3, p4, p5⟩ := a.pr
  have ⟨c1, c2, c3, c4, c5⟩ := a.cr
  ⟨h.hq.touch t (by rintro (e | e); exact p5 e.symm; exact p2 e.symm), hr, h.hm.touch t (by rintro (e | e); exact a.tr.1 e; exact a.wr e) (by rintro (e | e); exact c5 e.symm; exact c2 e.symm), hf, hl, hn, h.ht.transNew t (fun i hi e => by omega)⟩
theorem PlC.nil {w wr wx : World} {B C P b cw cc co T : Nat} {q r : QS} {s : MS} (h : PlC w B C P b cw cc co T wr q r s) (t : Touch Nil wr wx) : PlC w B C P b cw cc co T wx q r s :=
  ⟨h.hq.touch t id, h.hr.touch t id, h.hm.touch t id id, h.hf.touch t id id id id, h.hl, h.hn, h.ht.trans t⟩

theorem MS.lay_congr (s : MS) (f : Int) {g g' : Nat → Int} (h : ∀ o, o < 8 → g o = g' o) : s.lay f g = s.lay f g' := by
  unfold MS.lay
  congr 1
  funext i
  split
  · exact h _ (Nat.mod_lt _ (by omega))
  · rfl
theorem rfresh_alloc (w : World) {a : Array Value} (h : a = Array.ofFn (n := 72) (fun i => QS.fresh.rcell i.1)) : RQAt (w.alloc (.cells a 86)) w.heap.size QS.fresh := by
  have := World.rowIs_alloc w (Array.ofFn (n := 72) (fun i => QS.fresh.rcell i.1)) 86 QS.fresh.rcell (fun i hi => by
    have hi' : i < 72 := by simpa using hi
    rw [Array.getElem?_ofFn]; simp [hi'])
  rw [Array.size_ofFn] at this
  rw [h]; exact this

set_option maxRecDepth 20000 in
set_option maxHeartbeats 4000000 in
theorem swapPlays_walk (a0 : Option Addr) (len0 cap0 : Nat) (z0 : List Int) (w : World) (r0 : Row .i64 w a0 len0 cap0 z0) :
    Calls Try.prog 7 #[.slice a0 len0 cap0] w fun e w' => e = .returned (.bool true) ∧ Touch Nil w w' := by
  obtain ⟨hm0, p0⟩ := r0.plain
  unfold maxLen at hm0
  clear r0
  go_enter Try.func7, Try.ntmps7
  have hN := new_any 5 w
  rw [show MS.many 5 = 5 from rfl] at hN
  go_wp2_with fail
  with_reducible refine hN.mono ?_
  rintro e w1 ⟨rfl, hM, t1, s1⟩
  clear hN
  have hR := rnew_any 5 w1
  rw [show MS.many 5 = 5 from rfl] at hR
  go_wp2_with fail
  with_reducible refine hR.mono ?_
  rintro e w2 ⟨b, cw, cc, co, rfl, hb, hcw, hcc, hco, hR2, t2⟩
  clear hR
  have hM2 := hM.touch t2 (fun h => h) (fun h => h)
  have T2 := t1.trans t2
  go_wp2_with fail
  with_reducible refine (snew_any w2).mono ?_
  rintro e w3 ⟨rfl, hQ, t3, s3⟩
  have hM3 := hM2.touch t3 (fun h => h) (fun h => h)
  have hR3 := hR2.touch t3 (fun h => h) (fun h => h) (fun h => h) (fun h => h)
  have T3 := T2.trans t3
  have tA := (Touch.refl Nil w3).alloc (.cells Try.zeroCells86 86)
  have hRQ := rfresh_alloc w3 (a := Try.zeroCells86) (by kernel_rfl)
  have hC0 : PlC w (w.heap.size + 1) w.heap.size w2.heap.size b cw cc co w3.heap.size (w3.alloc (.cells Try.zeroCells86 86)) QS.fresh QS.fresh (MS.fresh 5) :=
    ⟨hQ.touch tA id, hRQ, hM3.touch tA id id, hR3.touch tA id id id id, Rel.fresh, rfl, T3.trans tA⟩
  have hA : Apt (w.heap.size + 1) w.heap.size w2.heap.size b cw cc co w3.heap.size := by
    have l1 := hR2.top.lt
    have l2 := hR2.rw'.lt
    have l3 := hR2.rc.lt
    have l4 := hR2.ro.lt
    have l5 := t2.size
    have l6 := t3.size
    exact ⟨by omega, by omega, by omega, by omega, by omega⟩
  have hBd : w.heap.size ≤ w2.heap.size ∧ w.heap.size ≤ w3.heap.size ∧ w.heap.size ≤ cw := ⟨T2.size, T3.size, by omega⟩
  have s3' : w3.heap.size = w2.heap.size + 1 := s3
  rw [s3'] at hC0 hA hBd
  go_wp2_with fail
  generalize w3.alloc (.cells Try.zeroCells86 86) = W3 at *
  clear hb hcw hcc hco s1 s3 s3' tA hRQ hM hM2 hM3 hR2 hR3 hQ t1 t2 t3 T2 T3
  generalize w2.heap.size = P at *
  obtain ⟨hP, hT, hCw⟩ := hBd
  go_loopg [7] 75 (fun g i wr => ∃ (k : Nat) (q r : QS) (s : MS), g + k = 75 ∧ k % 3 = 0 ∧ i = .int .i64 k ∧ PlC w (w.heap.size + 1) w.heap.size P b cw cc co (P + 1) wr q r s)
  case atStart => exact ⟨0, _, _, _, by omega, by omega, rfl, hC0⟩
  case round =>
    clear hC0
    obtain ⟨k, q, r, s, hgk, hk3, rfl, hC⟩ := hrel
    by_cases hgo : k + 2 < len0 ∧ k < 75
    · obtain ⟨hg1, hg2⟩ := hgo
      rcases p0 with p0 | ⟨b0, o0, rfl, hb0, hc0⟩
      · omega
      have hBel := hC.ht.below (Nat.le_refl _) (fun _ e => e.elim)
      have c0 := Plain.cell hc0 hb0 hBel k (by omega)
      have c1 := Plain.cell hc0 hb0 hBel (k + 1) (by omega)
      have c2 := Plain.cell hc0 hb0 hBel (k + 2) (by omega)
      have f0 := bounds_i64 (hc0 k (by omega)).2
      obtain ⟨y0, hy0⟩ : ∃ y, z0.getD k 0 = y := ⟨_, rfl⟩
      rw [hy0] at c0 f0
      have HB : ∀ wx, Touch Nil w wx → wx.cell? ⟨b0, o0 + k, none⟩ = some (.int .i64 y0) := fun wx tx => by
        have := Plain.cell hc0 hb0 (tx.below (Nat.le_refl _) (fun _ e => e.elim)) k (by omega)
        rw [hy0] at this; exact this
      generalize z0.getD (k + 1) 0 = y1 at c1
      generalize z0.getD (k + 2) 0 = y2 at c2
      have k1 : (k : Int) + 2 < len0 := by omega
      have k2 : (k : Int) < 75 := by omega
      have k4 : (k : Int) + 1 < len0 := by omega
      have k5 : (k : Int) < len0 := by omega
      have u1 : (0 : Int) ≤ (k : Int) + 1 := by omega
      have u2 : (0 : Int) ≤ (k : Int) + 2 := by omega
      have v1 : IntKind.i64.wrap ((k : Int) + 1) = (k : Int) + 1 := by rw [IntKind.wrap_i64]; omega
      have v2 : IntKind.i64.wrap ((k : Int) + 2) = (k : Int) + 2 := by rw [IntKind.wrap_i64]; omega
      have v4 : IntKind.i64.wrap (y1 % 7 - 1) = y1 % 7 - 1 := by rw [IntKind.wrap_i64]; omega
      have v5 : IntKind.i64.wrap (y2 % 10 - 1) = y2 % 10 - 1 := by rw [IntKind.wrap_i64]; omega
      clear hBel
      go_upto_region 8 with fail
      go_quiet ((go_at_call 14; exact Calls.quiet_of_same (within_q' _ _ _ (by omega) (by omega))))
      go_wp2_with fail
      have hC1 := hC.nil ((Touch.refl Nil wr).drews nq)
      clear hC v1 v2 v4 v5 c1 c2
      generalize wr.drewN nq = W at *
      with_reducible refine (within_any y0 8 W (by decide) (by decide)).mono ?_
      rintro e wq ⟨rfl, rfl⟩
      obtain ⟨F, hF⟩ : ∃ F, y1 % 7 - 1 = F := ⟨_, rfl⟩
      obtain ⟨N, hN⟩ : ∃ N, y2 % 10 - 1 = N := ⟨_, rfl⟩
      have hFb : -1 ≤ F ∧ F ≤ 5 := by omega
      have hNb : -1 ≤ N ∧ N ≤ 8 := by omega
      rw [hF, hN]
      clear hF hN
      have q0 := Int.emod_nonneg y0 (b := 8) (by omega)
      have q8 := Int.emod_lt_of_pos y0 (b := 8) (by omega)
      obtain ⟨v, hv⟩ : ∃ v, y0 % 8 = v := ⟨_, rfl⟩
      rw [hv] at q0 q8
      rw [hv]
      clear hv
      go_upto_block 2 with fail
      go_cut [59] (fun _ wx => ∃ (q r : QS) (s : MS), PlC w (w.heap.size + 1) w.heap.size P b cw cc co (P + 1) wx q r s)
      case first =>
        have hsn := hC1.hn
        go_upto_if 82 with fail
        go_cut [82] (fun x wx => W = wx ∧ x = .bool (decide (v ≤ 2)))
        case first =>
          rcases (by omega : v = 0 ∨ v = 1 ∨ v = 2 ∨ 2 < v) with hv | hv | hv | hv
          · subst hv
            go_wp2
            go_meet
            exact ⟨rfl, rfl⟩
          · subst hv
            go_wp2
            go_meet
            exact ⟨rfl, rfl⟩
          · subst hv
            go_wp2
            go_meet
            exact ⟨rfl, rfl⟩
          · have e0 : (v == 0) = false := by simp; omega
            have e1 : (v == 1) = false := by simp; omega
            have e2 : (v == 2) = false := by simp; omega
            have hd : decide (v ≤ 2) = false := by simp; omega
            go_wp2
            go_meet
            exact ⟨rfl, by rw [hd]⟩
        case rest =>
        obtain ⟨rfl, rfl⟩ := hcut
        by_cases hv2 : v ≤ 2
        · as_aux_lemma =>
          rcases q.free_or with ⟨f, hFr⟩ | hFu
          · have hFr' := hC1.hl.free hFr
            cases hf : s.hasF F
            · go_wp2_with fail
              with_reducible refine (sout_none hC1.hq hC1.hm hFr F hf).mono ?_
              rintro e wq ⟨rfl, rfl⟩
              go_wp2_with fail
              with_reducible refine (rsout_none hC1.hr hC1.hf F hf).mono ?_
              rintro e wq ⟨rfl, rfl⟩
              go_wp2_with fail
              go_meet
              exact ⟨q, r, s, hC1⟩
            · go_wp2_with fail
              with_reducible refine (sout_yes hC1.hq hC1.hm hFr F hf).mono ?_
              rintro e w5 ⟨rfl, hq5, t5⟩
              have hH := hC1.half hA ⟨hP, Nat.le_refl _⟩ (t5.mono (fun x _ e => Or.inl e)) hq5 (hC1.hm.touch t5 (fun e => hA.p.1 e.symm) (fun e => hA.p.2 e.symm))
              have hL := hC1.hl.out f (s.frame F)
              clear hC1 hq5 t5
              go_wp2_with fail
              with_reducible refine (rsout_yes hH.hr hH.hf hFr' F hf).mono ?_
              rintro e w6 ⟨rfl, hr6, t6⟩
              have hC6 := hH.whole hA ⟨hT, hCw⟩ (t6.mono (fun x _ e => Or.inl e)) hr6 (hH.hf.touch t6 hA.tr.2.2.1 hA.tr.2.2.2.1 hA.tr.2.2.2.2.1 hA.tr.2.2.2.2.2) hL hsn
              clear hH hr6 t6
              go_wp2_with fail
              go_meet
              exact ⟨_, _, _, hC6⟩
          · go_wp2_with fail
            with_reducible refine (sout_full hC1.hq hFu F).mono ?_
            rintro e wq ⟨rfl, rfl⟩
            go_wp2_with fail
            with_reducible refine (rsout_full hC1.hr hC1.hf (hC1.hl.full hFu) F).mono ?_
            rintro e wq ⟨rfl, rfl⟩
            go_wp2_with fail
            go_meet
            exact ⟨q, r, s, hC1⟩
        · go_upto_if 108 with fail
          go_cut [108] (fun x wx => W = wx ∧ x = .bool (decide (v ≤ 4)))
          case first =>
            rcases (by omega : v = 3 ∨ v = 4 ∨ 4 < v) with hv | hv | hv
            · subst hv
              go_wp2
              go_meet
              exact ⟨rfl, rfl⟩
            · subst hv
              go_wp2
              go_meet
              exact ⟨rfl, rfl⟩
            · have e0 : (v == 3) = false := by simp; omega
              have e1 : (v == 4) = false := by simp; omega
              have hd : decide (v ≤ 4) = false := by simp; omega
              go_wp2
              go_meet
              exact ⟨rfl, by rw [hd]⟩
          case rest =>
          obtain ⟨rfl, rfl⟩ := hcut
          by_cases hv4 : v ≤ 4
          · as_aux_lemma =>
            cases hio : (q.isOut N && s.hasF F)
            · have hio' : (r.isOut N && s.hasF F) = false := by rw [← hC1.hl.isOut]; exact hio
              go_wp2_with fail
              with_reducible refine (sin_no hC1.hq hC1.hm N F hio).mono ?_
              rintro e wq ⟨rfl, rfl⟩
              go_wp2_with fail
              with_reducible refine (rsin_no hC1.hr hC1.hf N F hio').mono ?_
              rintro e wq ⟨rfl, rfl⟩
              go_wp2_with fail
              go_meet
              exact ⟨q, r, s, hC1⟩
            · obtain ⟨hi, hf⟩ := Bool.and_eq_true_iff.1 hio
              have hi' : r.isOut N = true := by rw [← hC1.hl.isOut]; exact hi
              obtain ⟨n1, n2, nU⟩ := (q.isOut_iff N).1 hi
              have hlc : s.lay F (q.W N.toNat) = s.lay F (r.W N.toNat) := s.lay_congr F (hC1.hl.w N.toNat (by omega) (by omega) nU)
              clear hio
              go_wp2_with fail
              with_reducible refine (sin_yes hC1.hq hC1.hm hA.p N F hi hf).mono ?_
              rintro e w5 ⟨rfl, hq5, hm5, t5⟩
              have hH := hC1.half hA ⟨hP, Nat.le_refl _⟩ t5 hq5 hm5
              have hL := hC1.hl.del N.toNat
              clear hC1 hq5 t5 hm5
              go_wp2_with fail
              with_reducible refine (rsin_yes hH.hr hH.hf N F hi' hf).mono ?_
              rintro e w6 ⟨rfl, hr6, hf6, t6⟩
              rw [← hlc] at hf6
              have hC6 := hH.whole hA ⟨hT, hCw⟩ t6 hr6 hf6 hL hsn
              clear hH hr6 hf6 t6 hlc
              go_wp2_with fail
              go_meet
              exact ⟨_, _, _, hC6⟩
          · by_cases hv5 : v = 5
            · as_aux_lemma =>
              subst hv5
              have hD1 := sdrop_any hC1.hq N
              have hio := hC1.hl.isOut N
              obtain ⟨d, hd⟩ : ∃ d, q.isOut N = d := ⟨_, rfl⟩
              rw [hd] at hD1 hio
              go_wp2_with fail
              with_reducible refine hD1.mono ?_
              rintro e w5 ⟨rfl, hq5, t5⟩
              have hH := hC1.half hA ⟨hP, Nat.le_refl _⟩ (t5.mono (fun x _ e => Or.inl e)) hq5 (hC1.hm.touch t5 (fun e => hA.p.1 e.symm) (fun e => hA.p.2 e.symm))
              have hL : Rel (if d = true then q.lay N.toNat false (fun _ => 0) else q) (if d = true then r.setU N.toNat false else r) := by
                cases d
                · exact hC1.hl
                · exact hC1.hl.del N.toNat
              clear hC1 hq5 t5 hD1
              have hD2 := rsdrop_any hH.hr N
              rw [← hio] at hD2
              go_wp2_with fail
              with_reducible refine hD2.mono ?_
              rintro e w6 ⟨rfl, hr6, t6⟩
              have hC6 := hH.whole hA ⟨hT, hCw⟩ (t6.mono (fun x _ e => Or.inl e)) hr6 (hH.hf.touch t6 hA.tr.2.2.1 hA.tr.2.2.2.1 hA.tr.2.2.2.2.1 hA.tr.2.2.2.2.2) hL hsn
              clear hH hr6 t6 hD2
              go_wp2_with fail
              go_meet
              exact ⟨_, _, _, hC6⟩
            · as_aux_lemma =>
              have e5 : (v == 5) = false := by simp; omega
              have cW := HB _ hC1.ht
              have w1 : IntKind.i64.wrap (8 * F) = 8 * F := by rw [IntKind.wrap_i64]; omega
              have w2' : IntKind.i64.wrap (8 * F + N) = 8 * F + N := by rw [IntKind.wrap_i64]; omega
              have hW1 := write_any hC1.hm (8 * F + N) (IntKind.u64.wrap y0) (by omega)
              go_wp2_with fail
              with_reducible refine hW1.mono ?_
              rintro e w5 ⟨rfl, hm5, t5⟩
              have hH := hC1.half hA ⟨hP, Nat.le_refl _⟩ (t5.mono (fun x _ e => Or.inr e)) (hC1.hq.touch t5 (fun e => hA.p.2 e)) hm5
              have hL := hC1.hl
              have cW5 := HB _ hH.ht
              clear hC1 hm5 t5 hW1 cW
              have hW2 := rwrite_any hH.hf (8 * F + N) (IntKind.u64.wrap y0)
              go_wp2_with fail
              with_reducible refine hW2.mono ?_
              rintro e w6 ⟨rfl, hf6, t6⟩
              have hC6 := hH.whole hA ⟨hT, hCw⟩ (t6.mono (fun x _ e => Or.inr e)) (hH.hr.touch t6 (fun e => hA.tr.2.2.2.1 e.symm)) hf6 hL (by rw [MS.write_n]; exact hsn)
              clear hH hf6 t6 hW2 cW5
              go_wp2_with fail
              go_meet
              exact ⟨_, _, _, hC6⟩
      case rest =>
        clear hC1 HB
        as_aux_lemma =>
        obtain ⟨q, r, s, hC⟩ := hcut
        have hL1 := sleft_any hC.hq
        have hL2 := rsleft_any hC.hr
        rw [← hC.hl.left] at hL2
        go_wp2_with fail
        with_reducible refine hL1.mono ?_
        rintro e wq ⟨rfl, rfl⟩
        go_wp2_with fail
        with_reducible refine hL2.mono ?_
        rintro e wq ⟨rfl, rfl⟩
        go_wp2_with fail
        go_loopg [14] 10 (fun g i wr => ∃ a : Nat, g + a = 10 ∧ i = .int .i64 ((a : Int) - 1) ∧ wc = wr)
        case atStart => exact ⟨0, by omega, by go_num, rfl⟩
        case round =>
          obtain ⟨a, hga, rfl, rfl⟩ := hrel
          by_cases ha : a < 10
          · have a1 : (a : Int) - 1 ≤ 8 := by omega
            obtain ⟨A, hA'⟩ : ∃ A : Int, (a : Int) - 1 = A := ⟨_, rfl⟩
            have hAb : -1 ≤ A ∧ A ≤ 8 := by omega
            rw [hA'] at a1
            rw [hA']
            go_wp2_with fail
            go_loopg [15] 10 (fun g i wr => ∃ d : Nat, g + d = 10 ∧ i = .int .i64 ((d : Int) - 1) ∧ wc = wr)
            case atStart => exact ⟨0, by omega, by go_num, rfl⟩
            case round =>
              obtain ⟨d, hgd, rfl, rfl⟩ := hrel
              by_cases hd : d < 10
              · have d1 : (d : Int) - 1 ≤ 8 := by omega
                obtain ⟨D, hD'⟩ : ∃ D : Int, (d : Int) - 1 = D := ⟨_, rfl⟩
                have hDb : -1 ≤ D ∧ D ≤ 8 := by omega
                rw [hD'] at d1
                rw [hD']
                have hS := sword_any hC.hq A D
                go_wp2_with fail
                with_reducible refine hS.mono ?_
                rintro e wq ⟨rfl, rfl⟩
                by_cases hA1 : 0 < A
                · by_cases hA2 : A < 8
                  · have cU := hC.hr.outC (k := A.toNat) (by omega)
                    have hio : q.isOut A = r.U A.toNat := by rw [hC.hl.isOut]; unfold QS.isOut; rw [decide_eq_true (by omega), decide_eq_true hA2]; rfl
                    as_aux_lemma =>
                    cases hU : r.U A.toNat
                    · rw [hU] at cU hio
                      obtain ⟨e1, e2⟩ := QS.wok_no (q := q) (k := A) (o := D) (by rw [hio]; simp)
                      rw [e1, e2]
                      go_wp2_with fail
                      go_roundg (10 - (d + 1))
                      case measure => omega
                      case rel => exact ⟨d + 1, by omega, by rw [← hD']; go_num, rfl⟩
                    · rw [hU] at cU hio
                      by_cases hD1 : 0 ≤ D
                      · by_cases hD2 : D < 8
                        · have cW := hC.hr.wordC (k := A.toNat) (o := D.toNat) (by omega) (by omega)
                          have e1 : q.wok A D = true := (q.wok_iff A D).2 ⟨hio, hD1, hD2⟩
                          have e2 : q.wd A D = r.W A.toNat D.toNat := by
                            unfold QS.wd; rw [e1, if_pos rfl]
                            exact hC.hl.w A.toNat (by omega) (by omega) (by rw [hC.hl.u A.toNat (by omega) (by omega)]; exact hU) D.toNat (by omega)
                          rw [e1, e2]
                          have hA0 : 0 ≤ A := by omega
                          go_wp2_with fail
                          go_roundg (10 - (d + 1))
                          case measure => omega
                          case rel => exact ⟨d + 1, by omega, by rw [← hD']; go_num, rfl⟩
                        · obtain ⟨e1, e2⟩ := QS.wok_no (q := q) (k := A) (o := D) (by omega)
                          rw [e1, e2]
                          go_wp2_with fail
                          go_roundg (10 - (d + 1))
                          case measure => omega
                          case rel => exact ⟨d + 1, by omega, by rw [← hD']; go_num, rfl⟩
                      · obtain ⟨e1, e2⟩ := QS.wok_no (q := q) (k := A) (o := D) (by omega)
                        rw [e1, e2]
                        go_wp2_with fail
                        go_roundg (10 - (d + 1))
                        case measure => omega
                        case rel => exact ⟨d + 1, by omega, by rw [← hD']; go_num, rfl⟩
                  · as_aux_lemma =>
                    obtain ⟨e1, e2⟩ := QS.wok_no (q := q) (k := A) (o := D) (by rw [q.isOut_off A (by omega)]; simp)
                    rw [e1, e2]
                    go_wp2_with fail
                    go_roundg (10 - (d + 1))
                    case measure => omega
                    case rel => exact ⟨d + 1, by omega, by rw [← hD']; go_num, rfl⟩
                · obtain ⟨e1, e2⟩ := QS.wok_no (q := q) (k := A) (o := D) (by rw [q.isOut_off A (by omega)]; simp)
                  rw [e1, e2]
                  go_wp2_with fail
                  go_roundg (10 - (d + 1))
                  case measure => omega
                  case rel => exact ⟨d + 1, by omega, by rw [← hD']; go_num, rfl⟩
              · have d1 : ¬ (d : Int) - 1 ≤ 8 := by omega
                go_wp2_with fail
                go_roundg (10 - (a + 1))
                case measure => omega
                case rel => exact ⟨a + 1, by omega, by rw [← hA']; go_num, rfl⟩
          · have a1 : ¬ (a : Int) - 1 ≤ 8 := by omega
            go_wp2_with fail
            go_roundg (75 - (k + 3))
            case measure => omega
            case rel => exact ⟨k + 3, q, r, s, by omega, by omega, by go_num, hC⟩
    · as_aux_lemma =>
      have hS := same_any hC.hm hC.hf
      by_cases hl : k + 2 < len0
      · have k1 : (k : Int) + 2 < len0 := by omega
        have k2 : ¬ (k : Int) < 75 := by omega
        go_wp2_with fail
        with_reducible refine hS.mono ?_
        rintro e w8 ⟨rfl, t8⟩
        go_wp2_with fail
        with_reducible refine (wakes10 _).mono ?_
        rintro e w9 ⟨rfl, t9⟩
        go_wp2_with fail
        go_ret
        exact ⟨rfl, (hC.ht.trans t8.touch).trans t9⟩
      · have k1 : ¬ (k : Int) + 2 < len0 := by omega
        go_wp2_with fail
        with_reducible refine hS.mono ?_
        rintro e w8 ⟨rfl, t8⟩
        go_wp2_with fail
        with_reducible refine (wakes10 _).mono ?_
        rintro e w9 ⟨rfl, t9⟩
        go_wp2_with fail
        go_ret
        exact ⟨rfl, (hC.ht.trans t8.touch).trans t9⟩
end Go.Proofs.Ytaofkedcdeocjaa

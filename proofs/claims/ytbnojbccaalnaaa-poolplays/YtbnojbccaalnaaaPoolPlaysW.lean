/-
  The walk of PoolPlays.
-/
import Derived.Test.YtbnojbccaalnaaaRefD
import Derived.Test.YtbnojbccaalnaaaRefP
import Derived.Test.YtbnojbccaalnaaaPoolC
import Derived.Test.YtbnojbccaalnaaaSlices
import Derived.Deep.DeepCutAuto
namespace Go.Proofs.Ytbnojbccaalnaaa
open Go.ChangeShapes Go.WideShapes Go.ChangeAt Go.RowKit

/-- Where all lies: the memory from H on, the document's own behind it, then the pool, then the document's. -/
structure Lie (H b' cw cc co P q cr : Nat) : Prop where
  lb : H + 2 ≤ b' ∧ b' < P
  lw : H + 2 ≤ cw ∧ cw < P
  lc : H + 2 ≤ cc ∧ cc < P
  lo : H + 2 ≤ co ∧ co < P
  lq : P < q
  lr : P < cr
  qr : q ≠ cr
theorem Lie.off {H b' cw cc co P q cr : Nat} (h : Lie H b' cw cc co P q cr) : Off q b' cw cc co cr := by
  obtain ⟨h1, h2, h3, h4, h5, h6, h7⟩ := h
  exact ⟨by omega, by omega, by omega, by omega, by omega, by omega, by omega, h7⟩

/-- References: none below 0, none of frames that there are not; k steps were done. -/
structure RB (R : Nat → Int) (n k : Nat) : Prop where
  few : Few n R
  ub : ∀ i, R i ≤ k + 1
theorem RB.le {R : Nat → Int} {n k : Nat} (h : RB R n k) (f : Int) : rf R f ≤ k + 1 := by
  unfold rf; split
  · exact h.ub _
  · omega
theorem RB.same {R : Nat → Int} {n k : Nat} (h : RB R n k) : RB R n (k + 1) := ⟨h.few, fun i => by have := h.ub i; omega⟩
theorem RB.set {R : Nat → Int} {n k : Nat} (h : RB R n k) (f x : Int) (h0 : 0 ≤ f) (hf : f < n) (hx : 0 ≤ x) (hk : x ≤ k + 2) : RB (rset R f x) n (k + 1) := by
  refine ⟨⟨fun i => ?_, fun i hi => ?_⟩, fun i => ?_⟩
  · unfold rset; split
    · exact hx
    · exact h.few.1 i
  · unfold rset; rw [if_neg (by omega)]; exact h.few.2 i hi
  · unfold rset; split
    · omega
    · have := h.ub i; omega
theorem RB.inN {R : Nat → Int} {n k : Nat} (h : RB R n k) {f : Int} (hf : 0 < rf R f) : 0 ≤ f ∧ f < n := by
  obtain ⟨g0, g1, hr⟩ := rf_pos hf
  refine ⟨g0, ?_⟩
  by_cases q : f < n
  · exact q
  · have := h.few.2 f.toNat (by omega); omega
theorem RB.share {R : Nat → Int} {n k : Nat} (h : RB R n k) (f : Int) : RB (rshare R f) n (k + 1) := by
  unfold rshare; split
  · rename_i hf; have := h.le f; exact h.set f _ (h.inN hf).1 (h.inN hf).2 (by omega) (by omega)
  · exact h.same
theorem RB.give {R : Nat → Int} {n k : Nat} (h : RB R n k) (f : Int) : RB (rgive R f) n (k + 1) := by
  unfold rgive; split
  · rename_i hf; have := h.le f; exact h.set f _ (h.inN hf).1 (h.inN hf).2 (by omega) (by omega)
  · exact h.same

/-- All four, side by side, in a world in which all that was there is as it was. -/
structure Four (w : World) (b' cw cc co P q cr : Nat) (wr : World) (s : MS) (R : Nat → Int) : Prop where
  p : PoolAt wr P (w.heap.size + 1) R
  m : MemAt wr (w.heap.size + 1) w.heap.size s
  u : RPoolAt wr q b' cr s.n R
  r : RefAt wr b' cw cc co s
  bel : Below w.heap.size w wr
  lie : Lie w.heap.size b' cw cc co P q cr
/-- What the document's own turn. -/
abbrev Its (cw cc co cr : Nat) : Nat → Prop := fun x => x = cr ∨ x = cw ∨ x = cc ∨ x = co
/-- What ours turn. -/
abbrev Ours (H P : Nat) : Nat → Prop := fun x => x = P ∨ x = H
namespace Four
variable {w : World} {b' cw cc co P q cr : Nat} {wr wa wb : World} {s s' : MS} {R R' : Nat → Int}
theorem u' (h : Four w b' cw cc co P q cr wr s R) (t : Touch (Ours w.heap.size P) wr wa) : RPoolAt wa q b' cr s.n R := by
  obtain ⟨h1, h2, h3, h4, h5, h6, h7⟩ := h.lie
  exact h.u.touch t (by omega) (by omega)
theorem r' (h : Four w b' cw cc co P q cr wr s R) (t : Touch (Ours w.heap.size P) wr wa) : RefAt wa b' cw cc co s := by
  obtain ⟨h1, h2, h3, h4, h5, h6, h7⟩ := h.lie
  exact h.r.touch t (by omega) (by omega) (by omega) (by omega)
theorem step (h : Four w b' cw cc co P q cr wr s R) (hP : PoolAt wa P (w.heap.size + 1) R') (hM : MemAt wa (w.heap.size + 1) w.heap.size s') (hT : Touch (Ours w.heap.size P) wr wa)
    (hU : RPoolAt wb q b' cr s'.n R') (hR : RefAt wb b' cw cc co s') (hT' : Touch (Its cw cc co cr) wa wb) : Four w b' cw cc co P q cr wb s' R' := by
  have hl := h.lie
  obtain ⟨h1, h2, h3, h4, h5, h6, h7⟩ := h.lie
  exact ⟨hP.touch hT' (by omega), hM.touch hT' (by omega) (by omega), hU, hR,
    h.bel.trans ((hT.below h.bel.size (fun k e => by omega)).trans (hT'.below (Nat.le_trans h.bel.size hT.size) (fun k e => by omega))), hl⟩
theorem away (h : Four w b' cw cc co P q cr wr s R) (t : Touch Nil wr wb) : Four w b' cw cc co P q cr wb s R :=
  ⟨h.p.touch t id, h.m.touch t id id, h.u.touch t id id, h.r.touch t id id id id, h.bel.trans (t.below h.bel.size (fun _ e => e.elim)), h.lie⟩
end Four

/-- Take of both: one answer. -/
theorem take_both (s : MS) (R : Nat → Int) (k : Nat) (hB : RB R s.n k) (c o : Int) : ∃ (a : Int) (ok : Bool) (s' : MS) (R' : Nat → Int), s'.n = s.n ∧ RB R' s.n (k + 1) ∧
    (∀ w p b d, PoolAt w p b R → MemAt w b d s → Calls Try.prog 13 #[.pointer (some ⟨p, 0, none⟩), .int .i64 c, .int .i64 o] w fun e w' => e = .returned (.tuple #[.int .i64 a, .bool ok]) ∧ PoolAt w' p b R' ∧ MemAt w' b d s' ∧ Touch (Ours d p) w w') ∧
    (∀ w q b cr cw cc co, RPoolAt w q b cr s.n R → RefAt w b cw cc co s → Off q b cw cc co cr → Calls Try.prog 24 #[.pointer (some ⟨q, 0, none⟩), .int .i64 c, .int .i64 o] w fun e w' => e = .returned (.tuple #[.int .i64 a, .bool ok]) ∧ RPoolAt w' q b cr s.n R' ∧ RefAt w' b cw cc co s' ∧ Touch (Its cw cc co cr) w w') := by
  by_cases hc : c = 1 ∨ c = 2
  · rcases least_or s with ⟨f, hL⟩ | hNo
    · exact ⟨_, _, _, _, s.mark_n f c o, hB.set f 1 (by omega) (by have := hL.hi; omega) (by omega) (by omega), fun w p b d h m => ptake_least h m c o hc hL, fun w q b cr cw cc co h r hO => rptake_least h r hO c o hc hL⟩
    · exact ⟨_, _, s, R, rfl, hB.same, fun w p b d h m => (ptake_none h m c o hNo).mono fun e w' ⟨he, hw⟩ => by subst hw; exact ⟨he, h, m, Touch.refl _ _⟩, fun w q b cr cw cc co h r hO => (rptake_none h r c o hNo).mono fun e w' ⟨he, hw⟩ => by subst hw; exact ⟨he, h, r, Touch.refl _ _⟩⟩
  · exact ⟨_, _, s, R, rfl, hB.same, fun w p b d h m => (ptake_class p c o (by omega) (by omega)).mono fun e w' ⟨he, hw⟩ => by subst hw; exact ⟨he, h, m, Touch.refl _ _⟩, fun w q b cr cw cc co h r hO => (rptake_class q c o (by omega) (by omega)).mono fun e w' ⟨he, hw⟩ => by subst hw; exact ⟨he, h, r, Touch.refl _ _⟩⟩

theorem RefAt.lts {w : World} {b cw cc co : Nat} {s : MS} (r : RefAt w b cw cc co s) : b < w.heap.size ∧ cw < w.heap.size ∧ cc < w.heap.size ∧ co < w.heap.size := ⟨r.top.lt, r.rw'.lt, r.rc.lt, r.ro.lt⟩

set_option maxRecDepth 10000 in
set_option maxHeartbeats 8000000 in
theorem poolPlays_walk (a0 : Int) (a1 : Option Addr) (len1 cap1 : Nat) (z1 : List Int) (w : World) (r1 : Row .i64 w a1 len1 cap1 z1) :
    Calls Try.prog 5 #[.int .i64 a0, .slice a1 len1 cap1] w fun e w' => e = .returned (.bool true) ∧ Below w.heap.size w w' := by
  obtain ⟨hm1, p1⟩ := r1.plain
  unfold maxLen at hm1
  clear r1
  have q0 := Int.emod_nonneg a0 (b := 12) (by omega)
  have q1 := Int.emod_lt_of_pos a0 (b := 12) (by omega)
  obtain ⟨N, hN⟩ : ∃ N : Nat, 12 + a0 % 12 = N := ⟨(12 + a0 % 12).toNat, by omega⟩
  have hN2 : N < 24 := by omega
  have hmN : MS.many N = N := by unfold MS.many; omega
  clear q0 q1
  go_enter Try.func5, Try.ntmps5
  go_wp2_with (first
    | (go_at_call 9; refine (within_any _ _ _ (by omega) (by omega)).mono ?_; rintro e wq ⟨rfl, rfl⟩)
    | (go_at_call 8; refine (new_any _ _).mono ?_; rintro e w1 ⟨rfl, hM, hT, hS⟩; rw [hmN] at hM)
    | (go_at_call 22; refine (rnew_any _ _).mono ?_; rintro e w2 ⟨b', cw, cc, co, hx, g0, g1, g2, g3, hR, hT2⟩; subst hx; rw [hmN] at hR; rw [hS] at g0 g1 g2 g3)
    | (go_at_call 11; refine (pnew_any _).mono ?_; rintro e w3 ⟨hx, hP, hT3, hS3⟩; obtain ⟨l0, l1, l2, l3⟩ := hR.lts; generalize w2.heap.size = P at hx hP hS3 l0 l1 l2 l3; subst hx)
    | (go_at_call 23; refine (rpnew_any (hR.touch hT3 id id id id)).mono ?_; rintro e w4 ⟨q, cr, hx, l4, l5, hU, hT4⟩; subst hx; rw [hS3] at l4 l5))
  have hF0 : Four w b' cw cc co P q cr w4 (MS.fresh N) (fun _ => 0) := ⟨hP.touch hT4 id, ((hM.touch hT2 id id).touch hT3 id id).touch hT4 id id, hU, (hR.touch hT3 id id id id).touch hT4 id id id id,
    (((hT.trans hT2).trans hT3).trans hT4 |>.below (Nat.le_refl _) (fun _ e => e.elim)), ⟨⟨g0, l0⟩, ⟨g1, l1⟩, ⟨g2, l2⟩, ⟨g3, l3⟩, by omega, by omega, hU.qr⟩⟩
  have hB0 : RB (fun _ => 0) N 0 := ⟨⟨fun _ => Int.le_refl _, fun _ _ => rfl⟩, fun _ => by omega⟩
  clear hM hT hS hR hT2 g0 g1 g2 g3 hP hT3 hS3 hU hT4 l0 l1 l2 l3 l4 l5
  go_loopg [9] 80 (fun g i wr => ∃ k : Nat, g + k = 80 ∧ k % 2 = 0 ∧ i = .int .i64 k ∧ ∃ s R, Four w b' cw cc co P q cr wr s R ∧ RB R s.n k)
  case atStart => exact ⟨0, by omega, by omega, rfl, _, _, hF0, hB0⟩
  case round =>
    clear hF0 hB0
    obtain ⟨k, hgk, hk2, rfl, s, R, hF, hB⟩ := hrel
    by_cases hgo : k + 1 < len1 ∧ k < 80
    · obtain ⟨hg1, hg2⟩ := hgo
      rcases p1 with p1 | ⟨b1, o1, rfl, hb1, hc1⟩
      · omega
      have c0 := Plain.cell hc1 hb1 hF.bel k (by omega)
      have c1 := Plain.cell hc1 hb1 hF.bel (k + 1) (by omega)
      have f0 := bounds_i64 (hc1 k (by omega)).2
      have f1 := bounds_i64 (hc1 (k + 1) (by omega)).2
      generalize z1.getD k 0 = y0 at c0 f0
      generalize z1.getD (k + 1) 0 = y1 at c1 f1
      have k1 : (k : Int) + 1 < len1 := by omega
      have k2 : (k : Int) < 80 := by omega
      have k3 : (k : Int) < len1 := by omega
      go_upto_if 54 with (go_at_call 9; refine (within_any _ _ _ (by omega) (by omega)).mono ?_; rintro e wq ⟨rfl, rfl⟩)
      go_cut [10] (fun s10 wx => wr = wx ∧ ∃ f : Int, s10 = .int .i64 f ∧ -9223372036854775808 ≤ f ∧ f ≤ 9223372036854775807)
      case first =>
        by_cases h30 : y0.tmod 31 = 30
        · go_wp2
          go_meet
          exact ⟨rfl, _, rfl, by omega, by omega⟩
        · go_wp2
          go_meet
          exact ⟨rfl, _, rfl, by omega, by omega⟩
      case rest =>
      obtain ⟨rfl, f, rfl, fl, fh⟩ := hcut
      have hub := hB.le f
      go_upto_region 14 with fail
      go_cut [64] (fun v wx => wr = wx ∧ v = .int .i64 (y0 % 9))
      case first =>
        go_wp2_with (go_at_call 9; refine (within_any _ _ _ (by omega) (by omega)).mono ?_; rintro e wq ⟨rfl, rfl⟩)
        go_meet
        exact ⟨rfl, rfl⟩
      case rest =>
      obtain ⟨rfl, rfl⟩ := hcut
      apply_assumption
      go_cut [64] (fun _ wx => ∃ s R, Four w b' cw cc co P q cr wx s R ∧ RB R s.n (k + 1))
      case first =>
        have hP := hF.p
        have hM := hF.m
        have hb2 : b1 < wr.heap.size := Nat.lt_of_lt_of_le hb1 hF.bel.size
        have hl := hF.lie
        obtain ⟨i1, i2, i3, i4, i5, i6, i7⟩ := hF.lie
        go_upto_if 73 with fail
        go_cut [73] (fun v wx => wr = wx ∧ v = .bool (decide (y0 % 9 ≤ 3)))
        case first =>
          have hv : y0 % 9 = 0 ∨ y0 % 9 = 1 ∨ y0 % 9 = 2 ∨ y0 % 9 = 3 ∨ (3 < y0 % 9) := by omega
          rcases hv with hv | hv | hv | hv | hv
          · go_wp2
            go_meet
            exact ⟨rfl, by simp [hv]⟩
          · go_wp2
            go_meet
            exact ⟨rfl, by simp [hv]⟩
          · go_wp2
            go_meet
            exact ⟨rfl, by simp [hv]⟩
          · go_wp2
            go_meet
            exact ⟨rfl, by simp [hv]⟩
          · have e0 : (y0 % 9 == 0) = false := by simp; omega
            have e1 : (y0 % 9 == 1) = false := by simp; omega
            have e2 : (y0 % 9 == 2) = false := by simp; omega
            have e3 : (y0 % 9 == 3) = false := by simp; omega
            go_wp2
            go_meet
            exact ⟨rfl, by simp; omega⟩
        case rest =>
        obtain ⟨rfl, rfl⟩ := hcut
        by_cases h3 : y0 % 9 ≤ 3
        · go_upto_region 21 with fail
          go_cut [11, 73] (fun v _ wx => Touch Nil wr wx ∧ ∃ c : Int, v = .int .i64 c)
          case first =>
            have hv : y1 % 5 = 0 ∨ y1 % 5 = 1 ∨ y1 % 5 = 2 ∨ y1 % 5 = 3 ∨ y1 % 5 = 4 := by omega
            rcases hv with hv | hv | hv | hv | hv
            all_goals
              go_wp2_with (go_at_call 9; refine (within_any _ _ _ (by omega) (by omega)).mono ?_; rintro e wq ⟨rfl, rfl⟩)
              go_meet
              exact ⟨(Touch.refl Nil _).alloc _, _, rfl⟩
          case rest =>
          obtain ⟨hTa, c, rfl⟩ := hcut
          have hF4 := hF.away hTa
          have c4 : wc.cell? ⟨b1, o1 + (k + 1), none⟩ = some (.int .i64 y1) := (World.cell?_of_block (hTa.block b1 hb2 id)).trans c1
          have hb4 : b1 < wc.heap.size := Nat.lt_of_lt_of_le hb2 hTa.size
          obtain ⟨a, ok, s', R', hn', hB', hp4, hr4⟩ := take_both s R k hB c (y1.tmod 4)
          clear hF hP hM c0 c1 hTa
          go_wp2_with (first
            | (go_at_call 13; refine (hp4 _ _ _ _ hF4.p hF4.m).mono ?_; rintro e w5 ⟨hx, hP5, hM5, hT5⟩; subst hx; have c5 : w5.cell? ⟨b1, o1 + (k + 1), none⟩ = some (.int .i64 y1) := (World.cell?_of_block (hT5.block b1 hb4 (by show ¬ (_ ∨ _); omega))).trans c4)
            | (go_at_call 24; refine (hr4 _ _ _ _ _ _ _ (hF4.u' hT5) (hF4.r' hT5) hl.off).mono ?_; rintro e w6 ⟨hx, hU6, hR6, hT6⟩; subst hx))
          go_meet
          exact ⟨_, _, hF4.step hP5 hM5 hT5 (by rw [hn']; exact hU6) hR6 hT6, by rw [hn']; exact hB'⟩
        · have hv : y0 % 9 = 4 ∨ y0 % 9 = 5 ∨ y0 % 9 = 6 ∨ y0 % 9 = 7 ∨ y0 % 9 = 8 := by omega
          clear h3
          rcases hv with hv | hv | hv | hv | hv
          · go_wp2_with (first
              | (go_at_call 17; refine (pshare_any hP _ (by omega)).mono ?_; rintro e w5 ⟨hx, hP5, hT5⟩; subst hx; have hT5' : Touch (Ours w.heap.size P) wr w5 := hT5.mono fun _ _ e => Or.inl e)
              | (go_at_call 25; refine (rpshare_any (hF.u' hT5') (hF.r' hT5') hB.few _ (by omega)).mono ?_; rintro e w6 ⟨hx, hU6, hT6⟩; subst hx))
            go_meet
            exact ⟨_, _, hF.step hP5 (hM.touch hT5 (by show ¬ _ = _; omega) (by show ¬ _ = _; omega)) hT5' hU6 ((hF.r' hT5').touch hT6 (by show ¬ _ = _; omega) (by show ¬ _ = _; omega) (by show ¬ _ = _; omega) (by show ¬ _ = _; omega)) (hT6.mono fun _ _ e => Or.inl e), hB.share f⟩
          · go_wp2_with (first
              | (go_at_call 17; refine (pshare_any hP _ (by omega)).mono ?_; rintro e w5 ⟨hx, hP5, hT5⟩; subst hx; have hT5' : Touch (Ours w.heap.size P) wr w5 := hT5.mono fun _ _ e => Or.inl e)
              | (go_at_call 25; refine (rpshare_any (hF.u' hT5') (hF.r' hT5') hB.few _ (by omega)).mono ?_; rintro e w6 ⟨hx, hU6, hT6⟩; subst hx))
            go_meet
            exact ⟨_, _, hF.step hP5 (hM.touch hT5 (by show ¬ _ = _; omega) (by show ¬ _ = _; omega)) hT5' hU6 ((hF.r' hT5').touch hT6 (by show ¬ _ = _; omega) (by show ¬ _ = _; omega) (by show ¬ _ = _; omega) (by show ¬ _ = _; omega)) (hT6.mono fun _ _ e => Or.inl e), hB.share f⟩
          · go_wp2_with (first
              | (go_at_call 16; refine (pgive_any hP hM _ (by omega)).mono ?_; rintro e w5 ⟨hx, hP5, hM5, hT5⟩; subst hx)
              | (go_at_call 26; refine (rpgive_any (hF.u' hT5) (hF.r' hT5) hB.few hl.off _ (by omega)).mono ?_; rintro e w6 ⟨hx, hU6, hR6, hT6⟩; subst hx))
            go_meet
            exact ⟨_, _, hF.step hP5 hM5 hT5 (by rw [MS.given_n]; exact hU6) hR6 hT6, by rw [MS.given_n]; exact hB.give f⟩
          · go_wp2_with (first
              | (go_at_call 16; refine (pgive_any hP hM _ (by omega)).mono ?_; rintro e w5 ⟨hx, hP5, hM5, hT5⟩; subst hx)
              | (go_at_call 26; refine (rpgive_any (hF.u' hT5) (hF.r' hT5) hB.few hl.off _ (by omega)).mono ?_; rintro e w6 ⟨hx, hU6, hR6, hT6⟩; subst hx))
            go_meet
            exact ⟨_, _, hF.step hP5 hM5 hT5 (by rw [MS.given_n]; exact hU6) hR6 hT6, by rw [MS.given_n]; exact hB.give f⟩
          · go_wp2_with (first
              | (go_at_call 20; refine (write_any hM _ _ (by first | omega | (rw [IntKind.wrap_i64]; omega) | (unfold wrap64; omega))).mono ?_; rintro e w5 ⟨hx, hM5, hT5⟩; subst hx; have hT5' : Touch (Ours w.heap.size P) wr w5 := hT5.mono fun _ _ e => Or.inr e)
              | (go_at_call 27; refine (rwrite_any (hF.r' hT5') _ _).mono ?_; rintro e w6 ⟨hx, hR6, hT6⟩; subst hx))
            go_meet
            exact ⟨_, _, hF.step (hP.touch hT5 (by show ¬ _ = _; omega)) hM5 hT5' (by rw [MS.write_n]; exact (hF.u' hT5').touch hT6 (by show ¬ _ = _; omega) (by show ¬ _ = _; omega)) hR6 (hT6.mono fun _ _ e => Or.inr (Or.inl e)), by rw [MS.write_n]; exact hB.same⟩
      case rest =>
      clear hF hB hub
      obtain ⟨s, R, hF, hB⟩ := hcut
      have hP := hF.p
      have hM := hF.m
      have hU := hF.u
      have hR := hF.r
      go_wp2_with (first
        | (go_at_call 12; refine (pleft_any hP hM).mono ?_; rintro e wq ⟨rfl, rfl⟩)
        | (go_at_call 28; refine (rpleft_any hU hR).mono ?_; rintro e wq ⟨rfl, rfl⟩)
        | (go_at_call 18; refine (prefs_any hP _).mono ?_; rintro e wq ⟨rfl, rfl⟩)
        | (go_at_call 29; refine (rof_any hU hR hB.few _).mono ?_; rintro e wq ⟨rfl, rfl⟩))
      go_roundg (78 - k)
      case measure => omega
      case rel => exact ⟨k + 2, by omega, by omega, by go_num, s, R, hF, hB.same⟩
    · have hP := hF.p
      have hM := hF.m
      have hR := hF.r
      by_cases hl : k + 1 < len1
      · have k1 : (k : Int) + 1 < len1 := by omega
        have k2 : decide ((k : Int) < 80) = false := by simp; omega
        go_wp2_with (first
          | (go_at_call 30; refine (same_any hM hR).mono ?_; rintro e w4 ⟨hx, hD4⟩; subst hx)
          | (go_at_call 19; refine (wakes3_any _).mono ?_; rintro e w9 ⟨rfl, hT9⟩))
        go_ret
        exact ⟨rfl, (hF.bel.trans ((hD4.touch (S := Nil)).below hF.bel.size (fun _ e => e.elim))).trans (hT9.below (Nat.le_trans hF.bel.size (hD4.touch (S := Nil)).size) (fun _ e => e.elim))⟩
      · have k1 : decide ((k : Int) + 1 < len1) = false := by simp; omega
        go_wp2_with (first
          | (go_at_call 30; refine (same_any hM hR).mono ?_; rintro e w4 ⟨hx, hD4⟩; subst hx)
          | (go_at_call 19; refine (wakes3_any _).mono ?_; rintro e w9 ⟨rfl, hT9⟩))
        go_ret
        exact ⟨rfl, (hF.bel.trans ((hD4.touch (S := Nil)).below hF.bel.size (fun _ e => e.elim))).trans (hT9.below (Nat.le_trans hF.bel.size (hD4.touch (S := Nil)).size) (fun _ e => e.elim))⟩
end Go.Proofs.Ytbnojbccaalnaaa

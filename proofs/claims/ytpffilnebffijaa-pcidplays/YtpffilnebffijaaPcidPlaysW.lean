/-
  The walk of PcidPlays.
-/
import Derived.Test.YtpffilnebffijaaRNamB
import Derived.Test.YtpffilnebffijaaSlices
import Derived.Deep.RegionHeld3
import Derived.Deep.QuietTactic
import Derived.BigQuiet
namespace Go.Proofs.Ytpffilnebffijaa
open Go.ChangeShapes Go.WideShapes Go.ChangeAt Go.RowKit

/-- The program's names and the document's, side by side. -/
structure NBo (w : World) (A B : Nat) (wr : World) (n : NS) : Prop where
  na : NAt wr A n
  ra : RNAt wr B n
  ok : n.OK
  a : w.heap.size ≤ A
  b : w.heap.size ≤ B
  ne : A ≠ B
  t : Touch Nil w wr
theorem NBo.nil {w wr wx : World} {A B : Nat} {n : NS} (h : NBo w A B wr n) (t : Touch Nil wr wx) : NBo w A B wx n :=
  ⟨h.na.touch t id, h.ra.touch t id, h.ok, h.a, h.b, h.ne, h.t.trans t⟩

set_option maxRecDepth 20000 in
set_option maxHeartbeats 8000000 in
theorem pcidPlays_walk (a0 : Int) (a1 : Option Addr) (len1 cap1 : Nat) (z1 : List Int) (w : World) (r1 : Row .i64 w a1 len1 cap1 z1) :
    Calls Try.prog 5 #[.int .i64 a0, .slice a1 len1 cap1] w fun e w' => e = .returned (.bool true) ∧ Touch Nil w w' := by
  obtain ⟨hm1, p1⟩ := r1.plain
  unfold maxLen at hm1
  clear r1
  go_enter Try.func5, Try.ntmps5
  go_upto_if 18 with fail
  go_cut [0] (fun v wx => ∃ c : Int, v = .int .i64 c ∧ w = wx)
  case first =>
    by_cases h5 : a0.tmod 5 = 4
    · go_wp2_with fail
      go_meet
      exact ⟨a0, rfl, rfl⟩
    · have h5' : (a0.tmod 5 != 4) = true := by simpa using h5
      go_wp2_with fail
      with_reducible refine (within_any a0 4 w (by decide) (by decide)).mono ?_
      rintro e wq ⟨rfl, rfl⟩
      go_wp2_with fail
      go_meet
      exact ⟨a0 % 4, rfl, rfl⟩
  case rest =>
    obtain ⟨c, rfl, rfl⟩ := hcut
    go_wp2_with fail
    with_reducible refine (nnew_any c w).mono ?_
    rintro e w1 ⟨rfl, h1, t1, s1⟩
    go_wp2_with fail
    with_reducible refine (rnnew_any c w1).mono ?_
    rintro e w2 ⟨rfl, h2, t2, s2⟩
    have hC0 : NBo w w.heap.size w1.heap.size w2 (NS.fresh (NS.cpus c)) := ⟨h1.touch t2 id, h2, NS.fresh_ok c, Nat.le_refl _, by omega, by omega, t1.trans t2⟩
    clear h1 h2 t1 t2 s1 s2
    generalize w1.heap.size = B at *
    go_wp2_with fail
    go_loopg [7] 90 (fun g i wr => ∃ (k : Nat) (n : NS), g + k = 90 ∧ k % 3 = 0 ∧ i = .int .i64 k ∧ NBo w w.heap.size B wr n ∧ n.g ≤ k)
    case atStart => exact ⟨0, _, by omega, by omega, rfl, hC0, Nat.le_refl _⟩
    case round =>
      clear hC0
      obtain ⟨k, n, hgk, hk3, rfl, hC, hg⟩ := hrel
      by_cases hgo : k + 2 < len1 ∧ k < 90
      · obtain ⟨hg1, hg2⟩ := hgo
        rcases p1 with p1 | ⟨b0, o0, rfl, hb0, hc0⟩
        · omega
        have hBel := hC.t.below (Nat.le_refl _) (fun _ e => e.elim)
        have c0 := Plain.cell hc0 hb0 hBel k (by omega)
        have c1 := Plain.cell hc0 hb0 hBel (k + 1) (by omega)
        have c2 := Plain.cell hc0 hb0 hBel (k + 2) (by omega)
        have f2 := bounds_i64 (hc0 (k + 2) (by omega)).2
        generalize z1.getD k 0 = y0 at c0
        generalize z1.getD (k + 1) 0 = y1 at c1
        generalize z1.getD (k + 2) 0 = y2 at c2 f2
        have k1 : (k : Int) + 2 < len1 := by omega
        have k2 : (k : Int) < 90 := by omega
        have k4 : (k : Int) + 1 < len1 := by omega
        have k5 : (k : Int) < len1 := by omega
        have u1 : (0 : Int) ≤ (k : Int) + 1 := by omega
        have u2 : (0 : Int) ≤ (k : Int) + 2 := by omega
        have v1 : IntKind.i64.wrap ((k : Int) + 1) = (k : Int) + 1 := by rw [IntKind.wrap_i64]; omega
        have v2 : IntKind.i64.wrap ((k : Int) + 2) = (k : Int) + 2 := by rw [IntKind.wrap_i64]; omega
        have v4 : IntKind.i64.wrap (y1 % 6 - 1) = y1 % 6 - 1 := by rw [IntKind.wrap_i64]; omega
        have v5 : IntKind.i64.wrap (y2 % 4 - 1) = y2 % 4 - 1 := by rw [IntKind.wrap_i64]; omega
        have v6 : IntKind.i64.wrap (y2.tdiv 4) = y2.tdiv 4 := by rw [IntKind.wrap_i64]; have := tdiv_two y2 4 (by omega); omega
        have v7 : IntKind.i64.wrap (y2.tdiv 4 % 6 - 1) = y2.tdiv 4 % 6 - 1 := by rw [IntKind.wrap_i64]; omega
        clear hBel f2
        go_upto_region 9 with fail
        go_quiet ((go_at_call 9; exact Calls.quiet_of_same (within_q' _ _ _ (by omega) (by omega))))
        go_upto_if 65 with fail
        have hC1 := hC.nil ((Touch.refl Nil wr).drews nq)
        clear hC v4 v5 v6 v7
        have c0' : (wr.drewN nq).cell? ⟨b0, o0 + k, none⟩ = some (.int .i64 y0) := c0
        have c1' : (wr.drewN nq).cell? ⟨b0, o0 + (k + 1), none⟩ = some (.int .i64 y1) := c1
        have c2' : (wr.drewN nq).cell? ⟨b0, o0 + (k + 2), none⟩ = some (.int .i64 y2) := c2
        clear c0 c1 c2
        generalize wr.drewN nq = W at *
        generalize y1 % 6 - 1 = p at *
        generalize y2 % 4 - 1 = c at *
        generalize y2.tdiv 4 % 6 - 1 = kk at *
        go_cut [8, 9, 10] (fun vp vc vk wx => ∃ p c kk : Int, vp = .int .i64 p ∧ vc = .int .i64 c ∧ vk = .int .i64 kk ∧ Touch Nil W wx ∧ wx.cell? ⟨b0, o0 + k, none⟩ = some (.int .i64 y0))
        case first =>
          cases h30 : (y0.tmod 31 == 30)
          · go_wp2_with fail
            go_meet
            exact ⟨p, c, kk, rfl, rfl, rfl, Touch.refl _ _, c0'⟩
          · go_upto_region 11 with fail
            go_quiet (fail)
            go_wp2_with fail
            go_meet
            exact ⟨y1, y2, y1, rfl, rfl, rfl, (Touch.refl Nil W).drews nq, c0'⟩
        case rest =>
        clear c0' c1' c2'
        obtain ⟨p, c, kk, rfl, rfl, rfl, tW, c0⟩ := hcut
        have hC := hC1.nil tW
        clear hC1 tW
        go_wp2_with fail
        with_reducible refine (within_any y0 12 _ (by decide) (by decide)).mono ?_
        rintro e wq ⟨rfl, rfl⟩
        have v0 := Int.emod_nonneg y0 (b := 12) (by omega)
        have v12 := Int.emod_lt_of_pos y0 (b := 12) (by omega)
        generalize y0 % 12 = v at *
        clear c0
        go_upto_block 2 with fail
        go_cut [95] (fun _ wx => ∃ n : NS, NBo w w.heap.size B wx n ∧ n.g ≤ k + 1)
        case first =>
          obtain ⟨hN, hR, ok, ha, hb, hne, hT⟩ := hC
          rcases (by omega : (v = 0 ∨ v = 1 ∨ v = 2 ∨ v = 3) ∨ v = 4 ∨ (v = 5 ∨ v = 6) ∨ v = 7 ∨ 8 ≤ v) with hv | hv | hv | hv | hv
          · have okO := ok.ofN p
            have gO : (n.ofN p).g ≤ k + 1 := by have := NS.g_of n p; split at this <;> omega
            rcases hv with hv | hv | hv | hv
            all_goals
              subst hv
              go_wp2_with fail
              with_reducible refine (nof_any hN (by omega) p).mono ?_
              rintro e w4 ⟨rfl, hN4, t4⟩
              have hR4 := hR.touch t4 (fun e => hne e.symm)
              have T4 := hT.transNew t4 (fun i hi e => by omega)
              clear hN hR hT t4
              go_wp2_with fail
              with_reducible refine (rnof_any hR4 (by omega) p).mono ?_
              rintro e w5 ⟨rfl, hR5, t5⟩
              have hE : NBo w w.heap.size B w5 (n.ofN p) := ⟨hN4.touch t5 hne, hR5, okO, ha, hb, hne, T4.transNew t5 (fun i hi e => by omega)⟩
              clear hN4 hR4 T4 hR5 t5
              go_wp2_with fail
              go_meet
              exact ⟨_, hE, gO⟩
          · subst hv
            have gO : (n.drop p).g ≤ k + 1 := by
              unfold NS.drop; split
              · omega
              · rw [NS.all_g]; show n.g ≤ k + 1; omega
            go_wp2_with fail
            with_reducible refine (ndrop_any hN ok p).mono ?_
            rintro e w4 ⟨rfl, hN4, t4⟩
            have hR4 := hR.touch t4 (fun e => hne e.symm)
            have T4 := hT.transNew t4 (fun i hi e => by omega)
            go_wp2_with fail
            with_reducible refine (rndrop_any hR4 ok p).mono ?_
            rintro e w5 ⟨rfl, hR5, t5⟩
            have hE : NBo w w.heap.size B w5 (n.drop p) := ⟨hN4.touch t5 hne, hR5, ok.drop p, ha, hb, hne, T4.transNew t5 (fun i hi e => by omega)⟩
            clear hN hR hT t4 hN4 hR4 T4 hR5 t5
            go_wp2_with fail
            go_meet
            exact ⟨_, hE, gO⟩
          · rcases hv with hv | hv
            all_goals
              subst hv
              go_wp2_with fail
              with_reducible refine (nmust_any hN ok c kk).mono ?_
              rintro e w4 ⟨rfl, hN4, t4⟩
              have hR4 := hR.touch t4 (fun e => hne e.symm)
              have T4 := hT.transNew t4 (fun i hi e => by omega)
              go_wp2_with fail
              with_reducible refine (rnmust_any hR4 ok c kk).mono ?_
              rintro e w5 ⟨rfl, hR5, t5⟩
              have hE : NBo w w.heap.size B w5 (n.must c kk) := ⟨hN4.touch t5 hne, hR5, ok.must c kk, ha, hb, hne, T4.transNew t5 (fun i hi e => by omega)⟩
              clear hN hR hT t4 hN4 hR4 T4 hR5 t5
              go_wp2_with fail
              go_meet
              exact ⟨_, hE, by rw [NS.must_g]; omega⟩
          · subst hv
            go_wp2_with fail
            with_reducible refine (nall_any hN ok kk).mono ?_
            rintro e w4 ⟨rfl, hN4, t4⟩
            have hR4 := hR.touch t4 (fun e => hne e.symm)
            have T4 := hT.transNew t4 (fun i hi e => by omega)
            go_wp2_with fail
            with_reducible refine (rnall_any hR4 ok kk).mono ?_
            rintro e w5 ⟨rfl, hR5, t5⟩
            have hE : NBo w w.heap.size B w5 (n.all kk) := ⟨hN4.touch t5 hne, hR5, ok.all kk, ha, hb, hne, T4.transNew t5 (fun i hi e => by omega)⟩
            clear hN hR hT t4 hN4 hR4 T4 hR5 t5
            go_wp2_with fail
            go_meet
            exact ⟨_, hE, by rw [NS.all_g]; omega⟩
          · have e0 : (v == 0) = false := by simp; omega
            have e1 : (v == 1) = false := by simp; omega
            have e2 : (v == 2) = false := by simp; omega
            have e3 : (v == 3) = false := by simp; omega
            have e4 : (v == 4) = false := by simp; omega
            have e5 : (v == 5) = false := by simp; omega
            have e6 : (v == 6) = false := by simp; omega
            have e7 : (v == 7) = false := by simp; omega
            have hX := ntake_any hN ok c kk
            have hY := fun wx (h : RNAt wx B n) => rntake_any h ok c kk
            obtain ⟨b, hb'⟩ : ∃ b, Hid (n.took c kk = b) := ⟨_, rfl⟩
            rw [hb'.out] at hX hY
            go_wp2_with fail
            with_reducible refine hX.mono ?_
            rintro e w4 ⟨rfl, hN4, t4⟩
            have hR4 := hR.touch t4 (fun e => hne e.symm)
            have T4 := hT.transNew t4 (fun i hi e => by omega)
            go_wp2_with fail
            with_reducible refine (hY _ hR4).mono ?_
            rintro e w5 ⟨rfl, hR5, t5⟩
            have hE : NBo w w.heap.size B w5 (n.take c kk) := ⟨hN4.touch t5 hne, hR5, ok.take c kk, ha, hb, hne, T4.transNew t5 (fun i hi e => by omega)⟩
            clear hN hR hT t4 hN4 hR4 T4 hR5 t5 hX hY
            go_wp2_with fail
            go_meet
            exact ⟨_, hE, by rw [NS.take_g]; omega⟩
        case rest =>
        clear hC v0 v12 hg
        obtain ⟨n, hC, hg⟩ := hcut
        have hgc := hC.ra.gC
        have hgd : (wc.drew).cell? ⟨B, 13, none⟩ = some (.int .i64 n.g) := hgc
        have hNd : NAt wc.drew w.heap.size n := hC.na
        have hG := ngen_any hNd
        obtain ⟨gg, hgg⟩ : ∃ gg : Int, Hid ((n.g : Int) = gg) := ⟨_, rfl⟩
        rw [hgg.out] at hgc hgd hG
        go_upto_region 33 with fail
        go_region_held3 (fun wx => wx.cell? ⟨B, 13, none⟩ = some (.int .i64 gg)) (first | exact hgc | exact hgd)
          (first | (go_at_call 33; refine hG.mono ?_; rintro e w6 ⟨hx, hw6⟩; subst hx; subst hw6))
        have hC6 := hC.nil ((Touch.refl Nil wc).drew)
        clear hgc hgd hNd hG hC
        generalize wc.drew = W6 at *
        go_wp2_with fail
        go_loopg [15] 6 (fun g i wx => ∃ j : Nat, g + j = 6 ∧ i = .int .i64 ((j : Int) - 1) ∧ W6 = wx)
        case atStart => exact ⟨0, by omega, by go_num, rfl⟩
        case round =>
          obtain ⟨j, hgj, rfl, rfl⟩ := hrel
          by_cases hj : j < 6
          · have j1 : (j : Int) - 1 ≤ 4 := by omega
            have hP := npair_any hC6.na ((j : Int) - 1)
            have hQ := rnpair_any hC6.ra ((j : Int) - 1)
            generalize (n.pair ((j : Int) - 1) : Int) = y at *
            go_wp2_with fail
            with_reducible refine hP.mono ?_
            rintro e wq ⟨rfl, rfl⟩
            go_wp2_with fail
            with_reducible refine hQ.mono ?_
            rintro e wq ⟨rfl, rfl⟩
            go_wp2_with fail
            go_roundg (5 - j)
            case measure => omega
            case rel => exact ⟨j + 1, by omega, by go_num, rfl⟩
          · have hj6 : j = 6 := by omega
            subst hj6
            go_wp2_with fail
            go_roundg (87 - k)
            case measure => omega
            case rel => exact ⟨k + 3, n, by omega, by omega, by go_num, hC6, by omega⟩
      · have hq : (¬ k + 2 < len1 ∧ decide ((k : Int) + 2 < len1) = false) ∨ (k + 2 < len1 ∧ (k : Int) + 2 < len1 ∧ decide ((k : Int) < 90) = false) := by
          by_cases hl : k + 2 < len1
          · exact Or.inr ⟨hl, by omega, by simp; omega⟩
          · exact Or.inl ⟨hl, by simp; omega⟩
        have hT := hC.t
        clear p1 hC hg hgo
        rcases hq with ⟨q0, q1⟩ | ⟨q0, q1, q2⟩ <;>
        · go_wp2_with fail
          with_reducible refine (wakes11 _).mono ?_
          rintro e w9 ⟨rfl, t9⟩
          have T9 := hT.trans t9
          go_wp2_with fail
          go_ret
          exact ⟨rfl, T9⟩
end Go.Proofs.Ytpffilnebffijaa

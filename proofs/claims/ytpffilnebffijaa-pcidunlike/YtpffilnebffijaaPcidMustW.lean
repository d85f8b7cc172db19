/-
  The walk of PcidMust.
-/
import Derived.Test.YtpffilnebffijaaNamM
import Derived.Deep.RegionHeld3
import Derived.Deep.QuietTactic
import Derived.BigQuiet
namespace Go.Proofs.Ytpffilnebffijaa
open Go.ChangeShapes Go.WideShapes Go.ChangeAt Go.RowKit Go.Maps Go.WideMaps

/-- Two CPUs' names, and a map that tells what must be flushed, in block B. -/
structure PmI (w : World) (B m : Nat) (wr : World) (n : NS) (D : DataW Unit) : Prop where
  na : NAt wr w.heap.size n
  ok : n.OK
  c2 : n.c = 2
  o : PM wr B m D
  b : w.heap.size + 1 ≤ B
  d : PMof D n.took
  t : Touch Nil w wr
theorem PmI.nil {w wr wx : World} {B m : Nat} {n : NS} {D : DataW Unit} (h : PmI w B m wr n D) (t : Touch Nil wr wx) : PmI w B m wx n D :=
  ⟨h.na.touch t id, h.ok, h.c2, ownsMap_touch h.o t id, h.b, h.d, h.t.trans t⟩
/-- Behind each pair ahead of (c, k) was asked for. -/
structure PmE (w : World) (B m : Nat) (wr : World) (n : NS) (D : DataW Unit) (c k : Int) : Prop where
  na : NAt wr w.heap.size n
  ok : n.OK
  c2 : n.c = 2
  o : PM wr B m D
  b : w.heap.size + 1 ≤ B
  d : ∀ c' k', smI c' → smI k' → (c < c' ∨ c = c' ∧ k ≤ k') → PMat D c' k' (n.took c' k')
  t : Touch Nil w wr
  g : n.g = 0
theorem PmE.step {w wr : World} {B m : Nat} {n : NS} {D : DataW Unit} {c k : Int} (h : PmE w B m wr n D c k) (_ : smI c) (_ : smI k) {wx : World} (hN : NAt wx w.heap.size (n.take c k)) (t : Touch (· = w.heap.size) wr wx) : PmE w B m wx (n.take c k) D c (k + 1) :=
  ⟨hN, h.ok.take _ _, by rw [NS.take_c]; exact h.c2, ownsMap_touch h.o t (fun e => by have := h.b; omega), h.b, fun c' k' h1 h2 h3 => by
    rw [NS.took_take, if_neg (by omega)]; exact h.d c' k' h1 h2 (by omega), h.t.transNew t (fun i hi e => by omega), by rw [NS.take_g]; exact h.g⟩
theorem PmE.next {w wr : World} {B m : Nat} {n : NS} {D : DataW Unit} {c k k' : Int} (h : PmE w B m wr n D c k) : PmE w B m wr n D (c + 1) k' :=
  ⟨h.na, h.ok, h.c2, h.o, h.b, fun c' k' h1 h2 h3 => h.d c' k' h1 h2 (by omega), h.t, h.g⟩
theorem cpu_has {n : NS} (h : n.c = 2) (c : Int) : n.hasC c = true ↔ 0 ≤ c ∧ c < 2 := by rw [NS.hasC_iff, h]; omega

set_option maxRecDepth 20000 in
set_option maxHeartbeats 4000000 in
theorem pcidMust_walk (a0 : Option Addr) (len0 cap0 : Nat) (z0 : List Int) (w : World) (r0 : Row .i64 w a0 len0 cap0 z0) :
    Calls Try.prog 7 #[.slice a0 len0 cap0] w fun e w' => e = .returned (.bool true) ∧ Touch Nil w w' := by
  obtain ⟨hm0, p0⟩ := r0.plain
  unfold maxLen at hm0
  clear r0
  have hmm := @run_makeMap Try.prog
  go_enter Try.func7, Try.ntmps7
  go_wp2_with fail
  with_reducible refine (nnew_any 2 w).mono ?_
  rintro e w1 ⟨rfl, h1, t1, s1⟩
  rw [show NS.cpus 2 = 2 from rfl] at h1
  go_wp2_with fail
  have hC0 : PmI w (w.heap.size + 1) 0 (w1.alloc (.map #[] 0)) (NS.fresh 2) (.map []) := by
    refine ⟨h1.touch ((Touch.refl Nil w1).alloc _) id, NS.fresh_ok 2, rfl, ?_, Nat.le_refl _, PMof.empty.congr (fun c k => by unfold NS.took; simp [NS.fresh]), t1.alloc _⟩
    have := World.ownsMap_made (H := Unit) w1 Try.prog 83 (plainElem Try.prog 4)
    rwa [s1] at this
  clear h1 t1 s1 hmm
  obtain ⟨B, hB⟩ : ∃ B, w.heap.size + 1 = B := ⟨_, rfl⟩
  rw [hB] at hC0
  try rw [hB]
  clear hB
  go_loopg [5] 50 (fun g i wr => ∃ (k : Nat) (n : NS) (D : DataW Unit), g + k = 50 ∧ i = .int .i64 k ∧ PmI w B (2 * k) wr n D ∧ n.g = 0)
  case atStart => exact ⟨0, _, _, by omega, rfl, hC0, rfl⟩
  case round =>
    clear hC0
    obtain ⟨k, n, D, hgk, rfl, hC, hg0⟩ := hrel
    by_cases hgo : k < len0 ∧ k < 50
    · obtain ⟨hg1, hg2⟩ := hgo
      rcases p0 with p0 | ⟨b0, o0, rfl, hb0, hc0⟩
      · omega
      have c0 := Plain.cell hc0 hb0 (hC.t.below (Nat.le_refl _) (fun _ e => e.elim)) k (by omega)
      have f0 := bounds_i64 (hc0 k (by omega)).2
      generalize z0.getD k 0 = y0 at c0 f0
      have k1 : (k : Int) < len0 := by omega
      have k2 : (k : Int) < 50 := by omega
      have q4 : IntKind.i64.wrap (y0.tdiv 4) = y0.tdiv 4 := by rw [IntKind.wrap_i64]; have := tdiv_two y0 4 (by omega); omega
      have q8 : IntKind.i64.wrap (y0.tdiv 8) = y0.tdiv 8 := by rw [IntKind.wrap_i64]; have := tdiv_two y0 8 (by omega); omega
      have v1 : IntKind.i64.wrap (1 + y0.tdiv 8 % 3) = 1 + y0.tdiv 8 % 3 := by rw [IntKind.wrap_i64]; omega
      go_upto_region 8 with fail
      go_quiet ((go_at_call 9; exact Calls.quiet_of_same (within_q' _ _ _ (by omega) (by omega))))
      go_wp2_with fail
      have hC1 := hC.nil ((Touch.refl Nil wr).drews nq)
      clear hC q4 q8 v1
      generalize wr.drewN nq = W at *
      have c1 := Int.emod_nonneg (y0.tdiv 4) (b := 2) (by omega)
      have c2 := Int.emod_lt_of_pos (y0.tdiv 4) (b := 2) (by omega)
      have e1 := Int.emod_nonneg (y0.tdiv 8) (b := 3) (by omega)
      have e2 := Int.emod_lt_of_pos (y0.tdiv 8) (b := 3) (by omega)
      have hCC : n.hasC (y0.tdiv 4 % 2) = true := (cpu_has hC1.c2 _).2 ⟨c1, c2⟩
      have hKK : NS.isPr (1 + y0.tdiv 8 % 3) = true := (NS.isPr_iff _).2 ⟨by omega, by omega⟩
      have sC : smI (y0.tdiv 4 % 2) := by unfold smI; omega
      have sK : smI (1 + y0.tdiv 8 % 3) := by unfold smI; omega
      generalize y0.tdiv 4 % 2 = cc at *
      generalize 1 + y0.tdiv 8 % 3 = kk at *
      clear c1 c2 e1 e2
      with_reducible refine (within_any y0 4 W (by decide) (by decide)).mono ?_
      rintro e wq ⟨rfl, rfl⟩
      have v0 := Int.emod_nonneg y0 (b := 4) (by omega)
      have v4 := Int.emod_lt_of_pos y0 (b := 4) (by omega)
      generalize y0 % 4 = v at *
      clear c0 f0
      go_upto_block 2 with fail
      · obtain ⟨hN, ok, hc2, hO, hB, hd, hT⟩ := hC1
        have tD := hO.tidy law2
        have hBn : w.heap.size ≠ B := by omega
        rcases (by omega : v = 0 ∨ v = 1 ∨ v = 2 ∨ v = 3) with hv | hv | hv
        · subst hv
          go_wp2_with fail
          with_reducible refine (nmust_any hN ok cc kk).mono ?_
          rintro e w4 ⟨rfl, hN4, t4⟩
          have hO4 := ownsMap_touch hO t4 (fun e => hBn e.symm)
          have T4 := hT.transNew t4 (fun i hi e => by omega)
          clear hN hO hT t4
          go_wp2_with (first
            | (at_mapUpdate; refine wpList_mapUpdate_own _ rfl _ _ _ 82 rfl 83 4 law2 Try.underlying82 _ B (2 * k) _ rfl hO4 (by unfold maxLen; omega) _ _ _ rfl rfl (key2 cc kk (by first | assumption | (unfold smI; omega)) (by first | assumption | (unfold smI; omega))) _ [] (plainElem_bool Try.underlying4 true) ?_; intro w8 hO8 hG8)
            | go_in)
          have t8 := Touch.ofGrown hG8
          have hE : PmI w B (2 * (k + 1)) w8 (n.must cc kk) _ := ⟨hN4.touch t8 hBn, ok.must _ _, by rw [NS.must_c]; exact hc2, hO8.mono (by omega), hB, (hd.put tD sC sK true).congr (fun c k => (NS.took_must hCC hKK c k).symm), T4.transNew t8 (fun i hi e => by omega)⟩
          go_roundg (49 - k)
          case measure => omega
          case rel => exact ⟨k + 1, _, _, by omega, by go_num, hE, by rw [NS.must_g]; exact hg0⟩
        · subst hv
          go_wp2_with fail
          with_reducible refine (nall_any hN ok kk).mono ?_
          rintro e w4 ⟨rfl, hN4, t4⟩
          have hO4 := ownsMap_touch hO t4 (fun e => hBn e.symm)
          have T4 := hT.transNew t4 (fun i hi e => by omega)
          clear hN hO hT t4
          go_wp2_with (first
            | (at_mapUpdate; refine wpList_mapUpdate_own _ rfl _ _ _ 82 rfl 83 4 law2 Try.underlying82 _ B (2 * k) _ rfl hO4 (by unfold maxLen; omega) _ _ _ rfl rfl (key2 0 kk (by first | assumption | (unfold smI; omega)) (by first | assumption | (unfold smI; omega))) _ [] (plainElem_bool Try.underlying4 true) ?_; intro w8 hO8 hG8)
            | (at_mapUpdate; refine wpList_mapUpdate_own _ rfl _ _ _ 82 rfl 83 4 law2 Try.underlying82 _ B (2 * k + 1) _ rfl hO8 (by unfold maxLen; omega) _ _ _ rfl rfl (key2 1 kk (by first | assumption | (unfold smI; omega)) (by first | assumption | (unfold smI; omega))) _ [] (plainElem_bool Try.underlying4 true) ?_; intro w9 hO9 hG9)
            | go_in)
          have t9 := (Touch.ofGrown hG8).trans (Touch.ofGrown hG9)
          have s0 : smI 0 := by unfold smI; omega
          have s1 : smI 1 := by unfold smI; omega
          have D1 := hd.put tD s0 sK true
          have D2 := D1.put (hO8.tidy law2) s1 sK true
          have hE : PmI w B (2 * (k + 1)) w9 (n.all kk) ((D.put (pkL 0 kk) (.lit (.bool true))).put (pkL 1 kk) (.lit (.bool true))) := by
            refine ⟨hN4.touch t9 hBn, ok.all _, by rw [NS.all_c]; exact hc2, hO9.mono (by omega), hB, D2.congr (fun c k => ?_), T4.transNew t9 (fun i hi e => by omega)⟩
            rw [NS.took_all hKK]
            have := cpu_has hc2 c
            by_cases hk : k = kk
            · by_cases h0 : c = 0
              · rw [if_pos (show n.hasC c = true ∧ k = kk from ⟨this.2 (by omega), hk⟩), if_neg (by omega), if_pos ⟨h0, hk⟩]
              · by_cases h1 : c = 1
                · rw [if_pos (show n.hasC c = true ∧ k = kk from ⟨this.2 (by omega), hk⟩), if_pos ⟨h1, hk⟩]
                · rw [if_neg (show ¬ (n.hasC c = true ∧ k = kk) from fun q => by have := this.1 q.1; omega), if_neg (by omega), if_neg (by omega)]
            · rw [if_neg (fun q => hk q.2), if_neg (fun q => hk q.2), if_neg (fun q => hk q.2)]
          go_roundg (49 - k)
          case measure => omega
          case rel => exact ⟨k + 1, _, _, by omega, by go_num, hE, by rw [NS.all_g]; exact hg0⟩
        · have hlk : ∀ wx, PM wx B (2 * k) D → (Instr.lookup 82 (.map (some B)) (.agg #[.int .i64 cc, .int .i64 kk]) false).run Try.prog wx = .ok (.bool (n.took cc kk)) wx := fun wx h => h.look sC sK (hd cc kk sC sK)
          have hl0 := hlk _ hO
          have hl0d := hlk _ hO.drew
          have hNd : NAt W.drew w.heap.size n := hN
          have hT1 := ntake_any hNd ok cc kk
          have hT2 := fun wx (h : NAt wx w.heap.size (n.take cc kk)) => ntake_any h (ok.take cc kk) cc kk
          have e2 : (n.take cc kk).took cc kk = false := by rw [NS.took_take, if_pos ⟨rfl, rfl⟩]
          rw [e2, NS.take_twice e2] at hT2
          have hDel := hd.del sC sK
          obtain ⟨b, hb⟩ : ∃ b, Hid (n.took cc kk = b) := ⟨_, rfl⟩
          rw [hb.out] at hT1 hl0 hl0d hlk
          go_upto_region 10 with fail
          go_region_held3 (fun wx => (Instr.lookup 82 (.map (some B)) (.agg #[.int .i64 cc, .int .i64 kk]) false).run Try.prog wx = .ok (.bool b) wx) (first | exact hl0 | exact hl0d | exact hl5 | exact hl6)
            (first
              | (go_at_call 32; refine hT1.mono ?_; rintro e w5 ⟨hx, hN5, t5⟩; subst hx; have hO5 := ownsMap_touch hO.drew t5 (fun e => hBn e.symm); have hl5 := hlk _ hO5)
              | (go_at_call 32; refine (hT2 _ hN5).mono ?_; rintro e w6 ⟨hx, hN6, t6⟩; subst hx; have hO6 := ownsMap_touch hO5 t6 (fun e => hBn e.symm); have hl6 := hlk _ hO6))
          all_goals
            have T5 := ((Touch.refl (· = w.heap.size) W).drew.trans t5).trans t6
            have T6 := hT.transNew T5 (fun i hi e => by omega)
            clear hl0 hl0d hl5 hl6 hlk hN hO hO5 hT T5 t5 t6 hN5 hT1 hT2 hNd e2
            go_wp2_with (first
              | (at_delete; refine wpList_delete_own _ rfl _ _ 82 83 rfl 4 law2 Try.underlying82 _ B (2 * k) _ rfl hO6 _ _ rfl (key2 cc kk sC sK) ?_; intro w9 hO9 hG9)
              | go_in)
            have t9 := Touch.ofGrown hG9.grown
            have hE : PmI w B (2 * (k + 1)) w9 (n.take cc kk) (D.del (pkL cc kk)) := ⟨hN6.touch t9 hBn, ok.take _ _, by rw [NS.take_c]; exact hc2, hO9.mono (by omega), hB, hDel.congr (fun c k => (NS.took_take n cc kk c k).symm), T6.transNew t9 (fun i hi e => by omega)⟩
            go_roundg (49 - k)
            case measure => omega
            case rel => exact ⟨k + 1, _, _, by omega, by go_num, hE, by rw [NS.take_g]; exact hg0⟩
    · have hq : (¬ k < len0 ∧ decide ((k : Int) < len0) = false) ∨ (k < len0 ∧ (k : Int) < len0 ∧ decide ((k : Int) < 50) = false) := by
        by_cases hl : k < len0
        · exact Or.inr ⟨hl, by omega, by simp; omega⟩
        · exact Or.inl ⟨hl, by simp; omega⟩
      have hE0 : PmE w B (2 * k) wr n D (-1) (-1) := ⟨hC.na, hC.ok, hC.c2, hC.o, hC.b, fun c' k' h1 h2 _ => hC.d c' k' h1 h2, hC.t, hg0⟩
      clear p0 hC hg0 hgo
      rcases hq with ⟨q0, q1⟩ | ⟨q0, q1, q2⟩ <;>
      · go_wp2_with fail
        go_loopg [8] 4 (fun g c wx => ∃ (j : Nat) (n : NS), g + j = 4 ∧ c = .int .i64 ((j : Int) - 1) ∧ PmE w B (2 * k) wx n D ((j : Int) - 1) (-1))
        case atStart => exact ⟨0, n, by omega, rfl, hE0⟩
        case round =>
          clear hE0
          obtain ⟨j, n, hgj, rfl, hE⟩ := hrel
          by_cases hj : j < 4
          · have j1 : (j : Int) - 1 < 3 := by omega
            go_wp2_with fail
            go_loopg [9] 7 (fun g c wx => ∃ (m : Nat) (n : NS), g + m = 7 ∧ c = .int .i64 ((m : Int) - 1) ∧ PmE w B (2 * k) wx n D ((j : Int) - 1) ((m : Int) - 1))
            case atStart => exact ⟨0, n, by omega, rfl, hE⟩
            case round =>
              clear hE
              obtain ⟨m, n, hgm, rfl, hE⟩ := hrel
              by_cases hm : m < 7
              · have m1 : (m : Int) - 1 < 6 := by omega
                have m2 : IntKind.i64.wrap ((m : Int) - 1 + 1) = ((m + 1 : Nat) : Int) - 1 := by rw [IntKind.wrap_i64]; omega
                have sC : smI ((j : Int) - 1) := by unfold smI; omega
                have sK : smI ((m : Int) - 1) := by unfold smI; omega
                have hs := fun (wx : World) (h : NAt wx w.heap.size (n.take ((j : Int) - 1) ((m : Int) - 1))) (t : Touch (· = w.heap.size) wr wx) => hE.step sC sK h t
                have hd0 := hE.d _ _ sC sK (Or.inr ⟨rfl, Int.le_refl _⟩)
                have hBn : B ≠ w.heap.size := by have := hE.b; omega
                have hlk : ∀ wx, PM wx B (2 * k) D → (Instr.lookup 82 (.map (some B)) (.agg #[.int .i64 ((j : Int) - 1), .int .i64 ((m : Int) - 1)]) false).run Try.prog wx = .ok (.bool (n.took ((j : Int) - 1) ((m : Int) - 1))) wx := fun wx h => h.look sC sK hd0
                have hl0 := hlk _ hE.o
                have hl0d := hlk _ hE.o.drew
                have hNd : NAt wr.drew w.heap.size n := hE.na
                have hOd : PM wr.drew B (2 * k) D := hE.o
                have hT1 := ntake_any hNd hE.ok ((j : Int) - 1) ((m : Int) - 1)
                have tw := (Touch.refl (· = w.heap.size) wr).drew
                obtain ⟨b, hb⟩ : ∃ b, Hid (n.took ((j : Int) - 1) ((m : Int) - 1) = b) := ⟨_, rfl⟩
                rw [hb.out] at hT1 hl0 hl0d hlk
                clear hE hd0
                go_upto_region 25 with fail
                go_region_held3 (fun wx => (Instr.lookup 82 (.map (some B)) (.agg #[.int .i64 ((j : Int) - 1), .int .i64 ((m : Int) - 1)]) false).run Try.prog wx = .ok (.bool b) wx) (first | exact hl0 | exact hl0d | exact hl5)
                  (first
                    | (go_at_call 32; refine hT1.mono ?_; rintro e w5 ⟨hx, hN5, t5⟩; subst hx; have hO5 := ownsMap_touch hOd t5 hBn; have hl5 := hlk _ hO5))
                all_goals
                  have hE5 := hs _ hN5 (tw.trans t5)
                  clear hl0 hl0d hl5 hlk hN5 hOd hNd hO5 hT1 t5 tw hs
                  go_wp2_with fail
                  go_roundg (6 - m)
                  case measure => omega
                  case rel => exact ⟨m + 1, _, by omega, by go_num, by rw [show ((m + 1 : Nat) : Int) - 1 = (m : Int) - 1 + 1 by omega]; exact hE5⟩
              · have hm7 : m = 7 := by omega
                subst hm7
                have hE5 := PmE.next (k' := -1) hE
                clear hE
                go_wp2_with fail
                go_roundg (3 - j)
                case measure => omega
                case rel => exact ⟨j + 1, _, by omega, by go_num, by rw [show ((j + 1 : Nat) : Int) - 1 = (j : Int) - 1 + 1 by omega]; exact hE5⟩
          · have hj4 : j = 4 := by omega
            subst hj4
            have hG := ngen_any hE.na
            rw [hE.g] at hG
            go_wp2_with fail
            with_reducible refine hG.mono ?_
            rintro e wq ⟨rfl, rfl⟩
            go_wp2_with fail
            with_reducible refine (wakes11 _).mono ?_
            rintro e w9 ⟨rfl, t9⟩
            have T9 := hE.t.trans t9
            go_wp2_with fail
            go_ret
            exact ⟨rfl, T9⟩
end Go.Proofs.Ytpffilnebffijaa

/-
  The walk of PcidUnlike.
-/
import Derived.Test.YtpffilnebffijaaPcidMustW
namespace Go.Proofs.Ytpffilnebffijaa
open Go.ChangeShapes Go.WideShapes Go.ChangeAt Go.RowKit Go.Maps Go.WideMaps

/-- No two processes have one pair. -/
def NS.Uq (n : NS) : Prop := ∀ i j, i < 4 → j < 4 → n.P i = n.P j → n.P i ≠ 0 → i = j
/-- What Of leaves. -/
structure OfF (n : NS) (F K : Nat) (A : Bool) (n' : NS) : Prop where
  k1 : 1 ≤ K
  k3 : K ≤ 3
  own : n'.P F = K
  ne : ∀ q, q < 4 → q ≠ F → n'.P q ≠ K
  zero : A = true → ∀ q, q < 4 → q ≠ F → n'.P q = 0
  same : A = false → n'.took = n.took
  none : A = true → n'.took = fun _ _ => false
  g : n'.g = n.g + if A = true then 1 else 0
  uq : n'.Uq
  c : n'.c = n.c
theorem had_no {n : NS} {k : Nat} (h : n.had k = false) (q : Nat) (hq : q < 4) : n.P q ≠ k := fun e => by
  have := (had_iff n k).2 ⟨q, hq, by omega⟩
  rw [h] at this; cases this
theorem ofF {n : NS} (ok : n.OK) (uq : n.Uq) {F : Nat} (hF : F < 4) : OfF n F (n.ofP F) (n.ofA F) (n.ofN F) := by
  have hp : NS.isP (F : Int) = true := (NS.isP_iff _).2 ⟨by omega, by omega⟩
  have hp' : ¬ NS.isP (F : Int) = false := by rw [hp]; decide
  have hg := NS.g_of n F
  by_cases hz : n.P F = 0
  · by_cases hf : n.free = 0
    · have e1 : n.ofP F = 1 := by unfold NS.ofP; rw [if_neg hp', Int.toNat_natCast, if_neg (fun q => q hz), if_neg (fun q => q hf)]
      have e2 : n.ofA F = true := by unfold NS.ofA; rw [hp, Int.toNat_natCast, hz, hf]; rfl
      have e3 : n.ofN F = n.renew.put F 1 := by unfold NS.ofN; rw [if_neg hp', Int.toNat_natCast, if_neg (fun q => q hz), if_neg (fun q => q hf)]
      rw [e3, e2] at hg
      rw [e1, e2, e3]
      have hP : ∀ q, (n.renew.put F 1).P q = if q = F then 1 else 0 := fun q => rfl
      refine ⟨by omega, by omega, by rw [hP, if_pos rfl], fun q _ hne => by rw [hP, if_neg hne]; omega, fun _ q _ hne => by rw [hP, if_neg hne], (fun h => by cases h), fun _ => ?_, hg, fun i j _ _ h1 h2 => ?_, rfl⟩
      · funext c k; unfold NS.took; simp [NS.put, NS.renew]
      · rw [hP, hP] at h1; rw [hP] at h2
        by_cases a : i = F
        · by_cases b : j = F
          · omega
          · rw [if_pos a, if_neg b] at h1; omega
        · rw [if_neg a] at h2; omega
    · have e1 : n.ofP F = n.free := by unfold NS.ofP; rw [if_neg hp', Int.toNat_natCast, if_neg (fun q => q hz), if_pos hf]
      have e2 : n.ofA F = false := by unfold NS.ofA; rw [Int.toNat_natCast, hp, hz]; simp; exact hf
      have e3 : n.ofN F = n.put F n.free := by unfold NS.ofN; rw [if_neg hp', Int.toNat_natCast, if_neg (fun q => q hz), if_pos hf]
      rw [e3, e2] at hg
      rw [e1, e2, e3]
      obtain ⟨a, _⟩ | ⟨a1, a2, a3, _⟩ := free_spec n
      · exact absurd a hf
      have hno := had_no a3
      generalize n.free = K at *
      have hP : ∀ q, (n.put F K).P q = if q = F then K else n.P q := fun q => rfl
      refine ⟨a1, a2, by rw [hP, if_pos rfl], fun q hq hne => by rw [hP, if_neg hne]; exact hno q hq, (fun h => by cases h), fun _ => rfl, (fun h => by cases h), hg, fun i j hi hj h1 h2 => ?_, rfl⟩
      rw [hP, hP] at h1; rw [hP] at h2
      by_cases a : i = F
      · by_cases b : j = F
        · omega
        · rw [if_pos a, if_neg b] at h1; exact absurd h1.symm (hno j hj)
      · by_cases b : j = F
        · rw [if_neg a, if_pos b] at h1; exact absurd h1 (hno i hi)
        · rw [if_neg a, if_neg b] at h1; rw [if_neg a] at h2; exact uq i j hi hj h1 h2
  · have e1 : n.ofP F = n.P F := by unfold NS.ofP; rw [if_neg hp', Int.toNat_natCast, if_pos hz]
    have e2 : n.ofA F = false := by unfold NS.ofA; rw [Int.toNat_natCast, hp]; simp; exact fun q => absurd q hz
    have e3 : n.ofN F = n := by unfold NS.ofN; rw [if_neg hp', Int.toNat_natCast, if_pos hz]
    rw [e3, e2] at hg
    rw [e1, e2, e3]
    exact ⟨by omega, ok.p F hF, rfl, fun q hq hne h => hne (uq q F hq hF h (by omega)), (fun h => by cases h), fun _ => rfl, (fun h => by cases h), hg, uq, rfl⟩
theorem pair_at (n : NS) {q : Nat} (h : q < 4) : n.pair q = n.P q := by
  unfold NS.pair; rw [if_pos ((NS.isP_iff _).2 ⟨by omega, by omega⟩), Int.toNat_natCast]
theorem uq_drop {n : NS} (uq : n.Uq) (p : Int) : (n.drop p).Uq := by
  unfold NS.drop
  split
  · exact uq
  · intro i j hi hj h1 h2
    rw [NS.all_P] at h1 h2
    have hP : ∀ q, (n.put p.toNat 0).P q = if q = p.toNat then 0 else n.P q := fun q => rfl
    rw [hP, hP] at h1; rw [hP] at h2
    by_cases a : i = p.toNat
    · rw [if_pos a] at h2; omega
    · rw [if_neg a] at h1 h2
      by_cases b : j = p.toNat
      · rw [if_pos b] at h1; omega
      · rw [if_neg b] at h1; exact uq i j hi hj h1 h2
theorem pair_drop (n : NS) {F : Nat} (hF : F < 4) : (n.drop F).pair F = 0 := by
  unfold NS.drop
  split
  · assumption
  · rw [pair_at _ hF, NS.all_P]
    show (if F = (F : Int).toNat then 0 else n.P F) = 0
    rw [if_pos (by omega)]

set_option maxRecDepth 20000 in
set_option maxHeartbeats 8000000 in
theorem pcidUnlike_walk (a0 : Option Addr) (len0 cap0 : Nat) (z0 : List Int) (w : World) (r0 : Row .i64 w a0 len0 cap0 z0) :
    Calls Try.prog 6 #[.slice a0 len0 cap0] w fun e w' => e = .returned (.bool true) ∧ Touch Nil w w' := by
  obtain ⟨hm0, p0⟩ := r0.plain
  unfold maxLen at hm0
  clear r0
  have hmm := @run_makeMap Try.prog
  go_enter Try.func6, Try.ntmps6
  go_wp2_with fail
  with_reducible refine (nnew_any 2 w).mono ?_
  rintro e w1 ⟨rfl, h1, t1, s1⟩
  rw [show NS.cpus 2 = 2 from rfl] at h1
  go_wp2_with fail
  have hC0 : PmI w (w.heap.size + 1) 0 (w1.alloc (.map #[] 0)) (NS.fresh 2) (.map []) := by
    refine ⟨h1.touch ((Touch.refl Nil w1).alloc _) id, NS.fresh_ok 2, rfl, ?_, Nat.le_refl _, PMof.empty.congr (fun c k => by unfold NS.took; simp [NS.fresh]), t1.alloc _⟩
    have := World.ownsMap_made (H := Unit) w1 Try.prog 83 (plainElem Try.prog 4)
    rwa [s1] at this
  clear h1 t1 s1
  go_loopg [4, 5] 60 (fun g M i wr => ∃ (k B : Nat) (n : NS) (D : DataW Unit), g + k = 60 ∧ M = .map (some B) ∧ i = .int .i64 k ∧ PmI w B (2 * k) wr n D ∧ n.Uq ∧ n.g ≤ k)
  case atStart => exact ⟨0, _, _, _, by omega, rfl, rfl, hC0, fun i j _ _ _ h => absurd rfl h, Nat.le_refl _⟩
  case round =>
    clear hC0
    obtain ⟨k, B, n, D, hgk, rfl, rfl, hC, uq, hg⟩ := hrel
    by_cases hgo : k < len0 ∧ k < 60
    · obtain ⟨hg1, hg2⟩ := hgo
      rcases p0 with p0 | ⟨b0, o0, rfl, hb0, hc0⟩
      · omega
      have k1 : (k : Int) < len0 := by omega
      have k2 : (k : Int) < 60 := by omega
      have hc := fun wx (t : Touch Nil w wx) => Plain.cell hc0 hb0 (t.below (Nat.le_refl _) (fun _ e => e.elim)) k (by omega)
      have f0 := bounds_i64 (hc0 k (by omega)).2
      generalize z0.getD k 0 = y0 at hc f0
      have c0 := hc _ hC.t
      have q4 : IntKind.i64.wrap (y0.tdiv 4) = y0.tdiv 4 := by rw [IntKind.wrap_i64]; have := tdiv_two y0 4 (by omega); omega
      have q16 : IntKind.i64.wrap (y0.tdiv 16) = y0.tdiv 16 := by rw [IntKind.wrap_i64]; have := tdiv_two y0 16 (by omega); omega
      obtain ⟨F, hF⟩ : ∃ F : Nat, y0 % 4 = F := ⟨(y0 % 4).toNat, by omega⟩
      have hF4 : F < 4 := by omega
      have hW := within_any y0 4 wr (by decide) (by decide)
      rw [hF] at hW
      go_wp2_with fail
      with_reducible refine hW.mono ?_
      rintro e wq ⟨rfl, rfl⟩
      go_wp2_with fail
      with_reducible refine (within_any (y0.tdiv 4) 3 wr (by decide) (by decide)).mono ?_
      rintro e wq ⟨rfl, rfl⟩
      clear hW
      obtain ⟨v, hv⟩ : ∃ v, Hid (y0.tdiv 4 % 3 = v) := ⟨_, rfl⟩
      rw [hv.out]
      obtain ⟨hN, ok, hc2, hO, hB, hd, hT⟩ := hC
      have tD := hO.tidy law2
      have hBn : B ≠ w.heap.size := by omega
      have hpP := npair_any hN (F : Int)
      rw [pair_at n hF4] at hpP
      have hP3 := ok.p F hF4
      by_cases hv0 : v = 0
      · subst hv0
        have hDr := fun wx (h : NAt wx w.heap.size n) => ndrop_any h ok (F : Int)
        have hPz := fun wx (h : NAt wx w.heap.size (n.drop F)) => npair_any h (F : Int)
        rw [pair_drop n hF4] at hPz
        have hg' : (n.drop F).g ≤ k := by
          unfold NS.drop; split
          · exact hg
          · rw [NS.all_g]; exact hg
        have hc' : (n.drop F).c = 2 := by
          unfold NS.drop; split
          · exact hc2
          · rw [NS.all_c]; exact hc2
        have hu' := uq_drop uq (F : Int)
        go_wp2_with fail
        with_reducible refine hpP.mono ?_
        rintro e wq ⟨rfl, rfl⟩
        by_cases hz : n.P F = 0
        · have e1 : n.drop F = n := by unfold NS.drop; rw [pair_at n hF4, if_pos hz]
          rw [hz]
          rw [e1] at hPz
          go_wp2_with fail
          with_reducible refine (hDr _ hN).mono ?_
          rintro e w4 ⟨rfl, hN4, t4⟩
          rw [e1] at hN4
          go_wp2_with fail
          with_reducible refine (hPz _ hN4).mono ?_
          rintro e wq ⟨rfl, rfl⟩
          have hE : PmI w B (2 * (k + 1)) w4 n D := ⟨hN4, ok, hc2, (ownsMap_touch hO t4 hBn).mono (by omega), hB, hd, hT.transNew t4 (fun i hi e => by omega)⟩
          clear hDr hPz hpP hN hO hT t4 hN4 hc c0
          go_wp2_with fail
          go_roundg (59 - k)
          case measure => omega
          case rel => exact ⟨k + 1, B, _, _, by omega, rfl, by go_num, hE, uq, by omega⟩
        · have hK1 : 0 < n.P F := by omega
          have e1 : n.drop F = (n.put F 0).all (n.P F) := by unfold NS.drop; rw [pair_at n hF4, if_neg hz, Int.toNat_natCast]
          have hKK : NS.isPr (n.P F : Int) = true := (NS.isPr_iff _).2 ⟨by omega, by omega⟩
          have htk : (n.drop F).took = fun c' k' => if n.hasC c' = true ∧ k' = (n.P F : Int) then true else n.took c' k' := by
            funext c' k'; rw [e1, NS.took_all hKK]; rfl
          have sK : smI (n.P F : Int) := by unfold smI; omega
          have kpos : (0 : Int) < (n.P F : Int) := by omega
          obtain ⟨kk, hkk⟩ : ∃ kk : Int, Hid ((n.P F : Int) = kk) := ⟨_, rfl⟩
          rw [hkk.out] at sK kpos htk
          rw [hkk.out]
          have okD := ok.drop (F : Int)
          generalize n.drop F = n' at *
          clear e1 hKK hz hK1 hP3 hpP
          go_wp2_with (first
            | (at_mapUpdate; refine wpList_mapUpdate_own _ rfl _ _ _ 82 rfl 83 4 law2 Try.underlying82 _ B (2 * k) _ rfl hO (by unfold maxLen; omega) _ _ _ rfl rfl (key2 0 kk (by first | assumption | (unfold smI; omega)) (by first | assumption | (unfold smI; omega))) _ [] (plainElem_bool Try.underlying4 true) ?_; intro w8 hO8 hG8)
            | (at_mapUpdate; refine wpList_mapUpdate_own _ rfl _ _ _ 82 rfl 83 4 law2 Try.underlying82 _ B (2 * k + 1) _ rfl hO8 (by unfold maxLen; omega) _ _ _ rfl rfl (key2 1 kk (by first | assumption | (unfold smI; omega)) (by first | assumption | (unfold smI; omega))) _ [] (plainElem_bool Try.underlying4 true) ?_; intro w9 hO9 hG9))
          have t9 := (Touch.ofGrown hG8).trans (Touch.ofGrown hG9)
          have hN9 := hN.touch t9 (fun e => hBn e.symm)
          have T9 := hT.transNew t9 (fun i hi e => by omega)
          have s0 : smI 0 := by unfold smI; omega
          have s1 : smI 1 := by unfold smI; omega
          have D2 := (hd.put tD s0 sK true).put (hO8.tidy law2) s1 sK true
          have hd' : PMof ((D.put (pkL 0 kk) (.lit (.bool true))).put (pkL 1 kk) (.lit (.bool true))) n'.took := by
            refine D2.congr (fun c k => ?_)
            rw [htk]
            have := cpu_has hc2 c
            show _ = if _ then _ else _
            by_cases hk : k = kk
            · by_cases h0 : c = 0
              · rw [if_pos (show n.hasC c = true ∧ k = kk from ⟨this.2 (by omega), hk⟩), if_neg (by omega), if_pos ⟨h0, hk⟩]
              · by_cases h1 : c = 1
                · rw [if_pos (show n.hasC c = true ∧ k = kk from ⟨this.2 (by omega), hk⟩), if_pos ⟨h1, hk⟩]
                · rw [if_neg (show ¬ (n.hasC c = true ∧ k = kk) from fun q => by have := this.1 q.1; omega), if_neg (by omega), if_neg (by omega)]
            · rw [if_neg (fun q => hk q.2), if_neg (fun q => hk q.2), if_neg (fun q => hk q.2)]
          clear hd D2 htk hO hO8 hG8 hG9 hN hT t9 tD
          with_reducible refine (hDr _ hN9).mono ?_
          rintro e w4 ⟨rfl, hN4, t4⟩
          go_wp2_with fail
          with_reducible refine (hPz _ hN4).mono ?_
          rintro e wq ⟨rfl, rfl⟩
          have hE : PmI w B (2 * (k + 1)) w4 n' _ := ⟨hN4, okD, hc', (ownsMap_touch hO9 t4 hBn).mono (by omega), hB, hd', T9.transNew t4 (fun i hi e => by omega)⟩
          clear hDr hPz hN9 hO9 T9 t4 hN4 hd' hc c0
          go_wp2_with fail
          go_roundg (59 - k)
          case measure => omega
          case rel => exact ⟨k + 1, B, _, _, by omega, rfl, by go_num, hE, hu', by omega⟩
      · have hv1 : (v == 0) = false := by simpa using hv0
        have hG := ngen_any hN
        have hOf := nof_any hN (by omega) (F : Int)
        have fO := ofF ok uq hF4
        have okO := ok.ofN (F : Int)
        generalize n.ofP F = K at *
        generalize n.ofA F = A at *
        generalize n.ofN F = n' at *
        obtain ⟨K1, K3, fown, fne, fzero, fsame, fnone, fg, uqO, fc⟩ := fO
        have hcO : n'.c = 2 := fc.trans hc2
        clear hpP hP3 fc hv
        go_wp2_with fail
        with_reducible refine hG.mono ?_
        rintro e wq ⟨rfl, rfl⟩
        go_wp2_with fail
        with_reducible refine hOf.mono ?_
        rintro e w4 ⟨rfl, hN4, t4⟩
        have hO4 := ownsMap_touch hO t4 hBn
        have T4 := hT.transNew t4 (fun i hi e => by omega)
        have hp4 := npair_any hN4 (F : Int)
        rw [pair_at n' hF4, fown] at hp4
        have hg4 := ngen_any hN4
        clear hG hOf hN hO hT t4 tD c0
        have kk1 : (1 : Int) ≤ K := by omega
        have kk3 : (K : Int) ≤ 3 := by omega
        cases A
        · have fg' : n'.g = n.g := by simpa using fg
          have hge : ((n.g : Int) == (n.g : Int) + 1) = false := by rw [beq_eq_false_iff_ne]; omega
          rw [fg'] at hg4
          have hd5 : PMof D n'.took := by rw [fsame rfl]; exact hd
          have hgO : n'.g ≤ k + 1 := by omega
          clear fzero fsame fnone fg hd
          go_wp2_with fail
          with_reducible refine hp4.mono ?_
          rintro e wq ⟨rfl, rfl⟩
          go_wp2_with fail
          with_reducible refine hg4.mono ?_
          rintro e wq ⟨rfl, rfl⟩
          go_wp2_with fail
          clear hp4 hg4
          obtain ⟨W5, hW5⟩ : ∃ W5, W5 = w4 := ⟨_, rfl⟩
          subst hW5
          obtain ⟨B5, hB5e⟩ : ∃ B5, B5 = B := ⟨_, rfl⟩
          subst hB5e
          obtain ⟨D5, hD5e⟩ : ∃ D5, D5 = D := ⟨_, rfl⟩
          subst hD5e
          have hN5 := hN4
          have hO5 := hO4
          have T5 := T4
          have hB5 := hB
          have hB5n := hBn
          clear hN4 hO4 T4 hB hBn

          have c4 := hc _ T5
          clear hc
          go_loopg [11] 4 (fun g i wx => ∃ j : Nat, g + j = 4 ∧ i = .int .i64 j ∧ W5 = wx)
          case atStart => exact ⟨0, by omega, rfl, rfl⟩
          case round =>
            obtain ⟨j, hgj, rfl, rfl⟩ := hrel
            by_cases hj : j < 4
            · have j1 : (j : Int) < 4 := by omega
              by_cases hjF : j = F
              · subst hjF
                go_wp2_with fail
                go_roundg (3 - j)
                case measure => omega
                case rel => exact ⟨j + 1, by omega, by go_num, rfl⟩
              · have hne : ((j : Int) != (F : Int)) = true := by simp; omega
                have hPj := npair_any hN5 (j : Int)
                rw [pair_at n' hj] at hPj
                have hnK : ((n'.P j : Int) == (K : Int)) = false := by have := fne j hj hjF; simp; omega
                go_wp2_with fail
                with_reducible refine hPj.mono ?_
                rintro e wq ⟨rfl, rfl⟩
                go_wp2_with fail
                go_roundg (3 - j)
                case measure => omega
                case rel => exact ⟨j + 1, by omega, by go_num, rfl⟩
            · have hj4 : j = 4 := by omega
              subst hj4
              go_wp2_with fail
              have c1 := Int.emod_nonneg (y0.tdiv 16) (b := 2) (by omega)
              have c2 := Int.emod_lt_of_pos (y0.tdiv 16) (b := 2) (by omega)
              have sC : smI (y0.tdiv 16 % 2) := by unfold smI; omega
              have hW2 := within_any (y0.tdiv 16) 2 W5 (by decide) (by decide)
              generalize y0.tdiv 16 % 2 = cc at *
              with_reducible refine hW2.mono ?_
              rintro e wq ⟨rfl, rfl⟩
              clear hW2
              have sK : smI (K : Int) := by unfold smI; omega
              have hlk : ∀ wx, PM wx B5 (2 * k) D5 → (Instr.lookup 82 (.map (some B5)) (.agg #[.int .i64 cc, .int .i64 K]) false).run Try.prog wx = .ok (.bool (n'.took cc K)) wx := fun wx h => h.look sC sK (hd5 cc K sC sK)
              have hl0 := hlk _ hO5
              have hl0d := hlk _ hO5.drew
              have hNd : NAt W5.drew w.heap.size n' := hN5
              have hOd : PM W5.drew B5 (2 * k) D5 := hO5
              have hT1 := ntake_any hNd okO cc K
              have hDel := hd5.del sC sK
              have tw := (Touch.refl (· = w.heap.size) W5).drew
              obtain ⟨b, hb⟩ : ∃ b, Hid (n'.took cc K = b) := ⟨_, rfl⟩
              rw [hb.out] at hT1 hl0 hl0d hlk
              go_upto_region 28 with fail
              go_region_held3 (fun wx => (Instr.lookup 82 (.map (some B5)) (.agg #[.int .i64 cc, .int .i64 K]) false).run Try.prog wx = .ok (.bool b) wx) (first | exact hl0 | exact hl0d | exact hl6)
                (first
                  | (go_at_call 32; refine hT1.mono ?_; rintro e w6 ⟨hx, hN6, t6⟩; subst hx; have hO6 := ownsMap_touch hOd t6 hB5n; have hl6 := hlk _ hO6))
              all_goals
                have T6 := T5.transNew (tw.trans t6) (fun i hi e => by omega)
                clear hl0 hl0d hl6 hlk hN5 hO5 hOd hNd hT1 tw t6
                go_wp2_with (first
                  | (at_delete; refine wpList_delete_own _ rfl _ _ 82 83 rfl 4 law2 Try.underlying82 _ B5 (2 * k) _ rfl hO6 _ _ rfl (key2 cc K sC sK) ?_; intro w9 hO9 hG9))
                have t9 := Touch.ofGrown hG9.grown
                have hE : PmI w B5 (2 * (k + 1)) w9 (n'.take cc K) (D5.del (pkL cc K)) := ⟨hN6.touch t9 (fun e => hB5n e.symm), okO.take _ _, by rw [NS.take_c]; exact hcO, hO9.mono (by omega), hB5, hDel.congr (fun c k => (NS.took_take n' cc K c k).symm), T6.transNew t9 (fun i hi e => by omega)⟩
                have hU : (n'.take cc K).Uq := by intro i j hi hj; rw [NS.take_P]; exact uqO i j hi hj
                go_roundg (59 - k)
                case measure => omega
                case rel => exact ⟨k + 1, B5, _, _, by omega, rfl, by go_num, hE, hU, by rw [NS.take_g]; omega⟩

        · have fg' : n'.g = n.g + 1 := by simpa using fg
          have hge : (((n.g : Int) + 1) == (n.g : Int) + 1) = true := by simp
          rw [fg', show ((n.g + 1 : Nat) : Int) = (n.g : Int) + 1 by omega] at hg4
          have hgO : n'.g ≤ k + 1 := by omega
          have fz := fzero rfl
          have fn := fnone rfl
          clear fzero fsame fnone fg hd
          go_wp2_with fail
          with_reducible refine hp4.mono ?_
          rintro e wq ⟨rfl, rfl⟩
          go_wp2_with fail
          with_reducible refine hg4.mono ?_
          rintro e wq ⟨rfl, rfl⟩
          go_wp2_with fail
          have hlt := hN4.lt
          have tA := (Touch.refl Nil w4).alloc (.map #[] 0)
          have hN5 := hN4.touch tA id
          have T5 := T4.trans tA
          have hO5 := World.ownsMap_made (H := Unit) w4 Try.prog 83 (plainElem Try.prog 4)
          have hB5 : w.heap.size + 1 ≤ w4.heap.size := by omega
          have hB5n : w4.heap.size ≠ w.heap.size := by omega
          clear hp4 hg4 hN4 hO4 T4 tA hlt hB hBn
          generalize w4.alloc (.map #[] 0) = W5 at *
          generalize w4.heap.size = B5 at *
          obtain ⟨D5, hD5e⟩ : ∃ D5 : DataW Unit, D5 = .map [] := ⟨_, rfl⟩
          rw [← hD5e] at hO5
          have hd5 : PMof D5 n'.took := by rw [fn, hD5e]; exact PMof.empty
          clear hD5e fn

          have c4 := hc _ T5
          clear hc
          go_loopg [11] 4 (fun g i wx => ∃ j : Nat, g + j = 4 ∧ i = .int .i64 j ∧ W5 = wx)
          case atStart => exact ⟨0, by omega, rfl, rfl⟩
          case round =>
            obtain ⟨j, hgj, rfl, rfl⟩ := hrel
            by_cases hj : j < 4
            · have j1 : (j : Int) < 4 := by omega
              by_cases hjF : j = F
              · subst hjF
                go_wp2_with fail
                go_roundg (3 - j)
                case measure => omega
                case rel => exact ⟨j + 1, by omega, by go_num, rfl⟩
              · have hne : ((j : Int) != (F : Int)) = true := by simp; omega
                have hPj := npair_any hN5 (j : Int)
                rw [pair_at n' hj] at hPj
                have hnK : ((n'.P j : Int) == (K : Int)) = false := by have := fne j hj hjF; simp; omega
                have hz : (n'.P j : Int) = 0 := by have := fz j hj hjF; omega
                go_wp2_with fail
                with_reducible refine hPj.mono ?_
                rintro e wq ⟨rfl, rfl⟩
                go_wp2_with fail
                with_reducible refine hPj.mono ?_
                rintro e wq ⟨rfl, rfl⟩
                go_wp2_with fail
                go_roundg (3 - j)
                case measure => omega
                case rel => exact ⟨j + 1, by omega, by go_num, rfl⟩
            · have hj4 : j = 4 := by omega
              subst hj4
              go_wp2_with fail
              have c1 := Int.emod_nonneg (y0.tdiv 16) (b := 2) (by omega)
              have c2 := Int.emod_lt_of_pos (y0.tdiv 16) (b := 2) (by omega)
              have sC : smI (y0.tdiv 16 % 2) := by unfold smI; omega
              have hW2 := within_any (y0.tdiv 16) 2 W5 (by decide) (by decide)
              generalize y0.tdiv 16 % 2 = cc at *
              with_reducible refine hW2.mono ?_
              rintro e wq ⟨rfl, rfl⟩
              clear hW2
              have sK : smI (K : Int) := by unfold smI; omega
              have hlk : ∀ wx, PM wx B5 0 D5 → (Instr.lookup 82 (.map (some B5)) (.agg #[.int .i64 cc, .int .i64 K]) false).run Try.prog wx = .ok (.bool (n'.took cc K)) wx := fun wx h => h.look sC sK (hd5 cc K sC sK)
              have hl0 := hlk _ hO5
              have hl0d := hlk _ hO5.drew
              have hNd : NAt W5.drew w.heap.size n' := hN5
              have hOd : PM W5.drew B5 0 D5 := hO5
              have hT1 := ntake_any hNd okO cc K
              have hDel := hd5.del sC sK
              have tw := (Touch.refl (· = w.heap.size) W5).drew
              obtain ⟨b, hb⟩ : ∃ b, Hid (n'.took cc K = b) := ⟨_, rfl⟩
              rw [hb.out] at hT1 hl0 hl0d hlk
              go_upto_region 28 with fail
              go_region_held3 (fun wx => (Instr.lookup 82 (.map (some B5)) (.agg #[.int .i64 cc, .int .i64 K]) false).run Try.prog wx = .ok (.bool b) wx) (first | exact hl0 | exact hl0d | exact hl6)
                (first
                  | (go_at_call 32; refine hT1.mono ?_; rintro e w6 ⟨hx, hN6, t6⟩; subst hx; have hO6 := ownsMap_touch hOd t6 hB5n; have hl6 := hlk _ hO6))
              all_goals
                have T6 := T5.transNew (tw.trans t6) (fun i hi e => by omega)
                clear hl0 hl0d hl6 hlk hN5 hO5 hOd hNd hT1 tw t6
                go_wp2_with (first
                  | (at_delete; refine wpList_delete_own _ rfl _ _ 82 83 rfl 4 law2 Try.underlying82 _ B5 0 _ rfl hO6 _ _ rfl (key2 cc K sC sK) ?_; intro w9 hO9 hG9))
                have t9 := Touch.ofGrown hG9.grown
                have hE : PmI w B5 (2 * (k + 1)) w9 (n'.take cc K) (D5.del (pkL cc K)) := ⟨hN6.touch t9 (fun e => hB5n e.symm), okO.take _ _, by rw [NS.take_c]; exact hcO, hO9.mono (by omega), hB5, hDel.congr (fun c k => (NS.took_take n' cc K c k).symm), T6.transNew t9 (fun i hi e => by omega)⟩
                have hU : (n'.take cc K).Uq := by intro i j hi hj; rw [NS.take_P]; exact uqO i j hi hj
                go_roundg (59 - k)
                case measure => omega
                case rel => exact ⟨k + 1, B5, _, _, by omega, rfl, by go_num, hE, hU, by rw [NS.take_g]; omega⟩

    · have hq : (¬ k < len0 ∧ decide ((k : Int) < len0) = false) ∨ (k < len0 ∧ (k : Int) < len0 ∧ decide ((k : Int) < 60) = false) := by
        by_cases hl : k < len0
        · exact Or.inr ⟨hl, by omega, by simp; omega⟩
        · exact Or.inl ⟨hl, by simp; omega⟩
      have hT := hC.t
      clear p0 hC hg hgo uq
      rcases hq with ⟨q0, q1⟩ | ⟨q0, q1, q2⟩ <;>
      · go_wp2_with fail
        with_reducible refine (wakes11 _).mono ?_
        rintro e w9 ⟨rfl, t9⟩
        have T9 := hT.trans t9
        go_wp2_with fail
        go_ret
        exact ⟨rfl, T9⟩
end Go.Proofs.Ytpffilnebffijaa
